/- The program's registry: RegistryOk, Live, Opened, Happened, Swept. -/
import Derived.Test.YtgodopiejiajjabRegImpl2
import Derived.Test.YtgodopiejiajjabRegSpec3


namespace Go.Proofs.Ytgodopiejiajjab
open Go.RowKit
set_option maxRecDepth 100000
set_option linter.unusedSimpArgs false
set_option linter.unusedVariables false
theorem keep_swept (L : List EntryD) : keep [.inl false] L = L.filter fun e => !decide (e.state = 4) := by unfold keep; congr 1; funext e; simp [wnP, liB]
set_option maxHeartbeats 2000000 in
theorem implSwept (d : RegistryD) (v : Value) (w : World) (hr : RdR entryS w v d.es) :
    Calls Try.prog 7 #[.agg #[.int .i64 d.lim, .int .i64 d.top, v]] w fun x w' => ∃ v', x = .returned (.agg #[.int .i64 (sweptD d).lim, .int .i64 (sweptD d).top, v']) ∧ OwX entryS w' w.heap.size w'.heap.size v' (sweptD d).es ∧ Below w.heap.size w w' := by
  obtain ⟨ad, cap, rfl, h1, h2⟩ := hr.form
  have HR := hide hr
  clear hr
  have hok := fun w h => implRight d (.slice ad d.es.length cap) w h
  have honly := implOnly d.es [.inl false] (.slice ad d.es.length cap)
  rw [keep_swept] at honly
  have HD : Hid (sweptD d = if okRg d = true then ⟨d.lim, d.top, d.es.filter fun e => !decide (e.state = 4)⟩ else ⟨0, 0, []⟩) := rfl
  obtain ⟨dr, hD⟩ : ∃ y, sweptD d = y := ⟨_, rfl⟩
  rw [hD] at HD ⊢
  clear hD
  have hfl : (d.es.filter fun e => !decide (e.state = 4)).length ≤ d.es.length := List.length_filter_le _ _
  generalize (d.es.filter fun e => !decide (e.state = 4)) = M at *
  go_enter Try.func7, Try.ntmps7
  go_wp2_with fail
  obtain ⟨V, hV⟩ : ∃ V, (w.alloc (.cells #[.int .i64 d.lim, .int .i64 d.top, .slice ad d.es.length cap] 28)).alloc (.cells #[.int .i64 0, .int .i64 0, .slice none 0 0] 28) = V := ⟨_, rfl⟩
  have HB : Hid (Below w.heap.size w V) := by show Below _ _ _; rw [← hV]; exact bo_alloc ((Below.refl _ _).alloc (Nat.le_refl _) _) _
  have HX : Hid (RowIs V w.heap.size 28 [.int .i64 d.lim, .int .i64 d.top, .slice ad d.es.length cap]) := by show RowIs _ _ _ _; rw [← hV]; exact (rowIs_new w 28 [.int .i64 d.lim, .int .i64 d.top, .slice ad d.es.length cap]).alloc _
  have HRR : Hid (RowIs V (w.heap.size + 1) 28 [.int .i64 0, .int .i64 0, .slice none 0 0]) := by show RowIs _ _ _ _; rw [← hV]; simpa using rowIs_new (w.alloc (.cells #[.int .i64 d.lim, .int .i64 d.top, .slice ad d.es.length cap] 28)) 28 [.int .i64 0, .int .i64 0, .slice none 0 0]
  rw [hV]
  clear hV
  refine (hok _ (HR.out.new HB.out)).mono ?_
  cases hq : okRg d
  · rintro z w1 ⟨rfl, hb1⟩
    have HDD : Hid (dr = ⟨0, 0, []⟩) := by show dr = _; rw [HD.out, if_neg (by rw [hq]; simp)]
    obtain rfl := HDD.out
    replace HRR := hide (HRR.out.new hb1)
    replace HB := hide (bchain HB.out hb1)
    clear hb1 HD HDD
    have r0 := HRR.out.cell (j := 0) rfl; have r1 := HRR.out.cell (j := 1) rfl; have r2 := HRR.out.cell (j := 2) rfl; have r3 := HRR.out.frozen 0; have r4 := HRR.out.frozen 1; have r5 := HRR.out.frozen 2; have r6 := HRR.out.lt
    go_wp2_with fail
    refine bodyPost_ret (v := (.agg #[.int .i64 0, .int .i64 0, .slice none 0 0])) (by simp [results, Try.results7, go_sem, *]) rfl ?_
    exact ⟨_, rfl, owX_nil _ _ _, by repeat' (first | (with_reducible exact HB.out) | (with_reducible refine Below.setCell ?_ ?_ _) | (with_reducible refine Below.alloc ?_ ?_ _) | (with_reducible refine Below.drew ?_) | (with_reducible refine bo_drewN _ ?_) | omega | (simp; done) | (simp; omega))⟩
  rintro z w1 ⟨rfl, hb1⟩
  have h60 := (okRg_iff.1 hq).2.2.1
  have HDD : Hid (dr = ⟨d.lim, d.top, M⟩) := by show dr = _; rw [HD.out, if_pos hq]
  obtain rfl := HDD.out
  replace HX := hide (HX.out.new hb1)
  replace HRR := hide (HRR.out.new hb1)
  replace HB := hide (bchain HB.out hb1)
  clear hb1 HD HDD hq
  have x0 := HX.out.cell (j := 0) rfl; have x1 := HX.out.cell (j := 1) rfl; have x2 := HX.out.cell (j := 2) rfl; have x3 := HX.out.frozen 0; have x4 := HX.out.frozen 1; have x5 := HX.out.frozen 2; have x6 := HX.out.lt
  go_wp2_with fail
  refine (implList d _ _ (HR.out.new HB.out)).mono ?_; rintro z w2 ⟨rfl, hb2⟩
  replace HX := hide (HX.out.new hb2)
  replace HRR := hide (HRR.out.new hb2)
  replace HB := hide (bchain HB.out hb2)
  clear hb2 x0 x1 x2 x3 x4 x5 x6
  go_wp2_with fail
  have hbF : Below w2.heap.size w2 (w2.alloc (.cells #[.func (.func 17) #[] #[]] 43)) := (Below.refl _ _).alloc (Nat.le_refl _) _
  have hF : Reads (w2.alloc (.cells #[.func (.func 17) #[] #[]] 43)) (.slice (some ⟨w2.heap.size, 0, none⟩) 1 1) 1 1 (([.inl false] : List Wn).map wnV) := reads_of_owns (owns_lit w2 43 1 1 #[.func (.func 17) #[] #[]] rfl (by omega))
  replace HX := hide (HX.out.new hbF)
  replace HRR := hide (HRR.out.new hbF)
  replace HB := hide (bchain HB.out hbF)
  have hlr := HRR.out.lt
  refine (honly (some ⟨w2.heap.size, 0, none⟩) 1 _ (HR.out.new HB.out) hF h60 (by simp)).mono ?_
  rintro z w3 ⟨v3, rfl, ho3, hb3⟩
  obtain ⟨a3, p3, rfl, _⟩ := owns_form ho3
  replace HX := hide (HX.out.new hb3)
  replace HRR := hide (HRR.out.new hb3)
  replace HB := hide (bchain HB.out hb3)
  have HO := hide ho3
  have HOV : Hid (∀ q, (Value.slice a3 M.length p3).ownBlock = some q → w.heap.size + 2 ≤ q) := fun q hq => by have := (HO.out.lt q hq).1; omega
  clear hF hbF hb3 ho3 honly hok
  have x0 := HX.out.cell (j := 0) rfl; have x1 := HX.out.cell (j := 1) rfl; have x2 := HX.out.cell (j := 2) rfl; have x3 := HX.out.frozen 0; have x4 := HX.out.frozen 1; have x5 := HX.out.frozen 2; have x6 := HX.out.lt
  have r0 := HRR.out.cell (j := 0) rfl; have r1 := HRR.out.cell (j := 1) rfl; have r2 := HRR.out.cell (j := 2) rfl; have r3 := HRR.out.frozen 0; have r4 := HRR.out.frozen 1; have r5 := HRR.out.frozen 2; have r6 := HRR.out.lt
  go_wp2_with fail
  refine bodyPost_ret (v := (.agg #[.int .i64 d.lim, .int .i64 d.top, .slice a3 M.length p3])) (by simp [results, Try.results7, go_sem, *]) rfl ?_
  refine ⟨_, rfl, ev_ow (owns_base (base := (w2.alloc (.cells #[.func (.func 17) #[] #[]] 43)).heap.size) (by repeat' (first | (with_reducible exact HO.out) | (with_reducible refine owns_far _ ?_ HOV.out _ _ ?_) | (with_reducible refine World.ownsRow.alloc ?_ _) | (simp; done) | (simp; omega))) (fun q hq => by have := HOV.out q hq; omega)), by repeat' (first | (with_reducible exact HB.out) | (with_reducible refine Below.setCell ?_ ?_ _) | (with_reducible refine Below.alloc ?_ ?_ _) | (with_reducible refine Below.drew ?_) | (with_reducible refine bo_drewN _ ?_) | omega | (simp; done) | (simp; omega))⟩
end Go.Proofs.Ytgodopiejiajjab
