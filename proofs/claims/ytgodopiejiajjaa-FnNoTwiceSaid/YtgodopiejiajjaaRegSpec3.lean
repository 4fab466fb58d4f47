/- Chapter 10's model: Opened, Happened, Swept. -/
import Derived.Test.YtgodopiejiajjaaRegSpec2


namespace Go.Proofs.Ytgodopiejiajjaa
open Go.RowKit
set_option maxRecDepth 100000
set_option linter.unusedSimpArgs false
set_option linter.unusedVariables false
set_option maxHeartbeats 2000000 in
theorem specOpened (d : RegistryD) (v : Value) (id : Int) (w : World) (hr : RdR entryS w v d.es) :
    Calls Try.prog 11 #[.agg #[.int .i64 d.lim, .int .i64 d.top, v], .int .i64 id] w fun x w' => ∃ v', x = .returned (.tuple #[.agg #[.int .i64 (openedD d id).1.lim, .int .i64 (openedD d id).1.top, v'], .int .i64 (openedD d id).2]) ∧ OwX entryS w' w.heap.size w'.heap.size v' (openedD d id).1.es ∧ Below w.heap.size w w' := by
  obtain ⟨ad, cap, rfl, h1, h2⟩ := hr.form
  have HR := hide hr
  clear hr
  have hok := fun w h => specRegistryOk d (.slice ad d.es.length cap) w h
  obtain ⟨⟨dr, dk⟩, hD⟩ : ∃ y, openedD d id = y := ⟨_, rfl⟩
  rw [hD]
  dsimp only
  have HD := hide hD
  clear hD
  go_enter Try.func11, Try.ntmps11
  go_wp2_with fail
  generalize hV : (w.alloc (.cells #[.int .i64 d.lim, .int .i64 d.top, .slice ad d.es.length cap] 26)).alloc (.cells #[.int .i64 0, .int .i64 0, .slice none 0 0] 26) = V
  have HBW : Hid (Below w.heap.size w V) := by show Below _ _ _; rw [← hV]; exact bo_alloc ((Below.refl _ _).alloc (Nat.le_refl _) _) _
  have HX : Hid (RowIs V w.heap.size 26 [.int .i64 d.lim, .int .i64 d.top, .slice ad d.es.length cap]) := by show RowIs _ _ _ _; rw [← hV]; exact (rowIs_new w 26 [.int .i64 d.lim, .int .i64 d.top, .slice ad d.es.length cap]).alloc _
  have HRR : Hid (RowIs V (w.heap.size + 1) 26 [.int .i64 0, .int .i64 0, .slice none 0 0]) := by show RowIs _ _ _ _; rw [← hV]; simpa using rowIs_new (w.alloc (.cells #[.int .i64 d.lim, .int .i64 d.top, .slice ad d.es.length cap] 26)) 26 [.int .i64 0, .int .i64 0, .slice none 0 0]
  clear hV
  refine (hok _ (HR.out.new HBW.out)).mono ?_
  cases hq : okRg d
  · rintro x w1 ⟨rfl, hb1⟩
    replace HRR := hide (HRR.out.new hb1)
    replace HBW := hide (bchain HBW.out hb1)
    have HDD : Hid ((dr, dk) = ((⟨0, 0, []⟩ : RegistryD), 1)) := by show _ = _; rw [← HD.out]; unfold openedD; rw [if_neg (by rw [hq]; simp)]
    obtain ⟨rfl, rfl⟩ := Prod.mk.inj HDD.out
    clear hb1
    have r0 := HRR.out.cell (j := 0) rfl
    have r1 := HRR.out.cell (j := 1) rfl
    have r2 := HRR.out.cell (j := 2) rfl
    have r3 := HRR.out.frozen 0
    have r4 := HRR.out.frozen 1
    have r5 := HRR.out.frozen 2
    go_wp2_with fail
    refine bodyPost_ret (v := (.tuple #[.agg #[.int .i64 0, .int .i64 0, .slice none 0 0], .int .i64 1])) (by simp [results, Try.results11, go_sem, *]) rfl ?_
    exact ⟨_, rfl, owX_nil _ _ _, ((HBW.out.setCell (show w.heap.size ≤ w.heap.size + 1 by omega) _).setCell (show w.heap.size ≤ w.heap.size + 1 by omega) _).setCell (show w.heap.size ≤ w.heap.size + 1 by omega) _⟩
  rintro x w1 ⟨rfl, hb1⟩
  replace HX := hide (HX.out.new hb1)
  replace HRR := hide (HRR.out.new hb1)
  replace HBW := hide (bchain HBW.out hb1)
  have HDD : Hid (openRaw d id = (dr, dk)) := by show _ = _; rw [← HD.out]; unfold openedD; rw [if_pos hq]
  have h60 := (okRg_iff.1 hq).2.2.1
  have hlR1 := HRR.out.lt
  clear hb1
  have x0 := HX.out.cell (j := 0) rfl
  have x1 := HX.out.cell (j := 1) rfl
  have x2 := HX.out.cell (j := 2) rfl
  have hlX := HX.out.lt
  go_wp2_with fail
  refine (copyReg d _ _ (HR.out.new HBW.out) (by omega)).mono ?_
  rintro x w2 ⟨v2, rfl, ho2, hb2⟩
  obtain ⟨a2, p2, rfl, _⟩ := owns_form ho2
  replace HRR := hide (HRR.out.new hb2)
  have hw1 := HBW.out.size
  replace HBW := hide (bchain HBW.out hb2)
  have hb2s := hb2.size
  have hRR2 := HRR.out.lt
  clear hb2 x0 x1 x2 hlX HX
  have HTA := hide (regAt_new (d := d) ho2)
  clear ho2
  go_upto_region 4 with fail
  have hb3 : Below w2.heap.size w2 (w2.alloc (.cells #[.int .i64 d.lim, .int .i64 d.top, .slice a2 d.es.length p2] 26)) := (Below.refl _ _).alloc (Nat.le_refl _) _
  generalize w2.alloc (.cells #[.int .i64 d.lim, .int .i64 d.top, .slice a2 d.es.length p2] 26) = w3 at *
  replace HRR := hide (HRR.out.new hb3)
  replace HBW := hide (bchain HBW.out hb3)
  have hb3s := hb3.size
  clear hb3
  go_wp2_with fail
  have hcall := openAt w2.heap.size w1.heap.size d id w3 HTA.out (by omega) (by omega)
  rw [HDD.out] at hcall
  dsimp only at hcall
  refine hcall.mono ?_; rintro x w4 ⟨rfl, hta, hbb⟩
  clear hcall
  have hbz := hbb w1.heap.size (Nat.le_refl _) (by omega) (by omega)
  have hRR4 := HRR.out.kept (hbz.block _ (by omega))
  have HBW4 := hide (HBW.out.trans (hbz.mono (by omega)))
  clear hbb
  obtain ⟨a9, p9, hrow, hown, _⟩ := hta.ex
  have t0 := hrow.cell (j := 0) rfl
  have t1 := hrow.cell (j := 1) rfl
  have t2 := hrow.cell (j := 2) rfl
  have hlT := hrow.lt
  have r0 := hRR4.cell (j := 0) rfl
  have r1 := hRR4.cell (j := 1) rfl
  have r2 := hRR4.cell (j := 2) rfl
  have r3 := hRR4.frozen 0
  have r4 := hRR4.frozen 1
  have r5 := hRR4.frozen 2
  have hlR := hRR4.lt
  have hov : ∀ q, (Value.slice a9 dr.es.length p9).ownBlock = some q → w.heap.size + 2 ≤ q := fun q hq => by have := (hown.lt q hq).1; omega
  have HO := hide hown
  have HOV := hide hov
  have hgT : w2.heap.size ≠ w.heap.size + 1 := by omega
  clear hrow hown hov hta hRR4 hbz
  go_wp2_with fail
  refine bodyPost_ret (v := (.tuple #[.agg #[.int .i64 dr.lim, .int .i64 dr.top, .slice a9 dr.es.length p9], .int .i64 dk])) (by simp [results, Try.results11, go_sem, *]) rfl ?_
  have hlt1 : w.heap.size + 1 < w.heap.size + 2 := by omega
  have hfin := owns_far (w.heap.size + 2) (owns_far (w.heap.size + 2) (owns_far (w.heap.size + 2) HO.out HOV.out ⟨w.heap.size + 1, 0, none⟩ (.int .i64 dr.lim) hlt1) HOV.out ⟨w.heap.size + 1, 1, none⟩ (.int .i64 dr.top) hlt1) HOV.out ⟨w.heap.size + 1, 2, none⟩ (.slice a9 dr.es.length p9) hlt1
  exact ⟨_, rfl, ev_ow (owns_base hfin (fun q hq => by have := HOV.out q hq; omega)), ((HBW4.out.setCell (show w.heap.size ≤ w.heap.size + 1 by omega) _).setCell (show w.heap.size ≤ w.heap.size + 1 by omega) _).setCell (show w.heap.size ≤ w.heap.size + 1 by omega) _⟩
set_option maxHeartbeats 2000000 in
theorem specHappened (d : RegistryD) (v : Value) (id : Int) (evn : Int) (w : World) (hr : RdR entryS w v d.es) :
    Calls Try.prog 23 #[.agg #[.int .i64 d.lim, .int .i64 d.top, v], .int .i64 id, .int .i64 evn] w fun x w' => ∃ v', x = .returned (.tuple #[.agg #[.int .i64 (happenedD d id evn).1.lim, .int .i64 (happenedD d id evn).1.top, v'], .bool (happenedD d id evn).2]) ∧ OwX entryS w' w.heap.size w'.heap.size v' (happenedD d id evn).1.es ∧ Below w.heap.size w w' := by
  obtain ⟨ad, cap, rfl, h1, h2⟩ := hr.form
  have HR := hide hr
  clear hr
  have hok := fun w h => specRegistryOk d (.slice ad d.es.length cap) w h
  obtain ⟨⟨dr, dk⟩, hD⟩ : ∃ y, happenedD d id evn = y := ⟨_, rfl⟩
  rw [hD]
  dsimp only
  have HD := hide hD
  clear hD
  go_enter Try.func23, Try.ntmps23
  go_wp2_with fail
  generalize hV : (w.alloc (.cells #[.int .i64 d.lim, .int .i64 d.top, .slice ad d.es.length cap] 26)).alloc (.cells #[.int .i64 0, .int .i64 0, .slice none 0 0] 26) = V
  have HBW : Hid (Below w.heap.size w V) := by show Below _ _ _; rw [← hV]; exact bo_alloc ((Below.refl _ _).alloc (Nat.le_refl _) _) _
  have HX : Hid (RowIs V w.heap.size 26 [.int .i64 d.lim, .int .i64 d.top, .slice ad d.es.length cap]) := by show RowIs _ _ _ _; rw [← hV]; exact (rowIs_new w 26 [.int .i64 d.lim, .int .i64 d.top, .slice ad d.es.length cap]).alloc _
  have HRR : Hid (RowIs V (w.heap.size + 1) 26 [.int .i64 0, .int .i64 0, .slice none 0 0]) := by show RowIs _ _ _ _; rw [← hV]; simpa using rowIs_new (w.alloc (.cells #[.int .i64 d.lim, .int .i64 d.top, .slice ad d.es.length cap] 26)) 26 [.int .i64 0, .int .i64 0, .slice none 0 0]
  clear hV
  refine (hok _ (HR.out.new HBW.out)).mono ?_
  cases hq : okRg d
  · rintro x w1 ⟨rfl, hb1⟩
    replace HRR := hide (HRR.out.new hb1)
    replace HBW := hide (bchain HBW.out hb1)
    have HDD : Hid ((dr, dk) = ((⟨0, 0, []⟩ : RegistryD), false)) := by show _ = _; rw [← HD.out]; unfold happenedD; rw [if_neg (by rw [hq]; simp)]
    obtain ⟨rfl, rfl⟩ := Prod.mk.inj HDD.out
    clear hb1
    have r0 := HRR.out.cell (j := 0) rfl
    have r1 := HRR.out.cell (j := 1) rfl
    have r2 := HRR.out.cell (j := 2) rfl
    have r3 := HRR.out.frozen 0
    have r4 := HRR.out.frozen 1
    have r5 := HRR.out.frozen 2
    go_wp2_with fail
    refine bodyPost_ret (v := (.tuple #[.agg #[.int .i64 0, .int .i64 0, .slice none 0 0], .bool false])) (by simp [results, Try.results23, go_sem, *]) rfl ?_
    exact ⟨_, rfl, owX_nil _ _ _, ((HBW.out.setCell (show w.heap.size ≤ w.heap.size + 1 by omega) _).setCell (show w.heap.size ≤ w.heap.size + 1 by omega) _).setCell (show w.heap.size ≤ w.heap.size + 1 by omega) _⟩
  rintro x w1 ⟨rfl, hb1⟩
  replace HX := hide (HX.out.new hb1)
  replace HRR := hide (HRR.out.new hb1)
  replace HBW := hide (bchain HBW.out hb1)
  have HDD : Hid (happenRaw d id evn = (dr, dk)) := by show _ = _; rw [← HD.out]; unfold happenedD; rw [if_pos hq]
  have h60 := (okRg_iff.1 hq).2.2.1
  have hlR1 := HRR.out.lt
  clear hb1
  have x0 := HX.out.cell (j := 0) rfl
  have x1 := HX.out.cell (j := 1) rfl
  have x2 := HX.out.cell (j := 2) rfl
  have hlX := HX.out.lt
  go_wp2_with fail
  refine (copyReg d _ _ (HR.out.new HBW.out) (by omega)).mono ?_
  rintro x w2 ⟨v2, rfl, ho2, hb2⟩
  obtain ⟨a2, p2, rfl, _⟩ := owns_form ho2
  replace HRR := hide (HRR.out.new hb2)
  have hw1 := HBW.out.size
  replace HBW := hide (bchain HBW.out hb2)
  have hb2s := hb2.size
  have hRR2 := HRR.out.lt
  clear hb2 x0 x1 x2 hlX HX
  have HTA := hide (regAt_new (d := d) ho2)
  clear ho2
  go_upto_region 4 with fail
  have hb3 : Below w2.heap.size w2 (w2.alloc (.cells #[.int .i64 d.lim, .int .i64 d.top, .slice a2 d.es.length p2] 26)) := (Below.refl _ _).alloc (Nat.le_refl _) _
  generalize w2.alloc (.cells #[.int .i64 d.lim, .int .i64 d.top, .slice a2 d.es.length p2] 26) = w3 at *
  replace HRR := hide (HRR.out.new hb3)
  replace HBW := hide (bchain HBW.out hb3)
  have hb3s := hb3.size
  clear hb3
  go_wp2_with fail
  have hcall := happenAt w2.heap.size w1.heap.size d id evn w3 HTA.out (by omega)
  rw [HDD.out] at hcall
  dsimp only at hcall
  refine hcall.mono ?_; rintro x w4 ⟨rfl, hta, hbb⟩
  clear hcall
  have hbz := hbb w1.heap.size (Nat.le_refl _) (by omega) (by omega)
  have hRR4 := HRR.out.kept (hbz.block _ (by omega))
  have HBW4 := hide (HBW.out.trans (hbz.mono (by omega)))
  clear hbb
  obtain ⟨a9, p9, hrow, hown, _⟩ := hta.ex
  have t0 := hrow.cell (j := 0) rfl
  have t1 := hrow.cell (j := 1) rfl
  have t2 := hrow.cell (j := 2) rfl
  have hlT := hrow.lt
  have r0 := hRR4.cell (j := 0) rfl
  have r1 := hRR4.cell (j := 1) rfl
  have r2 := hRR4.cell (j := 2) rfl
  have r3 := hRR4.frozen 0
  have r4 := hRR4.frozen 1
  have r5 := hRR4.frozen 2
  have hlR := hRR4.lt
  have hov : ∀ q, (Value.slice a9 dr.es.length p9).ownBlock = some q → w.heap.size + 2 ≤ q := fun q hq => by have := (hown.lt q hq).1; omega
  have HO := hide hown
  have HOV := hide hov
  have hgT : w2.heap.size ≠ w.heap.size + 1 := by omega
  clear hrow hown hov hta hRR4 hbz
  go_wp2_with fail
  refine bodyPost_ret (v := (.tuple #[.agg #[.int .i64 dr.lim, .int .i64 dr.top, .slice a9 dr.es.length p9], .bool dk])) (by simp [results, Try.results23, go_sem, *]) rfl ?_
  have hlt1 : w.heap.size + 1 < w.heap.size + 2 := by omega
  have hfin := owns_far (w.heap.size + 2) (owns_far (w.heap.size + 2) (owns_far (w.heap.size + 2) HO.out HOV.out ⟨w.heap.size + 1, 0, none⟩ (.int .i64 dr.lim) hlt1) HOV.out ⟨w.heap.size + 1, 1, none⟩ (.int .i64 dr.top) hlt1) HOV.out ⟨w.heap.size + 1, 2, none⟩ (.slice a9 dr.es.length p9) hlt1
  exact ⟨_, rfl, ev_ow (owns_base hfin (fun q hq => by have := HOV.out q hq; omega)), ((HBW4.out.setCell (show w.heap.size ≤ w.heap.size + 1 by omega) _).setCell (show w.heap.size ≤ w.heap.size + 1 by omega) _).setCell (show w.heap.size ≤ w.heap.size + 1 by omega) _⟩
end Go.Proofs.Ytgodopiejiajjaa
