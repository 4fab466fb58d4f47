/- The program's registry: RegistryOk, Live, Opened, Happened, Swept. -/
import Derived.Test.YtllaeakeaabiaaaGreatQG11
import Derived.Test.YtllaeakeaabiaaaGreatQG10
namespace Go.Proofs.YtllaeakeaabiaaaGreat
open Go.RowKit
set_option maxRecDepth 100000
set_option linter.unusedSimpArgs false
set_option linter.unusedVariables false
theorem implRegistryOk (d : RegistryD) (v : Value) (w : World) (hr : RdR entryS w v d.es) : Calls Tryz.prog 118 #[.agg #[.int .i64 d.lim, .int .i64 d.top, v]] w fun x w' => x = .returned (.bool (okRg d)) ∧ Below w.heap.size w w' := by
  obtain ⟨ad, cap, rfl, h1, h2⟩ := hr.form
  have HR := hide hr
  clear hr
  go_enter Tryz.func118, Tryz.ntmps118
  go_wp2_with fail
  refine (implRightR d _ _ (HR.out.new (by repeat' (first | (with_reducible exact Below.refl _ _) | (with_reducible refine Below.drew ?_) | (with_reducible refine bo_drewN _ ?_) | (with_reducible refine bo_alloc ?_ _) | (refine bchain ?_ (by with_reducible assumption)) | (with_reducible refine Below.setCell ?_ ?_ _) | go_size)))).mono ?_; rintro z w1 ⟨rfl, hb1⟩
  go_wp2_with fail
  go_ret
  exact ⟨rfl, (by repeat' (first | (with_reducible exact Below.refl _ _) | (with_reducible refine Below.drew ?_) | (with_reducible refine bo_drewN _ ?_) | (with_reducible refine bo_alloc ?_ _) | (refine bchain ?_ (by with_reducible assumption)) | (with_reducible refine Below.setCell ?_ ?_ _) | go_size))⟩
set_option maxHeartbeats 2000000 in
theorem implOpened (d : RegistryD) (v : Value) (id : Int) (w : World) (hr : RdR entryS w v d.es) :
    Calls Tryz.prog 215 #[.agg #[.int .i64 d.lim, .int .i64 d.top, v], .int .i64 id] w fun x w' => ∃ v', x = .returned (.tuple #[.agg #[.int .i64 (openedD d id).1.lim, .int .i64 (openedD d id).1.top, v'], .int .i64 (openedD d id).2]) ∧ OwX entryS w' w.heap.size w'.heap.size v' (openedD d id).1.es ∧ Below w.heap.size w w' := by
  obtain ⟨ad, cap, rfl, h1, h2⟩ := hr.form
  have HR := hide hr
  clear hr
  have hok := fun w h => implRightR d (.slice ad d.es.length cap) w h
  have hid := fun w => implId id w
  obtain ⟨⟨dr, dk⟩, hD⟩ : ∃ y, openedD d id = y := ⟨_, rfl⟩
  have HD : Hid ((dr, dk) = if okRg d = true then openRaw d id else (⟨0, 0, []⟩, 1)) := by show _ = _; rw [← hD]; rfl
  rw [hD]
  dsimp only
  clear hD
  go_enter Tryz.func215, Tryz.ntmps215
  go_wp2_with fail
  obtain ⟨V, hV⟩ : ∃ V, (w.alloc (.cells #[.int .i64 d.lim, .int .i64 d.top, .slice ad d.es.length cap] 37)).alloc (.cells #[.int .i64 0, .int .i64 0, .slice none 0 0] 37) = V := ⟨_, rfl⟩
  have HB : Hid (Below w.heap.size w V) := by show Below _ _ _; rw [← hV]; exact bo_alloc ((Below.refl _ _).alloc (Nat.le_refl _) _) _
  have HX : Hid (RowIs V w.heap.size 37 [.int .i64 d.lim, .int .i64 d.top, .slice ad d.es.length cap]) := by show RowIs _ _ _ _; rw [← hV]; exact (rowIs_new w 37 [.int .i64 d.lim, .int .i64 d.top, .slice ad d.es.length cap]).alloc _
  have HRR : Hid (RowIs V (w.heap.size + 1) 37 [.int .i64 0, .int .i64 0, .slice none 0 0]) := by show RowIs _ _ _ _; rw [← hV]; simpa using rowIs_new (w.alloc (.cells #[.int .i64 d.lim, .int .i64 d.top, .slice ad d.es.length cap] 37)) 37 [.int .i64 0, .int .i64 0, .slice none 0 0]
  rw [hV]
  clear hV
  refine (hok _ (HR.out.new HB.out)).mono ?_
  cases hq : okRg d
  · rintro z w1 ⟨rfl, hb1⟩
    have HDD : Hid ((dr, dk) = ((⟨0, 0, []⟩ : RegistryD), 1)) := by show _ = _; rw [HD.out, if_neg (by rw [hq]; simp)]
    obtain ⟨rfl, rfl⟩ := Prod.mk.inj HDD.out
    replace HRR := hide (HRR.out.new hb1)
    replace HB := hide (bchain HB.out hb1)
    clear hb1 HD HDD
    have r0 := HRR.out.cell (j := 0) rfl; have r1 := HRR.out.cell (j := 1) rfl; have r2 := HRR.out.cell (j := 2) rfl; have r3 := HRR.out.frozen 0; have r4 := HRR.out.frozen 1; have r5 := HRR.out.frozen 2; have r6 := HRR.out.lt
    go_wp2_with fail
    refine bodyPost_ret (v := (.tuple #[.agg #[.int .i64 0, .int .i64 0, .slice none 0 0], .int .i64 1])) (by simp [results, Tryz.results215, go_sem, *]) rfl ?_
    exact ⟨_, rfl, owX_nil _ _ _, by repeat' (first | (with_reducible exact HB.out) | (with_reducible refine Below.setCell ?_ ?_ _) | (with_reducible refine Below.alloc ?_ ?_ _) | (with_reducible refine Below.drew ?_) | (with_reducible refine bo_drewN _ ?_) | omega | (simp; done) | (simp; omega))⟩
  rintro z w1 ⟨rfl, hb1⟩
  have h60 := (okRg_iff.1 hq).2.2.1
  have HDD : Hid ((dr, dk) = openRaw d id) := by show _ = _; rw [HD.out, if_pos hq]
  replace HX := hide (HX.out.new hb1)
  replace HRR := hide (HRR.out.new hb1)
  replace HB := hide (bchain HB.out hb1)
  clear hb1 HD hq hok
  have x0 := HX.out.cell (j := 0) rfl; have x1 := HX.out.cell (j := 1) rfl; have x2 := HX.out.cell (j := 2) rfl; have x3 := HX.out.frozen 0; have x4 := HX.out.frozen 1; have x5 := HX.out.frozen 2; have x6 := HX.out.lt
  go_wp2_with fail
  refine (implApart d _ _ (HR.out.new HB.out) h60).mono ?_
  rintro z w2 ⟨v2, rfl, ho2, hb2⟩
  obtain ⟨a2, p2, rfl, _⟩ := owns_form ho2
  have hlr := HRR.out.lt
  replace HX := hide (HX.out.new hb2)
  replace HRR := hide (HRR.out.new hb2)
  replace HB := hide (bchain HB.out hb2)
  have hs2 := hb2.size
  have HTA := hide (regAt_new (d := d) ho2)
  clear hb2 x0 x1 x2 x3 x4 x5 x6
  go_upto_region 4 with fail
  obtain ⟨w3, hw3⟩ : ∃ W, w2.alloc (.cells #[.int .i64 d.lim, .int .i64 d.top, .slice a2 d.es.length p2] 37) = W := ⟨_, rfl⟩
  have hb3 : Below w2.heap.size w2 w3 := by rw [← hw3]; exact (Below.refl _ _).alloc (Nat.le_refl _) _
  have HT : Hid (RowIs w3 w2.heap.size 37 [.int .i64 d.lim, .int .i64 d.top, .slice a2 d.es.length p2]) := by show RowIs _ _ _ _; rw [← hw3]; exact rowIs_new w2 37 [.int .i64 d.lim, .int .i64 d.top, .slice a2 d.es.length p2]
  have HO : Hid (w3.ownsRow w1.heap.size 103 2 (.slice a2 d.es.length p2) d.es.length (ev d.es)) := owns_new ho2 hb3
  have HOV : Hid (∀ q, (Value.slice a2 d.es.length p2).ownBlock = some q → w1.heap.size ≤ q ∧ q < w2.heap.size) := fun q hq => ho2.lt q hq
  rw [hw3]
  clear hw3 HTA ho2
  replace HX := hide (HX.out.new hb3)
  replace HRR := hide (HRR.out.new hb3)
  replace HB := hide (bchain HB.out hb3)
  have hs3 := hb3.size
  clear hb3
  have hgt : w2.heap.size ≠ w.heap.size + 1 := by omega
  have hgx : w2.heap.size ≠ w.heap.size := by omega
  have t0 := HT.out.cell (j := 0) rfl; have t1 := HT.out.cell (j := 1) rfl; have t2 := HT.out.cell (j := 2) rfl; have t3 := HT.out.frozen 0; have t4 := HT.out.frozen 1; have t5 := HT.out.frozen 2; have t6 := HT.out.lt
  have r0 := HRR.out.cell (j := 0) rfl; have r1 := HRR.out.cell (j := 1) rfl; have r2 := HRR.out.cell (j := 2) rfl; have r3 := HRR.out.frozen 0; have r4 := HRR.out.frozen 1; have r5 := HRR.out.frozen 2; have r6 := HRR.out.lt
  cases hi : idB id
  · rw [hi] at hid
    have HE : Hid ((dr, dk) = (d, 1)) := by show _ = _; rw [HDD.out]; unfold openRaw; rw [if_neg (by rw [hi]; simp)]
    obtain ⟨rfl, rfl⟩ := Prod.mk.inj HE.out
    clear HE HDD
    go_wp2_with fail
    refine (hid _).mono ?_; rintro e w4 ⟨rfl, hsame⟩; obtain rfl := hsame.symm; clear hsame
    go_wp2_with fail
    refine bodyPost_ret (v := (.tuple #[.agg #[.int .i64 dr.lim, .int .i64 dr.top, .slice a2 dr.es.length p2], .int .i64 1])) (by simp [results, Tryz.results215, go_sem, *]) rfl ?_
    have HOV2 : Hid (∀ q, (Value.slice a2 dr.es.length p2).ownBlock = some q → w.heap.size + 2 ≤ q) := fun q hq => by have := (HOV.out q hq).1; omega
    exact ⟨_, rfl, ev_ow (owns_base (base := w1.heap.size) (by repeat' (first | (with_reducible exact HO.out) | (with_reducible refine owns_far _ ?_ HOV2.out _ _ ?_) | (with_reducible refine World.ownsRow.alloc ?_ _) | (simp; done) | (simp; omega))) (fun q hq => by have := HOV2.out q hq; omega)), by repeat' (first | (with_reducible exact HB.out) | (with_reducible refine Below.setCell ?_ ?_ _) | (with_reducible refine Below.alloc ?_ ?_ _) | (with_reducible refine Below.drew ?_) | (with_reducible refine bo_drewN _ ?_) | omega | (simp; done) | (simp; omega))⟩
  rw [hi] at hid
  by_cases htop : id ≤ d.top
  · have HE : Hid ((dr, dk) = (d, 1)) := by show _ = _; rw [HDD.out]; exact open_again htop
    obtain ⟨rfl, rfl⟩ := Prod.mk.inj HE.out
    clear HE HDD
    go_wp2_with fail
    refine (hid _).mono ?_; rintro e w4 ⟨rfl, hsame⟩; obtain rfl := hsame.symm; clear hsame
    go_wp2_with fail
    refine bodyPost_ret (v := (.tuple #[.agg #[.int .i64 dr.lim, .int .i64 dr.top, .slice a2 dr.es.length p2], .int .i64 1])) (by simp [results, Tryz.results215, go_sem, *]) rfl ?_
    have HOV2 : Hid (∀ q, (Value.slice a2 dr.es.length p2).ownBlock = some q → w.heap.size + 2 ≤ q) := fun q hq => by have := (HOV.out q hq).1; omega
    exact ⟨_, rfl, ev_ow (owns_base (base := w1.heap.size) (by repeat' (first | (with_reducible exact HO.out) | (with_reducible refine owns_far _ ?_ HOV2.out _ _ ?_) | (with_reducible refine World.ownsRow.alloc ?_ _) | (simp; done) | (simp; omega))) (fun q hq => by have := HOV2.out q hq; omega)), by repeat' (first | (with_reducible exact HB.out) | (with_reducible refine Below.setCell ?_ ?_ _) | (with_reducible refine Below.alloc ?_ ?_ _) | (with_reducible refine Below.drew ?_) | (with_reducible refine bo_drewN _ ?_) | omega | (simp; done) | (simp; omega))⟩
  have HRW : Hid ((dr, dk) = if d.lim ≤ liveL d.es ∨ d.es.length = 60 then (⟨d.lim, id, d.es⟩, 2) else (⟨d.lim, id, d.es ++ [⟨id, 1⟩]⟩, 0)) := by show _ = _; rw [HDD.out]; unfold openRaw; rw [if_pos ⟨hi, by omega⟩]
  clear HDD hi
  go_wp2_with fail
  refine (hid _).mono ?_; rintro e w4 ⟨rfl, hsame⟩; obtain rfl := hsame.symm; clear hsame
  go_upto_region 7 with fail
  have HOV2 : Hid (∀ q, (Value.slice a2 d.es.length p2).ownBlock = some q → w.heap.size + 2 ≤ q) := fun q hq => by have := (HOV.out q hq).1; omega
  have hnt : (Value.slice a2 d.es.length p2).ownBlock ≠ some w2.heap.size := fun hq => by have := (HOV.out _ hq).2; omega
  obtain ⟨W5, hW5⟩ : ∃ W, w3.setCell ⟨w2.heap.size, 1, none⟩ (.int .i64 id) = W := ⟨_, rfl⟩
  rw [hW5]
  replace HT : Hid (RowIs W5 w2.heap.size 37 [.int .i64 d.lim, .int .i64 id, .slice a2 d.es.length p2]) := by show RowIs _ _ _ _; rw [← hW5]; exact HT.out.set 1 (.int .i64 id)
  replace HRR : Hid (RowIs W5 (w.heap.size + 1) 37 [.int .i64 0, .int .i64 0, .slice none 0 0]) := by show RowIs _ _ _ _; rw [← hW5]; exact HRR.out.far _ _ (by simp; omega)
  replace HX : Hid (RowIs W5 w.heap.size 37 [.int .i64 d.lim, .int .i64 d.top, .slice ad d.es.length cap]) := by show RowIs _ _ _ _; rw [← hW5]; exact HX.out.far _ _ (by simp; omega)
  replace HO : Hid (W5.ownsRow w1.heap.size 103 2 (.slice a2 d.es.length p2) d.es.length (ev d.es)) := by show World.ownsRow _ _ _ _ _ _ _; rw [← hW5]; exact owns_apart HO.out _ _ hnt
  have hs5 : w3.heap.size ≤ W5.heap.size := by rw [← hW5]; simp
  replace HB : Hid (Below w.heap.size w W5) := by show Below _ _ _; rw [← hW5]; exact HB.out.setCell (by simp; omega) _
  clear hW5 t0 t1 t2 t3 t4 t5 t6 r0 r1 r2 r3 r4 r5 r6
  have hfull := fun w h => implFull d (.slice ad d.es.length cap) w h h60
  obtain ⟨Fb, hFb⟩ : ∃ b, decide (d.lim ≤ liveL d.es ∨ d.es.length = 60) = b := ⟨_, rfl⟩
  rw [hFb] at hfull
  have HFB := hide hFb
  clear hFb
  have x0 := HX.out.cell (j := 0) rfl; have x1 := HX.out.cell (j := 1) rfl; have x2 := HX.out.cell (j := 2) rfl; have x3 := HX.out.frozen 0; have x4 := HX.out.frozen 1; have x5 := HX.out.frozen 2; have x6 := HX.out.lt
  go_wp2_with fail
  refine (hfull _ (HR.out.new HB.out)).mono ?_; rintro z w6 ⟨rfl, hb6⟩
  replace HT := hide (HT.out.new hb6)
  replace HRR := hide (HRR.out.new hb6)
  replace HB := hide (bchain HB.out hb6)
  replace HO := hide (owns_new HO.out hb6)
  have hs6 := hb6.size
  clear hb6 x0 x1 x2 x3 x4 x5 x6 hfull HX
  have t0 := HT.out.cell (j := 0) rfl; have t1 := HT.out.cell (j := 1) rfl; have t2 := HT.out.cell (j := 2) rfl; have t3 := HT.out.frozen 0; have t4 := HT.out.frozen 1; have t5 := HT.out.frozen 2; have t6 := HT.out.lt
  have r0 := HRR.out.cell (j := 0) rfl; have r1 := HRR.out.cell (j := 1) rfl; have r2 := HRR.out.cell (j := 2) rfl; have r3 := HRR.out.frozen 0; have r4 := HRR.out.frozen 1; have r5 := HRR.out.frozen 2; have r6 := HRR.out.lt
  cases Fb
  rotate_left
  · have HE : Hid ((dr, dk) = (⟨d.lim, id, d.es⟩, 2)) := by show _ = _; rw [HRW.out, if_pos (of_decide_eq_true HFB.out)]
    obtain ⟨rfl, rfl⟩ := Prod.mk.inj HE.out
    clear HE HRW
    go_wp2_with fail
    refine bodyPost_ret (v := (.tuple #[.agg #[.int .i64 d.lim, .int .i64 id, .slice a2 d.es.length p2], .int .i64 2])) (by simp [results, Tryz.results215, go_sem, *]) rfl ?_
    exact ⟨_, rfl, ev_ow (owns_base (base := w1.heap.size) (by repeat' (first | (with_reducible exact HO.out) | (with_reducible refine owns_far _ ?_ HOV2.out _ _ ?_) | (with_reducible refine World.ownsRow.alloc ?_ _) | (simp; done) | (simp; omega))) (fun q hq => by have := HOV2.out q hq; omega)), by repeat' (first | (with_reducible exact HB.out) | (with_reducible refine Below.setCell ?_ ?_ _) | (with_reducible refine Below.alloc ?_ ?_ _) | (with_reducible refine Below.drew ?_) | (with_reducible refine bo_drewN _ ?_) | omega | (simp; done) | (simp; omega))⟩
  have HE : Hid ((dr, dk) = (⟨d.lim, id, d.es ++ [⟨id, 1⟩]⟩, 0)) := by show _ = _; rw [HRW.out, if_neg (of_decide_eq_false HFB.out)]
  obtain ⟨rfl, rfl⟩ := Prod.mk.inj HE.out
  clear HE HRW HFB
  have hX : Below w6.heap.size w6 (w6.alloc (.cells #[.int .i64 id, .int .i64 1] 103)) := (Below.refl _ _).alloc (Nat.le_refl _) _
  have hownX := owns_new HO.out hX
  have hRd : Reads (w6.alloc (.cells #[.int .i64 id, .int .i64 1] 103)) (.slice (some ⟨w6.heap.size, 0, none⟩) 1 1) 1 2 (ev [⟨id, 1⟩]) := reads_of_owns (owns_lit w6 103 2 1 #[.int .i64 id, .int .i64 1] rfl (by omega))
  replace HT := hide (HT.out.new hX)
  replace HRR := hide (HRR.out.new hX)
  have HBX := hide (bchain HB.out hX)
  have hsX := hX.size
  clear hX HO HB
  go_wp2_with (at_builtin; refine wpList_app _ (by rfl) _ _ 35 (by rfl) 103 (.agg #[.int .i64 0, .int .i64 0]) 2 16 Tryz.underlying35 (by kernel_rfl) rfl (by decide) w1.heap.size _ d.es.length (ev d.es) (by rfl) hownX _ 1 (ev [⟨id, 1⟩]) (by rfl) hRd (ev_one _) (by omega) (by decide) (by omega) ?_)
  intro ad7 cap7 w7 hown7 hg7 hat7
  generalize w6.alloc (.cells #[.int .i64 id, .int .i64 1] 103) = wX at *
  clear t0 t1 t2 t3 t4 t5 t6 r0 r1 r2 r3 r4 r5 r6
  replace HT := hide (HT.out.kept (hg7.block _ HT.out.lt (fun e => hnt e.symm)))
  replace HRR := hide (HRR.out.kept (hg7.block _ HRR.out.lt (fun e => by have := HOV2.out _ e.symm; omega)))
  have HB7 : Hid (Below w.heap.size w w7) := by
    have hb := HBX.out
    exact ⟨hg7.os.trans hb.os, hg7.tape.trans hb.tape, hg7.output.trans hb.output, Nat.le_trans hb.size hg7.size, fun k hk => (hg7.block k (by have := hb.size; omega) (fun e => by have := (hownX.lt k e.symm).1; omega)).trans (hb.block k hk)⟩
  have HOV7 : Hid (∀ q, (Value.slice ad7 (d.es.length + 1) cap7).ownBlock = some q → w.heap.size + 2 ≤ q ∧ q ≠ w2.heap.size) := fun q hq => by
    rcases hat7 with e | e
    · rw [e] at hq; exact ⟨HOV2.out q hq, fun e2 => hnt (by rw [hq, e2])⟩
    · rw [e] at hq; have := Option.some.inj hq; omega
  have HO7 : Hid (w7.ownsRow w1.heap.size 103 2 (.slice ad7 (d.es.length + 1) cap7) (d.es.length + 1) (ev (d.es ++ [⟨id, 1⟩]))) := by
    show World.ownsRow _ _ _ _ _ _ _
    rw [ev_app]
    exact hown7
  clear hown7 hg7 hat7 hownX hRd
  have t0 := HT.out.cell (j := 0) rfl; have t1 := HT.out.cell (j := 1) rfl; have t2 := HT.out.cell (j := 2) rfl; have t3 := HT.out.frozen 0; have t4 := HT.out.frozen 1; have t5 := HT.out.frozen 2; have t6 := HT.out.lt
  have r0 := HRR.out.cell (j := 0) rfl; have r1 := HRR.out.cell (j := 1) rfl; have r2 := HRR.out.cell (j := 2) rfl; have r3 := HRR.out.frozen 0; have r4 := HRR.out.frozen 1; have r5 := HRR.out.frozen 2; have r6 := HRR.out.lt
  go_wp2_with fail
  refine bodyPost_ret (v := (.tuple #[.agg #[.int .i64 d.lim, .int .i64 id, .slice ad7 (d.es.length + 1) cap7], .int .i64 0])) (by simp [results, Tryz.results215, go_sem, *]) rfl ?_
  refine ⟨_, rfl, ?_, by repeat' (first | (with_reducible exact HB7.out) | (with_reducible refine Below.setCell ?_ ?_ _) | (with_reducible refine Below.alloc ?_ ?_ _) | (with_reducible refine Below.drew ?_) | (with_reducible refine bo_drewN _ ?_) | omega | (simp; done) | (simp; omega))⟩
  refine ev_ow (owns_base (base := w1.heap.size) ?_ (fun q hq => by have := (HOV7.out q hq).1; omega))
  simp only [List.length_append, List.length_cons, List.length_nil, Nat.zero_add]
  repeat' (first | (with_reducible exact HO7.out) | (refine owns_apart ?_ _ _ (fun hq => by have := HOV7.out _ hq; simp at this; try omega)))
set_option maxHeartbeats 2000000 in
theorem implHappened (d : RegistryD) (v : Value) (id : Int) (evn : Int) (w : World) (hr : RdR entryS w v d.es) :
    Calls Tryz.prog 149 #[.agg #[.int .i64 d.lim, .int .i64 d.top, v], .int .i64 id, .int .i64 evn] w fun x w' => ∃ v', x = .returned (.tuple #[.agg #[.int .i64 (happenedD d id evn).1.lim, .int .i64 (happenedD d id evn).1.top, v'], .bool (happenedD d id evn).2]) ∧ OwX entryS w' w.heap.size w'.heap.size v' (happenedD d id evn).1.es ∧ Below w.heap.size w w' := by
  obtain ⟨ad, cap, rfl, h1, h2⟩ := hr.form
  have HR := hide hr
  clear hr
  have hok := fun w h => implRightR d (.slice ad d.es.length cap) w h
  obtain ⟨⟨dr, dk⟩, hD⟩ : ∃ y, happenedD d id evn = y := ⟨_, rfl⟩
  have HD : Hid ((dr, dk) = if okRg d = true then happenRaw d id evn else (⟨0, 0, []⟩, false)) := by show _ = _; rw [← hD]; rfl
  rw [hD]
  dsimp only
  clear hD
  go_enter Tryz.func149, Tryz.ntmps149
  go_wp2_with fail
  obtain ⟨V, hV⟩ : ∃ V, (w.alloc (.cells #[.int .i64 d.lim, .int .i64 d.top, .slice ad d.es.length cap] 37)).alloc (.cells #[.int .i64 0, .int .i64 0, .slice none 0 0] 37) = V := ⟨_, rfl⟩
  have HB : Hid (Below w.heap.size w V) := by show Below _ _ _; rw [← hV]; exact bo_alloc ((Below.refl _ _).alloc (Nat.le_refl _) _) _
  have HX : Hid (RowIs V w.heap.size 37 [.int .i64 d.lim, .int .i64 d.top, .slice ad d.es.length cap]) := by show RowIs _ _ _ _; rw [← hV]; exact (rowIs_new w 37 [.int .i64 d.lim, .int .i64 d.top, .slice ad d.es.length cap]).alloc _
  have HRR : Hid (RowIs V (w.heap.size + 1) 37 [.int .i64 0, .int .i64 0, .slice none 0 0]) := by show RowIs _ _ _ _; rw [← hV]; simpa using rowIs_new (w.alloc (.cells #[.int .i64 d.lim, .int .i64 d.top, .slice ad d.es.length cap] 37)) 37 [.int .i64 0, .int .i64 0, .slice none 0 0]
  rw [hV]
  clear hV
  refine (hok _ (HR.out.new HB.out)).mono ?_
  cases hq : okRg d
  · rintro z w1 ⟨rfl, hb1⟩
    have HDD : Hid ((dr, dk) = ((⟨0, 0, []⟩ : RegistryD), false)) := by show _ = _; rw [HD.out, if_neg (by rw [hq]; simp)]
    obtain ⟨rfl, rfl⟩ := Prod.mk.inj HDD.out
    replace HRR := hide (HRR.out.new hb1)
    replace HB := hide (bchain HB.out hb1)
    clear hb1 HD HDD
    have r0 := HRR.out.cell (j := 0) rfl; have r1 := HRR.out.cell (j := 1) rfl; have r2 := HRR.out.cell (j := 2) rfl; have r3 := HRR.out.frozen 0; have r4 := HRR.out.frozen 1; have r5 := HRR.out.frozen 2; have r6 := HRR.out.lt
    go_wp2_with fail
    refine bodyPost_ret (v := (.tuple #[.agg #[.int .i64 0, .int .i64 0, .slice none 0 0], .bool false])) (by simp [results, Tryz.results149, go_sem, *]) rfl ?_
    exact ⟨_, rfl, owX_nil _ _ _, by repeat' (first | (with_reducible exact HB.out) | (with_reducible refine Below.setCell ?_ ?_ _) | (with_reducible refine Below.alloc ?_ ?_ _) | (with_reducible refine Below.drew ?_) | (with_reducible refine bo_drewN _ ?_) | omega | (simp; done) | (simp; omega))⟩
  rintro z w1 ⟨rfl, hb1⟩
  have h60 := (okRg_iff.1 hq).2.2.1
  have HDD : Hid ((dr, dk) = happenRaw d id evn) := by show _ = _; rw [HD.out, if_pos hq]
  replace HX := hide (HX.out.new hb1)
  replace HRR := hide (HRR.out.new hb1)
  replace HB := hide (bchain HB.out hb1)
  clear hb1 HD hq hok
  have x0 := HX.out.cell (j := 0) rfl; have x1 := HX.out.cell (j := 1) rfl; have x2 := HX.out.cell (j := 2) rfl; have x3 := HX.out.frozen 0; have x4 := HX.out.frozen 1; have x5 := HX.out.frozen 2; have x6 := HX.out.lt
  go_wp2_with fail
  refine (implApart d _ _ (HR.out.new HB.out) h60).mono ?_
  rintro z w2 ⟨v2, rfl, ho2, hb2⟩
  obtain ⟨a2, p2, rfl, _⟩ := owns_form ho2
  have hlr := HRR.out.lt
  replace HRR := hide (HRR.out.new hb2)
  replace HB := hide (bchain HB.out hb2)
  have hs2 := hb2.size
  clear hb2 x0 x1 x2 x3 x4 x5 x6 HX
  go_upto_region 4 with fail
  obtain ⟨w3, hw3⟩ : ∃ W, w2.alloc (.cells #[.int .i64 d.lim, .int .i64 d.top, .slice a2 d.es.length p2] 37) = W := ⟨_, rfl⟩
  have hb3 : Below w2.heap.size w2 w3 := by rw [← hw3]; exact (Below.refl _ _).alloc (Nat.le_refl _) _
  have HT : Hid (RowIs w3 w2.heap.size 37 [.int .i64 d.lim, .int .i64 d.top, .slice a2 d.es.length p2]) := by show RowIs _ _ _ _; rw [← hw3]; exact rowIs_new w2 37 [.int .i64 d.lim, .int .i64 d.top, .slice a2 d.es.length p2]
  have HO : Hid (w3.ownsRow w1.heap.size 103 2 (.slice a2 d.es.length p2) d.es.length (ev d.es)) := owns_new ho2 hb3
  have HOV : Hid (∀ q, (Value.slice a2 d.es.length p2).ownBlock = some q → w1.heap.size ≤ q ∧ q < w2.heap.size) := fun q hq => ho2.lt q hq
  have HOV2 : Hid (∀ q, (Value.slice a2 d.es.length p2).ownBlock = some q → w.heap.size + 2 ≤ q) := fun q hq => by have := (HOV.out q hq).1; omega
  rw [hw3]
  clear hw3 ho2
  replace HRR := hide (HRR.out.new hb3)
  replace HB := hide (bchain HB.out hb3)
  have hs3 := hb3.size
  clear hb3
  have hgt : w2.heap.size ≠ w.heap.size + 1 := by omega
  have t0 := HT.out.cell (j := 0) rfl; have t1 := HT.out.cell (j := 1) rfl; have t2 := HT.out.cell (j := 2) rfl; have t3 := HT.out.frozen 0; have t4 := HT.out.frozen 1; have t5 := HT.out.frozen 2; have t6 := HT.out.lt
  go_wp2_with fail
  refine (implPlace d id _ _ (ev_rd (reads_of_owns HO.out)) h60).mono ?_; rintro z w4 ⟨rfl, hb4⟩
  replace HT := hide (HT.out.new hb4)
  replace HRR := hide (HRR.out.new hb4)
  replace HO := hide (owns_new HO.out hb4)
  replace HB := hide (bchain HB.out hb4)
  have hs4 := hb4.size
  clear hb4 t0 t1 t2 t3 t4 t5 t6
  have t0 := HT.out.cell (j := 0) rfl; have t1 := HT.out.cell (j := 1) rfl; have t2 := HT.out.cell (j := 2) rfl; have t3 := HT.out.frozen 0; have t4 := HT.out.frozen 1; have t5 := HT.out.frozen 2; have t6 := HT.out.lt
  have r0 := HRR.out.cell (j := 0) rfl; have r1 := HRR.out.cell (j := 1) rfl; have r2 := HRR.out.cell (j := 2) rfl; have r3 := HRR.out.frozen 0; have r4 := HRR.out.frozen 1; have r5 := HRR.out.frozen 2; have r6 := HRR.out.lt
  cases hq : atE d.es id with
  | none =>
    have hI : atI d.es id = -1 := by unfold atI; rw [hq]
    rw [hI]
    have HE : Hid ((dr, dk) = (d, false)) := by show _ = _; rw [HDD.out, happenRaw_none hq]
    obtain ⟨rfl, rfl⟩ := Prod.mk.inj HE.out
    clear HE HDD hI hq
    go_wp2_with fail
    refine bodyPost_ret (v := (.tuple #[.agg #[.int .i64 dr.lim, .int .i64 dr.top, .slice a2 dr.es.length p2], .bool false])) (by simp [results, Tryz.results149, go_sem, *]) rfl ?_
    exact ⟨_, rfl, ev_ow (owns_base (base := w1.heap.size) (by repeat' (first | (with_reducible exact HO.out) | (with_reducible refine owns_far _ ?_ HOV2.out _ _ ?_) | (with_reducible refine World.ownsRow.alloc ?_ _) | (simp; done) | (simp; omega))) (fun q hq => by have := HOV2.out q hq; omega)), by repeat' (first | (with_reducible exact HB.out) | (with_reducible refine Below.setCell ?_ ?_ _) | (with_reducible refine Below.alloc ?_ ?_ _) | (with_reducible refine Below.drew ?_) | (with_reducible refine bo_drewN _ ?_) | omega | (simp; done) | (simp; omega))⟩
  | some k =>
    obtain ⟨hk, _, _⟩ := atE_some hq
    have hI : atI d.es id = k := atI_some hq
    rw [hI]
    have HES : Hid (∀ s, (ev d.es).set (k * 2 + 1) (.int .i64 s) = ev (d.es.set k ⟨d.es[k].id, s⟩)) := ev_set d.es k hk
    obtain ⟨gv1, gv2⟩ := ev_get d.es k hk
    obtain ⟨e, he⟩ : ∃ e, d.es[k] = e := ⟨_, rfl⟩
    obtain ⟨n, b, hn⟩ : ∃ n b, nxV e.state evn = (n, b) := ⟨_, _, rfl⟩
    have HE : Hid ((dr, dk) = (⟨d.lim, d.top, d.es.set k ⟨e.id, n⟩⟩, b)) := by show _ = _; rw [HDD.out, happenRaw_some hq hk, he, hn]
    rw [he] at gv1 gv2 HES
    obtain ⟨rfl, rfl⟩ := Prod.mk.inj HE.out
    have hnx := fun w => implNext e.state evn w
    rw [hn] at hnx
    dsimp only at hnx
    clear HE HDD hI hq hn he
    obtain ⟨gb, gcap, hsl, hg0, hg1, hg2, _, _, hc, hf⟩ := owns_open HO.out (by omega)
    simp only [Value.slice.injEq] at hsl
    obtain ⟨rfl, -, -⟩ := hsl
    have c1 := hc _ _ gv2
    have f1 := hf (k * 2 + 1)
    have hgb := HOV.out gb hg0
    have hgg : gb ≠ w2.heap.size := by omega
    have hgr : gb ≠ w.heap.size + 1 := by omega
    have hgl : gb < w4.heap.size := by omega
    have HG0 := hide hg0
    clear hc hf gv1 gv2 hg0
    go_wp2_with fail
    refine (hnx _).mono ?_; rintro z w5 ⟨rfl, hb5⟩
    have c1' := (hb5.cell (p := ⟨gb, k * 2 + 1, none⟩) hgl).trans c1
    have f1' := (hb5.frozen (p := ⟨gb, k * 2 + 1, none⟩) hgl).trans f1
    replace HT := hide (HT.out.new hb5)
    replace HRR := hide (HRR.out.new hb5)
    replace HO := hide (owns_new HO.out hb5)
    replace HB := hide (bchain HB.out hb5)
    have hs5 := hb5.size
    have hgl5 : gb < w5.heap.size := by omega
    clear hb5 t0 t1 t2 t3 t4 t5 t6 r0 r1 r2 r3 r4 r5 r6 c1 f1 hnx
    have t0 := HT.out.cell (j := 0) rfl; have t1 := HT.out.cell (j := 1) rfl; have t2 := HT.out.cell (j := 2) rfl; have t3 := HT.out.frozen 0; have t4 := HT.out.frozen 1; have t5 := HT.out.frozen 2; have t6 := HT.out.lt
    go_upto_region 9 with fail
    obtain ⟨W6, hW6⟩ : ∃ W, w5.setCell ⟨gb, k * 2 + 1, none⟩ (.int .i64 n) = W := ⟨_, rfl⟩
    have HO6 := owns_set HO.out HG0.out (k * 2 + 1) (.int .i64 n)
    rw [HES.out n, hW6] at HO6
    rw [hW6]
    replace HT : Hid (RowIs W6 w2.heap.size 37 [.int .i64 d.lim, .int .i64 d.top, .slice (some ⟨gb, 0, none⟩) d.es.length p2]) := by show RowIs _ _ _ _; rw [← hW6]; exact HT.out.far _ _ hgg
    replace HRR : Hid (RowIs W6 (w.heap.size + 1) 37 [.int .i64 0, .int .i64 0, .slice none 0 0]) := by show RowIs _ _ _ _; rw [← hW6]; exact HRR.out.far _ _ hgr
    replace HB : Hid (Below w.heap.size w W6) := by show Below _ _ _; rw [← hW6]; exact HB.out.setCell (by simp; omega) _
    have HO7 := hide HO6
    clear hW6 HO6 t0 t1 t2 t3 t4 t5 t6 c1' f1'
    have t0 := HT.out.cell (j := 0) rfl; have t1 := HT.out.cell (j := 1) rfl; have t2 := HT.out.cell (j := 2) rfl; have t3 := HT.out.frozen 0; have t4 := HT.out.frozen 1; have t5 := HT.out.frozen 2; have t6 := HT.out.lt
    have r0 := HRR.out.cell (j := 0) rfl; have r1 := HRR.out.cell (j := 1) rfl; have r2 := HRR.out.cell (j := 2) rfl; have r3 := HRR.out.frozen 0; have r4 := HRR.out.frozen 1; have r5 := HRR.out.frozen 2; have r6 := HRR.out.lt
    go_wp2_with fail
    refine bodyPost_ret (v := (.tuple #[.agg #[.int .i64 d.lim, .int .i64 d.top, .slice (some ⟨gb, 0, none⟩) d.es.length p2], .bool dk])) (by simp [results, Tryz.results149, go_sem, *]) rfl ?_
    refine ⟨_, rfl, ?_, by repeat' (first | (with_reducible exact HB.out) | (with_reducible refine Below.setCell ?_ ?_ _) | (with_reducible refine Below.alloc ?_ ?_ _) | (with_reducible refine Below.drew ?_) | (with_reducible refine bo_drewN _ ?_) | omega | (simp; done) | (simp; omega))⟩
    refine ev_ow (owns_base (base := w1.heap.size) ?_ (fun q hq => by have := HOV2.out q hq; omega))
    simp only [List.length_set]
    exact (by repeat' (first | (with_reducible exact HO7.out) | (with_reducible refine owns_far _ ?_ HOV2.out _ _ ?_) | (with_reducible refine World.ownsRow.alloc ?_ _) | (simp; done) | (simp; omega)))
end Go.Proofs.YtllaeakeaabiaaaGreat
