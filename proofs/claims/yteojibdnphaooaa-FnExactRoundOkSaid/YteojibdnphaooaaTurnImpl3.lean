/- Chapter 11's program: Queued. -/
import Derived.Test.YteojibdnphaooaaTurnImpl2


namespace Go.Proofs.Yteojibdnphaooaa
open Go.RowKit
set_option maxRecDepth 100000
set_option linter.unusedSimpArgs false
set_option linter.unusedVariables false
set_option maxHeartbeats 2000000 in
theorem implQueued (d : RoundD) (v : Value) (line size : Int) (w : World) (hr : RdR lineS w v d.ls) : Calls Try.prog 18 #[.agg #[.int .i64 d.turn, .bool d.given, v], .int .i64 line, .int .i64 size] w fun x w' => ∃ v', x = .returned (.tuple #[.agg #[.int .i64 (queuedD d line size).1.turn, .bool (queuedD d line size).1.given, v'], .bool (queuedD d line size).2]) ∧ OwX lineS w' w.heap.size w'.heap.size v' (queuedD d line size).1.ls ∧ Below w.heap.size w w' := by
  obtain ⟨ad, cap, rfl, h1, h2⟩ := hr.form
  have HR := hide hr
  clear hr
  have hok := fun w h => rright d (.slice ad d.ls.length cap) w h
  obtain ⟨⟨dr, db⟩, hD⟩ : ∃ y, queuedD d line size = y := ⟨_, rfl⟩
  have HD : Hid ((dr, db) = queuedD d line size) := hD.symm
  rw [hD]
  dsimp only
  clear hD
  go_enter Try.func18, Try.ntmps18
  go_wp2_with fail
  obtain ⟨V, hV⟩ : ∃ V, (w.alloc (.cells #[.int .i64 d.turn, .bool d.given, .slice ad d.ls.length cap] 26)).alloc (.cells #[.int .i64 0, .bool false, .slice none 0 0] 26) = V := ⟨_, rfl⟩
  have HB : Hid (Below w.heap.size w V) := by show Below _ _ _; rw [← hV]; exact bo_alloc ((Below.refl _ _).alloc (Nat.le_refl _) _) _
  have HX : Hid (RowIs V w.heap.size 26 [.int .i64 d.turn, .bool d.given, .slice ad d.ls.length cap]) := by show RowIs _ _ _ _; rw [← hV]; exact (rowIs_new w 26 [.int .i64 d.turn, .bool d.given, .slice ad d.ls.length cap]).alloc _
  have HRR : Hid (RowIs V (w.heap.size + 1) 26 [.int .i64 0, .bool false, .slice none 0 0]) := by show RowIs _ _ _ _; rw [← hV]; simpa using rowIs_new (w.alloc (.cells #[.int .i64 d.turn, .bool d.given, .slice ad d.ls.length cap] 26)) 26 [.int .i64 0, .bool false, .slice none 0 0]
  rw [hV]
  clear hV
  refine (hok _ (HR.out.new HB.out)).mono ?_
  cases hq : okRn d
  · rintro z w1 ⟨rfl, hb1⟩
    have HDD : Hid ((dr, db) = (zRn, false)) := by show _ = _; rw [HD.out]; unfold queuedD; rw [if_pos hq]
    obtain ⟨rfl, rfl⟩ := Prod.mk.inj HDD.out
    replace HRR := hide (HRR.out.new hb1)
    replace HB := hide (bchain HB.out hb1)
    clear hb1 HD HDD
    have r0 := HRR.out.cell (j := 0) rfl; have r1 := HRR.out.cell (j := 1) rfl; have r2 := HRR.out.cell (j := 2) rfl; have r3 := HRR.out.frozen 0; have r4 := HRR.out.frozen 1; have r5 := HRR.out.frozen 2; have r6 := HRR.out.lt
    go_wp2_with fail
    refine bodyPost_ret (v := (.tuple #[.agg #[.int .i64 0, .bool false, .slice none 0 0], .bool false])) (by simp [results, Try.results18, go_sem, *]) rfl ?_
    exact ⟨_, rfl, owX_nil _ _ _, by repeat' (first | (with_reducible exact HB.out) | (with_reducible refine Below.setCell ?_ ?_ _) | (with_reducible refine Below.alloc ?_ ?_ _) | (with_reducible refine Below.drew ?_) | (with_reducible refine bo_drewN _ ?_) | omega | (simp; done) | (simp; omega))⟩
  rintro z w1 ⟨rfl, hb1⟩
  have hl1 := (okRn_iff.1 hq).1.1
  have hl6 := (okRn_iff.1 hq).1.2
  have HALL := hide (okRn_iff.1 hq).2.2
  replace HX := hide (HX.out.new hb1)
  replace HRR := hide (HRR.out.new hb1)
  replace HB := hide (bchain HB.out hb1)
  have hlr := HRR.out.lt
  clear hb1 hok
  have HQ := hide hq
  clear hq
  have x0 := HX.out.cell (j := 0) rfl; have x1 := HX.out.cell (j := 1) rfl; have x2 := HX.out.cell (j := 2) rfl; have x3 := HX.out.frozen 0; have x4 := HX.out.frozen 1; have x5 := HX.out.frozen 2; have x6 := HX.out.lt
  go_wp2_with fail
  refine (rapart d _ _ (HR.out.new HB.out) HQ.out).mono ?_
  rintro z w2 ⟨vc, rfl, hox, hb2⟩
  obtain ⟨gl, vp, rfl, hrn⟩ := rnIs_new hox hl1
  replace HRR := hide (HRR.out.new hb2)
  replace HB := hide (bchain HB.out hb2)
  have hs2 := hb2.size
  clear hb2 hox x0 x1 x2 x3 x4 x5 x6 HX
  go_upto_region 4 with fail
  have hb3 : Below w2.heap.size w2 (w2.alloc (.cells #[.int .i64 d.turn, .bool d.given, .slice (some ⟨gl, 0, none⟩) d.ls.length vp] 26)) := (Below.refl _ _).alloc (Nat.le_refl _) _
  have HN := hide hrn
  clear hrn
  generalize w2.alloc (.cells #[.int .i64 d.turn, .bool d.given, .slice (some ⟨gl, 0, none⟩) d.ls.length vp] 26) = w3 at *
  replace HRR := hide (HRR.out.new hb3)
  replace HB := hide (bchain HB.out hb3)
  have hs3 := hb3.size
  clear hb3
  have hgt : w2.heap.size ≠ w.heap.size + 1 := by omega
  have HT := hide HN.out.row
  have HO := hide HN.out.owx
  cases i1 : inB line 0 ((d.ls.length : Int) - 1)
  · have HDD : Hid ((dr, db) = (d, false)) := by show _ = _; rw [HD.out]; unfold queuedD; rw [if_neg (by rw [HQ.out]; decide), if_neg (fun c => inB_false i1 ⟨c.1, by omega⟩)]
    obtain ⟨rfl, rfl⟩ := Prod.mk.inj HDD.out
    clear HDD HD
    have t0 := HT.out.cell (j := 0) rfl; have t1 := HT.out.cell (j := 1) rfl; have t2 := HT.out.cell (j := 2) rfl; have t3 := HT.out.frozen 0; have t4 := HT.out.frozen 1; have t5 := HT.out.frozen 2; have t6 := HT.out.lt
    have r0 := HRR.out.cell (j := 0) rfl; have r1 := HRR.out.cell (j := 1) rfl; have r2 := HRR.out.cell (j := 2) rfl; have r3 := HRR.out.frozen 0; have r4 := HRR.out.frozen 1; have r5 := HRR.out.frozen 2; have r6 := HRR.out.lt
    go_wp2_with fail
    refine (implWithin _ _ _ _).mono ?_; rw [i1]; rintro e w9 ⟨rfl, hsame⟩; obtain rfl := hsame.symm; clear hsame; go_wp2_with fail
    refine bodyPost_ret (v := (.tuple #[.agg #[.int .i64 dr.turn, .bool dr.given, .slice (some ⟨gl, 0, none⟩) dr.ls.length vp], .bool false])) (by simp [results, Try.results18, go_sem, *]) rfl ?_
    refine ⟨_, rfl, ?_, by repeat' (first | (with_reducible exact HB.out) | (with_reducible refine Below.setCell ?_ ?_ _) | (with_reducible refine Below.alloc ?_ ?_ _) | (with_reducible refine Below.drew ?_) | (with_reducible refine bo_drewN _ ?_) | omega | (simp; done) | (simp; omega))⟩; refine (OwX.wide (lo := w1.heap.size) (hi := w3.heap.size) (lo' := w.heap.size) (hi' := w3.heap.size) ?_ (by omega) (Nat.le_refl _)).top; (repeat' (first | (with_reducible exact HO.out) | (with_reducible refine OwX.far ?_ _ _ ?_) | (simp; done) | (simp; omega)))
  obtain ⟨q0, q1⟩ := inB_true i1
  cases i2 : inB size 1 100
  · have HDD : Hid ((dr, db) = (d, false)) := by show _ = _; rw [HD.out]; unfold queuedD; rw [if_neg (by rw [HQ.out]; decide), if_neg (fun c => inB_false i2 ⟨c.2.2.1, c.2.2.2.1⟩)]
    obtain ⟨rfl, rfl⟩ := Prod.mk.inj HDD.out
    clear HDD HD
    have t0 := HT.out.cell (j := 0) rfl; have t1 := HT.out.cell (j := 1) rfl; have t2 := HT.out.cell (j := 2) rfl; have t3 := HT.out.frozen 0; have t4 := HT.out.frozen 1; have t5 := HT.out.frozen 2; have t6 := HT.out.lt
    have r0 := HRR.out.cell (j := 0) rfl; have r1 := HRR.out.cell (j := 1) rfl; have r2 := HRR.out.cell (j := 2) rfl; have r3 := HRR.out.frozen 0; have r4 := HRR.out.frozen 1; have r5 := HRR.out.frozen 2; have r6 := HRR.out.lt
    go_wp2_with fail
    refine (implWithin _ _ _ _).mono ?_; rw [i1]; rintro e w9 ⟨rfl, hsame⟩; obtain rfl := hsame.symm; clear hsame; go_wp2_with fail
    refine (implWithin _ _ _ _).mono ?_; rw [i2]; rintro e w9 ⟨rfl, hsame⟩; obtain rfl := hsame.symm; clear hsame; go_wp2_with fail
    refine bodyPost_ret (v := (.tuple #[.agg #[.int .i64 dr.turn, .bool dr.given, .slice (some ⟨gl, 0, none⟩) dr.ls.length vp], .bool false])) (by simp [results, Try.results18, go_sem, *]) rfl ?_
    refine ⟨_, rfl, ?_, by repeat' (first | (with_reducible exact HB.out) | (with_reducible refine Below.setCell ?_ ?_ _) | (with_reducible refine Below.alloc ?_ ?_ _) | (with_reducible refine Below.drew ?_) | (with_reducible refine bo_drewN _ ?_) | omega | (simp; done) | (simp; omega))⟩; refine (OwX.wide (lo := w1.heap.size) (hi := w3.heap.size) (lo' := w.heap.size) (hi' := w3.heap.size) ?_ (by omega) (Nat.le_refl _)).top; (repeat' (first | (with_reducible exact HO.out) | (with_reducible refine OwX.far ?_ _ _ ?_) | (simp; done) | (simp; omega)))
  obtain ⟨s0, s1⟩ := inB_true i2
  obtain ⟨T, hT⟩ : ∃ T : Nat, line = T := ⟨line.toNat, by omega⟩
  subst hT
  have hTl : T < d.ls.length := by omega
  have hTI : (T : Int) < d.ls.length := by omega
  obtain ⟨hgl, hlg, hgg, hfz, c0, c1, az, pz, bz, c2, p1, p2, hOz, hbz, hWt, hLf, hSz⟩ := HN.out.line T hTl
  have hxo := HALL.out _ (List.getElem_mem hTl)
  have HLN : Hid (ln d.ls T = d.ls[T]) := ln_get hTl
  obtain ⟨x, hx⟩ : ∃ x, x = d.ls[T] := ⟨_, rfl⟩
  rw [← hx] at c0 c1 c2 p1 hOz hWt hLf hSz hxo HLN
  clear hx
  obtain ⟨_, _, l30, _⟩ := okLn_iff.1 hxo
  by_cases h30 : x.sz.length = 30
  · have HDD : Hid ((dr, db) = (d, false)) := by show _ = _; rw [HD.out]; unfold queuedD; rw [if_neg (by rw [HQ.out]; decide), if_neg (fun c => c.2.2.2.2 (by show (ln d.ls T).sz.length = 30; rw [HLN.out]; exact h30))]
    obtain ⟨rfl, rfl⟩ := Prod.mk.inj HDD.out
    have h30' : ¬ (x.sz.length : Int) < 30 := by omega
    have HSZ30 := hide h30
    rw [h30] at c2
    clear HDD HD hOz hbz hWt hLf hSz h30 p1 l30
    have t0 := HT.out.cell (j := 0) rfl; have t1 := HT.out.cell (j := 1) rfl; have t2 := HT.out.cell (j := 2) rfl; have t3 := HT.out.frozen 0; have t4 := HT.out.frozen 1; have t5 := HT.out.frozen 2; have t6 := HT.out.lt
    have r0 := HRR.out.cell (j := 0) rfl; have r1 := HRR.out.cell (j := 1) rfl; have r2 := HRR.out.cell (j := 2) rfl; have r3 := HRR.out.frozen 0; have r4 := HRR.out.frozen 1; have r5 := HRR.out.frozen 2; have r6 := HRR.out.lt
    go_wp2_with fail
    refine (implWithin _ _ _ _).mono ?_; rw [i1]; rintro e w9 ⟨rfl, hsame⟩; obtain rfl := hsame.symm; clear hsame; go_wp2_with fail
    refine (implWithin _ _ _ _).mono ?_; rw [i2]; rintro e w9 ⟨rfl, hsame⟩; obtain rfl := hsame.symm; clear hsame; go_wp2_with fail
    refine bodyPost_ret (v := (.tuple #[.agg #[.int .i64 dr.turn, .bool dr.given, .slice (some ⟨gl, 0, none⟩) dr.ls.length vp], .bool false])) (by simp [results, Try.results18, go_sem, *]) rfl ?_
    refine ⟨_, rfl, ?_, by repeat' (first | (with_reducible exact HB.out) | (with_reducible refine Below.setCell ?_ ?_ _) | (with_reducible refine Below.alloc ?_ ?_ _) | (with_reducible refine Below.drew ?_) | (with_reducible refine bo_drewN _ ?_) | omega | (simp; done) | (simp; omega))⟩; refine (OwX.wide (lo := w1.heap.size) (hi := w3.heap.size) (lo' := w.heap.size) (hi' := w3.heap.size) ?_ (by omega) (Nat.le_refl _)).top; (repeat' (first | (with_reducible exact HO.out) | (with_reducible refine OwX.far ?_ _ _ ?_) | (simp; done) | (simp; omega)))
  have HDD : Hid ((dr, db) = (⟨d.turn, d.given, d.ls.set T ⟨x.wt, x.left, x.sz ++ [size]⟩⟩, true)) := by
    show _ = _
    rw [HD.out]
    unfold queuedD
    rw [if_neg (by rw [HQ.out]; decide), if_pos ⟨q0, by omega, s0, s1, by show (ln d.ls T).sz.length ≠ 30; rw [HLN.out]; exact h30⟩]
    simp only [Int.toNat_natCast]
    rw [show d.ls.getD T zLn = x from HLN.out]
  obtain ⟨rfl, rfl⟩ := Prod.mk.inj HDD.out
  have h30' : (x.sz.length : Int) < 30 := by omega
  have hX : Below w3.heap.size w3 (w3.alloc (.cells #[.int .i64 size] 2)) := (Below.refl _ _).alloc (Nat.le_refl _) _
  obtain ⟨hown, hbe⟩ := owr_ints hOz
  have hownX := owns_new hown hX
  have hrX := reads_int1 w3 size
  have HSz := hide hSz
  have HBz := hide hbz
  have hb0 : ∀ k, (Value.slice az x.sz.length pz).ownBlock = some k → k ∈ bz := fun k hk => by rw [hbe, hk]; simp
  have HB0 := hide hb0
  have HBE := hide hbe
  clear HDD HD hWt hLf hOz hbz hSz hown hb0 hbe h30
  have t0 := HT.out.cell (j := 0) rfl; have t1 := HT.out.cell (j := 1) rfl; have t2 := HT.out.cell (j := 2) rfl; have t3 := HT.out.frozen 0; have t4 := HT.out.frozen 1; have t5 := HT.out.frozen 2; have t6 := HT.out.lt
  go_wp2_with fail
  refine (implWithin _ _ _ _).mono ?_; rw [i1]; rintro e w9 ⟨rfl, hsame⟩; obtain rfl := hsame.symm; clear hsame; go_wp2_with fail
  refine (implWithin _ _ _ _).mono ?_; rw [i2]; rintro e w9 ⟨rfl, hsame⟩; obtain rfl := hsame.symm; clear hsame
  go_wp2_with (at_builtin; go_must (refine wpList_app _ (by rfl) _ _ 33 (by rfl) 2 (.int .i64 0) 1 8 Try.underlying33 (by kernel_rfl) rfl (by decide) 0 _ x.sz.length (iv x.sz) (by rfl) hownX _ 1 (iv [size]) (by rfl) hrX (iv_one _) (by omega) (by decide) (Nat.zero_le _) ?_))
  intro ad7 cp7 w7 hown7 hg7 hat7
  have hs7 : w3.heap.size + 1 ≤ w7.heap.size := by have := hg7.size; simp at this; omega
  have hTB : TurnB bz w3 w7 := ⟨hg7.os.trans hX.os, hg7.tape.trans hX.tape, hg7.output.trans hX.output, by omega, fun k hk hn => (hg7.block k (by have := hX.size; omega) (fun e => hn (HB0.out k e.symm))).trans (hX.block k hk)⟩
  have hO7 : OwR intS w7 (.slice ad7 (x.sz.length + 1) cp7) (x.sz ++ [size]) (Value.slice ad7 (x.sz.length + 1) cp7).ownBlock.toList := ints_owr (by rw [iv_app, List.length_append]; exact hown7)
  have HH7 := hide (HSz.out w7 (.slice ad7 (x.sz.length + 1) cp7) (x.sz ++ [size]) _ hTB hO7 (opt_nodup _) (fun y hy => by
    cases hq : (Value.slice ad7 (x.sz.length + 1) cp7).ownBlock with
    | none => rw [hq] at hy; cases hy
    | some z =>
      rw [hq] at hy
      simp at hy
      subst hy
      rcases hat7 with c | c
      · rw [hq] at c; exact .inl (HB0.out y c.symm)
      · rw [hq] at c
        right
        have : y = w3.heap.size + 1 := Option.some.inj c
        omega))
  have hne : ∀ b, b < w3.heap.size → b ∉ bz → w7.heap[b]? = w3.heap[b]? := fun b h1 h2 => hTB.block b h1 h2
  have hgl7 : w7.heap[gl]? = w3.heap[gl]? := hne gl hgl (fun e => (HBz.out gl e).2.2 rfl)
  have c2' := (World.cell?_of_block (a := ⟨gl, T * 3 + 2, none⟩) hgl7).trans c2
  have f2' := (World.frozen?_of_block (a := ⟨gl, T * 3 + 2, none⟩) hgl7).trans (hfz _)
  have l7 : gl < w7.heap.size := by omega
  have HR7 := hide (HRR.out.kept (hne _ (by omega) (fun e => by have := (HBz.out _ e).1; omega)))
  have HRR8 := hide (HR7.out.far ⟨gl, T * 3 + 2, none⟩ (.slice ad7 (x.sz.length + 1) cp7) (show gl ≠ w.heap.size + 1 by omega))
  have HB7 : Hid (Below w.heap.size w w7) := ⟨hTB.os.trans HB.out.os, hTB.tape.trans HB.out.tape, hTB.output.trans HB.out.output, by have := HB.out.size; omega, fun k hk => (hne k (by have := HB.out.size; omega) (fun e => by have := (HBz.out _ e).1; omega)).trans (HB.out.block k hk)⟩
  have HB8 := hide (HB7.out.setCell (p := ⟨gl, T * 3 + 2, none⟩) (show w.heap.size ≤ gl by omega) (.slice ad7 (x.sz.length + 1) cp7))
  clear hTB hO7 hne hgl7 hown7 hg7 hat7 hrX hownX hX c0 c1 c2 hfz t0 t1 t2 t3 t4 t5 t6 HN HT HO HRR HB HR7 HB7
  try simp only [List.length_append, List.length_singleton] at HH7
  go_upto_region 10 with fail
  clear c2' f2' l7
  generalize w7.setCell ⟨gl, T * 3 + 2, none⟩ (.slice ad7 (x.sz.length + 1) cp7) = W8 at *
  have HT := hide HH7.out.row
  have HO := hide HH7.out.owx
  have hll : (d.ls.set T ⟨x.wt, x.left, x.sz ++ [size]⟩).length = d.ls.length := by simp
  rw [hll] at HT HO
  have HB := hide HB8.out
  have t0 := HT.out.cell (j := 0) rfl; have t1 := HT.out.cell (j := 1) rfl; have t2 := HT.out.cell (j := 2) rfl; have t3 := HT.out.frozen 0; have t4 := HT.out.frozen 1; have t5 := HT.out.frozen 2; have t6 := HT.out.lt
  have r0 := HRR8.out.cell (j := 0) rfl; have r1 := HRR8.out.cell (j := 1) rfl; have r2 := HRR8.out.cell (j := 2) rfl; have r3 := HRR8.out.frozen 0; have r4 := HRR8.out.frozen 1; have r5 := HRR8.out.frozen 2; have r6 := HRR8.out.lt
  go_wp2_with fail
  refine bodyPost_ret (v := (.tuple #[.agg #[.int .i64 d.turn, .bool d.given, .slice (some ⟨gl, 0, none⟩) d.ls.length vp], .bool true])) (by simp [results, Try.results18, go_sem, *]) rfl ?_
  refine ⟨_, rfl, ?_, by repeat' (first | (with_reducible exact HB.out) | (with_reducible refine Below.setCell ?_ ?_ _) | (with_reducible refine Below.alloc ?_ ?_ _) | (with_reducible refine Below.drew ?_) | (with_reducible refine bo_drewN _ ?_) | omega | (simp; done) | (simp; omega))⟩; refine (OwX.wide (lo := w1.heap.size) (hi := W8.heap.size) (lo' := w.heap.size) (hi' := W8.heap.size) ?_ (by omega) (Nat.le_refl _)).top; (repeat' (first | (with_reducible exact HO.out) | (with_reducible refine OwX.far ?_ _ _ ?_) | (simp; done) | (simp; omega)))
end Go.Proofs.Yteojibdnphaooaa
