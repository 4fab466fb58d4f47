/- What the laws of turns draw: a round, and numbers beside it. -/
import Derived.Test.YteojibdnphaooaaTurnDraw
import Derived.Deep.RegionHeld3


namespace Go.Proofs.Yteojibdnphaooaa
open Go.RowKit
set_option maxRecDepth 100000
set_option linter.unusedSimpArgs false
set_option linter.unusedVariables false

set_option maxRecDepth 100000 in
set_option maxHeartbeats 2000000 in
theorem drawRoundOk (a : Option Addr) (len cap : Nat) (w : World) (hl : len ≤ 4096) (hcode : CodeAt w a len w.heap.size) :
    Calls Try.prog 29 #[.slice a len cap] w fun e w' => ∃ (d : RoundD) (v : Value), e = .returned (.agg #[.int .i64 d.turn, .bool d.given, v]) ∧ OwX lineS w' w.heap.size w'.heap.size v d.ls ∧ d.ls.length ≤ 4 ∧ Below w.heap.size w w' := by
  go_enter Try.func29, Try.ntmps29
  go_wp2_with fail
  obtain ⟨V, hV⟩ : ∃ V, w.alloc (.cells #[.int .i64 0, .bool false, .slice none 0 0] 26) = V := ⟨_, rfl⟩
  have hbV : Below w.heap.size w V := by rw [← hV]; exact (Below.refl _ _).alloc (Nat.le_refl _) _
  have HZ : Hid (RowIs V w.heap.size 26 [.int .i64 0, .bool false, .slice none 0 0]) := by show RowIs _ _ _ _; rw [← hV]; exact rowIs_new w 26 [.int .i64 0, .bool false, .slice none 0 0]
  have hlZ := HZ.out.lt
  rw [hV]
  clear hV
  refine (new1 a len cap _ hl (hcode.behind hbV)).mono ?_; rintro x w1 ⟨g, rfl, hg, hc1, hb1⟩
  replace HZ := hide (HZ.out.new hb1)
  have HBW := hide (bchain hbV hb1)
  have hb1s := hb1.size
  have hcl := hc1.lt
  clear hb1 hbV hcode
  have hgw : w.heap.size < g := by omega
  go_wp2_with fail
  refine (draw11 g _ _ hc1).mono ?_; rintro x w2 ⟨d, v, rfl, ho, hd4, hc2, hm2⟩
  obtain ⟨a1, p1, rfl, _⟩ := ho.form
  have HC := hide hc2
  replace HZ := hide (HZ.out.moves hm2 (by omega))
  replace HBW := hide (HBW.out.trans (hm2.below (by omega) HBW.out.size))
  have hs2 := hm2.size
  have HO := hide ho
  clear hc1 hm2 ho
  have r0 := HZ.out.cell (j := 0) rfl; have r1 := HZ.out.cell (j := 1) rfl; have r2 := HZ.out.cell (j := 2) rfl; have r3 := HZ.out.frozen 0; have r4 := HZ.out.frozen 1; have r5 := HZ.out.frozen 2; have r6 := HZ.out.lt
  go_wp2_with fail
  refine bodyPost_ret (v := (.agg #[.int .i64 d.turn, .bool d.given, .slice a1 d.ls.length p1])) (by simp [results, Try.results29, go_sem, *]) rfl ?_
  refine ⟨d, _, rfl, ?_, hd4, by repeat' (first | (with_reducible exact HBW.out) | (with_reducible refine Below.setCell ?_ ?_ _) | (with_reducible refine Below.alloc ?_ ?_ _) | (with_reducible refine Below.drew ?_) | (with_reducible refine bo_drewN _ ?_) | omega | (simp; done) | (simp; omega))⟩
  refine OwX.top (hi := w2.heap.size) (OwX.wide (lo := w1.heap.size) (hi := w2.heap.size) (lo' := w.heap.size) (hi' := w2.heap.size) ?_ (by omega) (Nat.le_refl _))
  (repeat' (first | (with_reducible exact HO.out) | (with_reducible refine OwX.far ?_ _ _ ?_) | (simp; done) | (simp; omega)))
set_option maxRecDepth 100000 in
set_option maxHeartbeats 2000000 in
theorem drawServed (a : Option Addr) (len cap : Nat) (w : World) (hl : len ≤ 4096) (hcode : CodeAt w a len w.heap.size) :
    Calls Try.prog 10 #[.slice a len cap] w fun e w' => ∃ (d : RoundD) (v : Value), e = .returned (.agg #[.int .i64 d.turn, .bool d.given, v]) ∧ OwX lineS w' w.heap.size w'.heap.size v d.ls ∧ d.ls.length ≤ 4 ∧ Below w.heap.size w w' := by
  go_enter Try.func10, Try.ntmps10
  go_wp2_with fail
  obtain ⟨V, hV⟩ : ∃ V, w.alloc (.cells #[.int .i64 0, .bool false, .slice none 0 0] 26) = V := ⟨_, rfl⟩
  have hbV : Below w.heap.size w V := by rw [← hV]; exact (Below.refl _ _).alloc (Nat.le_refl _) _
  have HZ : Hid (RowIs V w.heap.size 26 [.int .i64 0, .bool false, .slice none 0 0]) := by show RowIs _ _ _ _; rw [← hV]; exact rowIs_new w 26 [.int .i64 0, .bool false, .slice none 0 0]
  have hlZ := HZ.out.lt
  rw [hV]
  clear hV
  refine (drawRoundOk a len cap _ hl (hcode.behind hbV)).mono ?_; rintro x w1 ⟨d, v, rfl, ho, hd4, hb1⟩
  obtain ⟨a1, p1, rfl, _⟩ := ho.form
  replace HZ := hide (HZ.out.new hb1)
  have HBW := hide (bchain hbV hb1)
  have HO := hide ho
  clear hb1 hbV hcode ho
  have r0 := HZ.out.cell (j := 0) rfl; have r1 := HZ.out.cell (j := 1) rfl; have r2 := HZ.out.cell (j := 2) rfl; have r3 := HZ.out.frozen 0; have r4 := HZ.out.frozen 1; have r5 := HZ.out.frozen 2; have r6 := HZ.out.lt
  go_wp2_with fail
  refine bodyPost_ret (v := (.agg #[.int .i64 d.turn, .bool d.given, .slice a1 d.ls.length p1])) (by simp [results, Try.results10, go_sem, *]) rfl ?_
  refine ⟨d, _, rfl, ?_, hd4, by repeat' (first | (with_reducible exact HBW.out) | (with_reducible refine Below.setCell ?_ ?_ _) | (with_reducible refine Below.alloc ?_ ?_ _) | (with_reducible refine Below.drew ?_) | (with_reducible refine bo_drewN _ ?_) | omega | (simp; done) | (simp; omega))⟩
  refine OwX.top (hi := w1.heap.size) (OwX.wide (lo := V.heap.size) (hi := w1.heap.size) (lo' := w.heap.size) (hi' := w1.heap.size) ?_ (by omega) (Nat.le_refl _))
  (repeat' (first | (with_reducible exact HO.out) | (with_reducible refine OwX.far ?_ _ _ ?_) | (simp; done) | (simp; omega)))
set_option maxRecDepth 100000 in
set_option maxHeartbeats 2000000 in
theorem drawWaiting (a : Option Addr) (len cap : Nat) (w : World) (hl : len ≤ 4096) (hcode : CodeAt w a len w.heap.size) :
    Calls Try.prog 19 #[.slice a len cap] w fun e w' => ∃ (d : RoundD) (v : Value), e = .returned (.agg #[.int .i64 d.turn, .bool d.given, v]) ∧ OwX lineS w' w.heap.size w'.heap.size v d.ls ∧ d.ls.length ≤ 4 ∧ Below w.heap.size w w' := by
  go_enter Try.func19, Try.ntmps19
  go_wp2_with fail
  obtain ⟨V, hV⟩ : ∃ V, w.alloc (.cells #[.int .i64 0, .bool false, .slice none 0 0] 26) = V := ⟨_, rfl⟩
  have hbV : Below w.heap.size w V := by rw [← hV]; exact (Below.refl _ _).alloc (Nat.le_refl _) _
  have HZ : Hid (RowIs V w.heap.size 26 [.int .i64 0, .bool false, .slice none 0 0]) := by show RowIs _ _ _ _; rw [← hV]; exact rowIs_new w 26 [.int .i64 0, .bool false, .slice none 0 0]
  have hlZ := HZ.out.lt
  rw [hV]
  clear hV
  refine (drawRoundOk a len cap _ hl (hcode.behind hbV)).mono ?_; rintro x w1 ⟨d, v, rfl, ho, hd4, hb1⟩
  obtain ⟨a1, p1, rfl, _⟩ := ho.form
  replace HZ := hide (HZ.out.new hb1)
  have HBW := hide (bchain hbV hb1)
  have HO := hide ho
  clear hb1 hbV hcode ho
  have r0 := HZ.out.cell (j := 0) rfl; have r1 := HZ.out.cell (j := 1) rfl; have r2 := HZ.out.cell (j := 2) rfl; have r3 := HZ.out.frozen 0; have r4 := HZ.out.frozen 1; have r5 := HZ.out.frozen 2; have r6 := HZ.out.lt
  go_wp2_with fail
  refine bodyPost_ret (v := (.agg #[.int .i64 d.turn, .bool d.given, .slice a1 d.ls.length p1])) (by simp [results, Try.results19, go_sem, *]) rfl ?_
  refine ⟨d, _, rfl, ?_, hd4, by repeat' (first | (with_reducible exact HBW.out) | (with_reducible refine Below.setCell ?_ ?_ _) | (with_reducible refine Below.alloc ?_ ?_ _) | (with_reducible refine Below.drew ?_) | (with_reducible refine bo_drewN _ ?_) | omega | (simp; done) | (simp; omega))⟩
  refine OwX.top (hi := w1.heap.size) (OwX.wide (lo := V.heap.size) (hi := w1.heap.size) (lo' := w.heap.size) (hi' := w1.heap.size) ?_ (by omega) (Nat.le_refl _))
  (repeat' (first | (with_reducible exact HO.out) | (with_reducible refine OwX.far ?_ _ _ ?_) | (simp; done) | (simp; omega)))
set_option maxRecDepth 100000 in
set_option maxHeartbeats 2000000 in
theorem drawQueued (a : Option Addr) (len cap : Nat) (w : World) (hl : len ≤ 4096) (hcode : CodeAt w a len w.heap.size) :
    Calls Try.prog 17 #[.slice a len cap] w fun e w' => ∃ (d : RoundD) (v : Value) (z z2 : Int), e = .returned (.tuple #[.agg #[.int .i64 d.turn, .bool d.given, v], .int .i64 z, .int .i64 z2]) ∧ OwX lineS w' w.heap.size w'.heap.size v d.ls ∧ d.ls.length ≤ 4 ∧ Below w.heap.size w w' := by
  go_enter Try.func17, Try.ntmps17
  go_wp2_with fail
  obtain ⟨V, hV⟩ : ∃ V, w.alloc (.cells #[.int .i64 0, .bool false, .slice none 0 0] 26) = V := ⟨_, rfl⟩
  have hbV : Below w.heap.size w V := by rw [← hV]; exact (Below.refl _ _).alloc (Nat.le_refl _) _
  have HZ : Hid (RowIs V w.heap.size 26 [.int .i64 0, .bool false, .slice none 0 0]) := by show RowIs _ _ _ _; rw [← hV]; exact rowIs_new w 26 [.int .i64 0, .bool false, .slice none 0 0]
  have hlZ := HZ.out.lt
  rw [hV]
  clear hV
  refine (new1 a len cap _ hl (hcode.behind hbV)).mono ?_; rintro x w1 ⟨g, rfl, hg, hc1, hb1⟩
  replace HZ := hide (HZ.out.new hb1)
  have HBW := hide (bchain hbV hb1)
  have hb1s := hb1.size
  have hcl := hc1.lt
  clear hb1 hbV hcode
  have hgw : w.heap.size < g := by omega
  go_wp2_with fail
  refine (draw11 g _ _ hc1).mono ?_; rintro x w2 ⟨d, v, rfl, ho, hd4, hc2, hm2⟩
  obtain ⟨a1, p1, rfl, _⟩ := ho.form
  have HC := hide hc2
  replace HZ := hide (HZ.out.moves hm2 (by omega))
  replace HBW := hide (HBW.out.trans (hm2.below (by omega) HBW.out.size))
  have hs2 := hm2.size
  have HO := hide ho
  clear hc1 hm2 ho
  go_upto_region 3 with fail
  have hb3 : Below w2.heap.size w2 (w2.alloc (.cells #[.int .i64 d.turn, .bool d.given, .slice a1 d.ls.length p1] 26)) := (Below.refl _ _).alloc (Nat.le_refl _) _
  have HB5 : Hid (RowIs (w2.alloc (.cells #[.int .i64 d.turn, .bool d.given, .slice a1 d.ls.length p1] 26)) w2.heap.size 26 [.int .i64 d.turn, .bool d.given, .slice a1 d.ls.length p1]) := rowIs_new w2 26 [.int .i64 d.turn, .bool d.given, .slice a1 d.ls.length p1]
  generalize w2.alloc (.cells #[.int .i64 d.turn, .bool d.given, .slice a1 d.ls.length p1] 26) = w3 at *
  replace HC := hide (HC.out.below hb3); replace HZ := hide (HZ.out.new hb3); replace HO := hide (HO.out.new hb3); replace HBW := hide (bchain HBW.out hb3)
  have hs3 := hb3.size
  have hlB := HB5.out.lt
  clear hb3
  generalize hgb : w2.heap.size = gb at *
  have hgbw : w.heap.size < gb ∧ g < gb := by omega
  clear hgb
  generalize hlo : w1.heap.size = lo at *
  clear hlo
  go_wp2_with fail
  refine (from1 g _ (-1) 7 _ HC.out (by omega) (by omega) (by omega)).mono ?_; rintro e w4 ⟨zl, _, _, rfl, hcx, hmx⟩
  replace HC := hide hcx; replace HZ := hide (HZ.out.moves hmx (by omega)); replace HO := hide (HO.out.moves hmx (by omega)); replace HBW := hide (HBW.out.trans (hmx.below (by omega) HBW.out.size)); replace HB5 := hide (HB5.out.moves hmx (by omega))
  clear hcx hmx
  go_upto_region 4 with fail
  refine wp_region_held_drew (S := fun u => RowIs u gb 26 [.int .i64 d.turn, .bool d.given, .slice a1 d.ls.length p1]) (by kernel_rfl) (show RowIs (World.drew w4) _ _ _ from HB5.out.drewN 1) (fun hS => ?_)
  obtain ⟨u0, hu0⟩ : ∃ u : World, u = World.drew w4 := ⟨_, rfl⟩
  have hbu : Below w4.heap.size w4 u0 := by rw [hu0]; exact bo_drewN 1 (Below.refl _ _)
  rw [← hu0] at hS ⊢
  clear hu0
  replace HC := hide (HC.out.below hbu); replace HZ := hide (HZ.out.new hbu); replace HO := hide (HO.out.new hbu); replace HBW := hide (bchain HBW.out hbu)
  clear hbu HB5
  refine wpAnyH_take (i := 0) (v := ?_) rfl (by kernel_rfl) (by kernel_rfl) (by kernel_rfl) (fun _ _ _ h => h) (Or.inl ⟨by kernel_rfl, ?_⟩) hS ?_; rotate_left; focus (intro uu hu; have l0 := hu.cell (j := 0) rfl; have l1 := hu.cell (j := 1) rfl; have l2 := hu.cell (j := 2) rfl; have ll := hu.lt; clear hu; go_simp; try with_reducible rfl)
  try simp only [Act.put, List.getElem_toArray, List.getElem_cons_succ, List.getElem_cons_zero, List.setIfInBounds_toArray, List.set_cons_zero, List.set_cons_succ]
  refine wpAnyH_take (i := 1) (v := ?_) rfl (by kernel_rfl) (by kernel_rfl) (by kernel_rfl) (fun _ _ _ h => h) (Or.inl ⟨by kernel_rfl, ?_⟩) hS ?_; rotate_left; focus (intro uu hu; clear hu; go_simp; try with_reducible rfl)
  try simp only [Act.put, List.getElem_toArray, List.getElem_cons_succ, List.getElem_cons_zero, List.setIfInBounds_toArray, List.set_cons_zero, List.set_cons_succ]
  refine wpAnyH_take (i := 3) (v := ?_) rfl (by kernel_rfl) (by kernel_rfl) (by kernel_rfl) (fun _ _ _ h => h) (Or.inl ⟨by kernel_rfl, ?_⟩) hS ?_; rotate_left; focus (intro uu hu; clear hu; go_simp; try with_reducible rfl)
  try simp only [Act.put, List.getElem_toArray, List.getElem_cons_succ, List.getElem_cons_zero, List.setIfInBounds_toArray, List.set_cons_zero, List.set_cons_succ]
  refine wpAnyH_ready (rs := [2, 4]) (by kernel_rfl) (by simp) ?_
  refine (AllReadyH.cons rfl (fun K hK => ?_) (AllReadyH.cons rfl (fun K hK => ?_) AllReadyH.nil))
  · skip
    rw [if_pos (by kernel_rfl)]
    go_simp
    obtain ⟨y1, hX⟩ : ∃ u, u0.alloc (.cells #[.int .i64 0, .int .i64 1, .int .i64 50, .int .i64 100, .int .i64 101, .int .i64 7] 2) = u := ⟨_, rfl⟩
    have hbx : Below u0.heap.size u0 y1 := by rw [← hX]; exact (Below.refl _ _).alloc (Nat.le_refl _) _
    have RA : Hid (RowIs y1 u0.heap.size 2 [.int .i64 0, .int .i64 1, .int .i64 50, .int .i64 100, .int .i64 101, .int .i64 7]) := by show RowIs _ _ _ _; rw [← hX]; exact rowIs_new u0 _ _
    obtain ⟨ga, hga⟩ : ∃ ga, u0.heap.size = ga := ⟨_, rfl⟩
    have hgb : ga ≠ g ∧ ga ≠ w.heap.size := by have := hS.lt; omega
    (try replace HC := hide (HC.out.below hbx)); replace HZ := hide (HZ.out.new hbx); replace HO := hide (HO.out.new hbx); replace HBW := hide (bchain HBW.out hbx)
    rw [hX]
    have hS2 := hS.new hbx
    refine hK.out _ _ hS2 (fun hS => ?_)
    clear hK K hbx hX hS2
    rw [hga] at RA ⊢
    clear hga
    try simp only [Act.put, List.getElem_toArray, List.getElem_cons_succ, List.getElem_cons_zero, List.setIfInBounds_toArray, List.set_cons_zero, List.set_cons_succ]
    refine wpAnyH_ready (rs := [4]) (by kernel_rfl) (by simp) ?_
    refine (AllReadyH.cons rfl (fun K hK => ?_) AllReadyH.nil)
    rw [if_pos (by kernel_rfl)]
    go_simp
    refine (below1 g _ 6 _ HC.out (by omega)).mono ?_; rintro e y2 ⟨q, q0, q1, _, rfl, hcx, hmx⟩
    replace HC := hide hcx; replace HZ := hide (HZ.out.moves hmx (by omega)); replace HO := hide (HO.out.moves hmx (by omega)); replace HBW := hide (HBW.out.trans (hmx.below (by omega) HBW.out.size)); (try replace RA := hide (RA.out.moves hmx hgb.1))
    clear hcx
    refine hK.out _ _ (hS.moves hmx (by omega)) (fun hS => ?_)
    clear hK K hmx
    have q6 := q1 (by omega)
    clear q1
    obtain ⟨qn, rfl⟩ : ∃ n : Nat, q = n := ⟨q.toNat, by omega⟩
    try simp only [Act.put, List.getElem_toArray, List.getElem_cons_succ, List.getElem_cons_zero, List.setIfInBounds_toArray, List.set_cons_zero, List.set_cons_succ]
    refine wpAnyH_take (i := 5) (v := ?_) rfl (by kernel_rfl) (by kernel_rfl) (by kernel_rfl) (fun _ _ _ h => h) (Or.inl ⟨by kernel_rfl, ?_⟩) hS ?_; rotate_left; focus (intro uu hu; clear hu; go_simp; try with_reducible rfl)
    try simp only [Act.put, List.getElem_toArray, List.getElem_cons_succ, List.getElem_cons_zero, List.setIfInBounds_toArray, List.set_cons_zero, List.set_cons_succ]
    refine wpAnyH_ready (rs := [6, 7]) (by kernel_rfl) (by simp) ?_
    refine (AllReadyH.cons rfl (fun K hK => ?_) (AllReadyH.cons rfl (fun K hK => ?_) AllReadyH.nil))
    · skip
      rw [if_pos (by kernel_rfl)]
      obtain ⟨z, hz⟩ : ∃ z : Int, y2.cell? ⟨ga, qn, none⟩ = some (.int .i64 z) := by
        have : qn = 0 ∨ qn = 1 ∨ qn = 2 ∨ qn = 3 ∨ qn = 4 ∨ qn = 5 := by omega
        rcases this with rfl | rfl | rfl | rfl | rfl | rfl <;> exact ⟨_, RA.out.cell rfl⟩
      have hza := RA.out.lt
      go_simp
      refine hK.out _ _ hS (fun hS => ?_)
      clear hK K
      clear hz hza
      try simp only [Act.put, List.getElem_toArray, List.getElem_cons_succ, List.getElem_cons_zero, List.setIfInBounds_toArray, List.set_cons_zero, List.set_cons_succ]
      refine wpAnyH_ready (rs := [7]) (by kernel_rfl) (by simp) ?_
      refine (AllReadyH.cons rfl (fun K hK => ?_) AllReadyH.nil)
      rw [if_pos (by kernel_rfl)]
      have r0 := HZ.out.cell (j := 0) rfl; have r1 := HZ.out.cell (j := 1) rfl; have r2 := HZ.out.cell (j := 2) rfl; have r3 := HZ.out.frozen 0; have r4 := HZ.out.frozen 1; have r5 := HZ.out.frozen 2; have r6 := HZ.out.lt
      go_simp
      clear r0 r1 r2 r3 r4 r5 r6
      have z3 : RowIs (((y2.setCell ⟨w.heap.size, 0, none⟩ (.int .i64 d.turn)).setCell ⟨w.heap.size, 1, none⟩ (.bool d.given)).setCell ⟨w.heap.size, 2, none⟩ (.slice a1 d.ls.length p1)) w.heap.size 26 [.int .i64 d.turn, .bool d.given, .slice a1 d.ls.length p1] := ((HZ.out.set 0 _).set 1 _).set 2 _
      replace HZ := hide z3
      clear z3
      clear HC
      replace HO := hide (((HO.out.far ⟨w.heap.size, 0, none⟩ (.int .i64 d.turn) (.inl (by simp; omega))).far ⟨w.heap.size, 1, none⟩ (.bool d.given) (.inl (by simp; omega))).far ⟨w.heap.size, 2, none⟩ (.slice a1 d.ls.length p1) (.inl (by simp; omega)))
      replace HBW := hide (((HBW.out.setCell (p := ⟨w.heap.size, 0, none⟩) (Nat.le_refl _) (.int .i64 d.turn)).setCell (p := ⟨w.heap.size, 1, none⟩) (Nat.le_refl _) (.bool d.given)).setCell (p := ⟨w.heap.size, 2, none⟩) (Nat.le_refl _) (.slice a1 d.ls.length p1))
      (try replace RA := hide (((RA.out.far ⟨w.heap.size, 0, none⟩ (.int .i64 d.turn) (fun e => hgb.2 e.symm)).far ⟨w.heap.size, 1, none⟩ (.bool d.given) (fun e => hgb.2 e.symm)).far ⟨w.heap.size, 2, none⟩ (.slice a1 d.ls.length p1) (fun e => hgb.2 e.symm)))
      refine hK.out _ _ ?_ (fun hS => ?_)
      · exact ((hS.far _ _ (by simp; omega)).far _ _ (by simp; omega)).far _ _ (by simp; omega)
      clear hK K
      generalize (((y2.setCell ⟨w.heap.size, 0, none⟩ (.int .i64 d.turn)).setCell ⟨w.heap.size, 1, none⟩ (.bool d.given)).setCell ⟨w.heap.size, 2, none⟩ (.slice a1 d.ls.length p1)) = y4 at *
      try simp only [Act.put, List.getElem_toArray, List.getElem_cons_succ, List.getElem_cons_zero, List.setIfInBounds_toArray, List.set_cons_zero, List.set_cons_succ]
      refine wpAnyH_take (i := 8) (v := ?_) rfl (by kernel_rfl) (by kernel_rfl) (by kernel_rfl) (fun _ _ _ h => h) (Or.inl ⟨by kernel_rfl, ?_⟩) hS ?_; rotate_left; focus (intro uu hu; clear hu; go_simp; try with_reducible rfl)
      try simp only [Act.put, List.getElem_toArray, List.getElem_cons_succ, List.getElem_cons_zero, List.setIfInBounds_toArray, List.set_cons_zero, List.set_cons_succ]
      refine wpAnyH_take (i := 9) (v := ?_) rfl (by kernel_rfl) (by kernel_rfl) (by kernel_rfl) (fun _ _ _ h => h) (Or.inl ⟨by kernel_rfl, ?_⟩) hS ?_; rotate_left; focus (intro uu hu; clear hu; go_simp; try with_reducible rfl)
      try simp only [Act.put, List.getElem_toArray, List.getElem_cons_succ, List.getElem_cons_zero, List.setIfInBounds_toArray, List.set_cons_zero, List.set_cons_succ]
      refine wpAnyH_done (by kernel_rfl) ?_ _
      have t0 := HZ.out.cell (j := 0) rfl
      have t1 := HZ.out.cell (j := 1) rfl
      have t2 := HZ.out.cell (j := 2) rfl
      have hlT := HZ.out.lt
      go_wp2_with fail
      refine bodyPost_ret (v := (.tuple #[.agg #[.int .i64 d.turn, .bool d.given, .slice a1 d.ls.length p1], .int .i64 zl, .int .i64 z])) (by simp [results, Try.results17, go_sem, *]) rfl ?_
      exact ⟨d, _, zl, z, rfl, (HO.out.top).wide (by omega) (Nat.le_refl _), hd4, HBW.out⟩
    · skip
      rw [if_pos (by kernel_rfl)]
      have r0 := HZ.out.cell (j := 0) rfl; have r1 := HZ.out.cell (j := 1) rfl; have r2 := HZ.out.cell (j := 2) rfl; have r3 := HZ.out.frozen 0; have r4 := HZ.out.frozen 1; have r5 := HZ.out.frozen 2; have r6 := HZ.out.lt
      go_simp
      clear r0 r1 r2 r3 r4 r5 r6
      have z3 : RowIs (((y2.setCell ⟨w.heap.size, 0, none⟩ (.int .i64 d.turn)).setCell ⟨w.heap.size, 1, none⟩ (.bool d.given)).setCell ⟨w.heap.size, 2, none⟩ (.slice a1 d.ls.length p1)) w.heap.size 26 [.int .i64 d.turn, .bool d.given, .slice a1 d.ls.length p1] := ((HZ.out.set 0 _).set 1 _).set 2 _
      replace HZ := hide z3
      clear z3
      clear HC
      replace HO := hide (((HO.out.far ⟨w.heap.size, 0, none⟩ (.int .i64 d.turn) (.inl (by simp; omega))).far ⟨w.heap.size, 1, none⟩ (.bool d.given) (.inl (by simp; omega))).far ⟨w.heap.size, 2, none⟩ (.slice a1 d.ls.length p1) (.inl (by simp; omega)))
      replace HBW := hide (((HBW.out.setCell (p := ⟨w.heap.size, 0, none⟩) (Nat.le_refl _) (.int .i64 d.turn)).setCell (p := ⟨w.heap.size, 1, none⟩) (Nat.le_refl _) (.bool d.given)).setCell (p := ⟨w.heap.size, 2, none⟩) (Nat.le_refl _) (.slice a1 d.ls.length p1))
      (try replace RA := hide (((RA.out.far ⟨w.heap.size, 0, none⟩ (.int .i64 d.turn) (fun e => hgb.2 e.symm)).far ⟨w.heap.size, 1, none⟩ (.bool d.given) (fun e => hgb.2 e.symm)).far ⟨w.heap.size, 2, none⟩ (.slice a1 d.ls.length p1) (fun e => hgb.2 e.symm)))
      refine hK.out _ _ ?_ (fun hS => ?_)
      · exact ((hS.far _ _ (by simp; omega)).far _ _ (by simp; omega)).far _ _ (by simp; omega)
      clear hK K
      generalize (((y2.setCell ⟨w.heap.size, 0, none⟩ (.int .i64 d.turn)).setCell ⟨w.heap.size, 1, none⟩ (.bool d.given)).setCell ⟨w.heap.size, 2, none⟩ (.slice a1 d.ls.length p1)) = y5 at *
      try simp only [Act.put, List.getElem_toArray, List.getElem_cons_succ, List.getElem_cons_zero, List.setIfInBounds_toArray, List.set_cons_zero, List.set_cons_succ]
      refine wpAnyH_take (i := 8) (v := ?_) rfl (by kernel_rfl) (by kernel_rfl) (by kernel_rfl) (fun _ _ _ h => h) (Or.inl ⟨by kernel_rfl, ?_⟩) hS ?_; rotate_left; focus (intro uu hu; clear hu; go_simp; try with_reducible rfl)
      try simp only [Act.put, List.getElem_toArray, List.getElem_cons_succ, List.getElem_cons_zero, List.setIfInBounds_toArray, List.set_cons_zero, List.set_cons_succ]
      refine wpAnyH_ready (rs := [6]) (by kernel_rfl) (by simp) ?_
      refine (AllReadyH.cons rfl (fun K hK => ?_) AllReadyH.nil)
      rw [if_pos (by kernel_rfl)]
      obtain ⟨z, hz⟩ : ∃ z : Int, y5.cell? ⟨ga, qn, none⟩ = some (.int .i64 z) := by
        have : qn = 0 ∨ qn = 1 ∨ qn = 2 ∨ qn = 3 ∨ qn = 4 ∨ qn = 5 := by omega
        rcases this with rfl | rfl | rfl | rfl | rfl | rfl <;> exact ⟨_, RA.out.cell rfl⟩
      have hza := RA.out.lt
      go_simp
      refine hK.out _ _ hS (fun hS => ?_)
      clear hK K
      clear hz hza
      try simp only [Act.put, List.getElem_toArray, List.getElem_cons_succ, List.getElem_cons_zero, List.setIfInBounds_toArray, List.set_cons_zero, List.set_cons_succ]
      refine wpAnyH_take (i := 9) (v := ?_) rfl (by kernel_rfl) (by kernel_rfl) (by kernel_rfl) (fun _ _ _ h => h) (Or.inl ⟨by kernel_rfl, ?_⟩) hS ?_; rotate_left; focus (intro uu hu; clear hu; go_simp; try with_reducible rfl)
      try simp only [Act.put, List.getElem_toArray, List.getElem_cons_succ, List.getElem_cons_zero, List.setIfInBounds_toArray, List.set_cons_zero, List.set_cons_succ]
      refine wpAnyH_done (by kernel_rfl) ?_ _
      have t0 := HZ.out.cell (j := 0) rfl
      have t1 := HZ.out.cell (j := 1) rfl
      have t2 := HZ.out.cell (j := 2) rfl
      have hlT := HZ.out.lt
      go_wp2_with fail
      refine bodyPost_ret (v := (.tuple #[.agg #[.int .i64 d.turn, .bool d.given, .slice a1 d.ls.length p1], .int .i64 zl, .int .i64 z])) (by simp [results, Try.results17, go_sem, *]) rfl ?_
      exact ⟨d, _, zl, z, rfl, (HO.out.top).wide (by omega) (Nat.le_refl _), hd4, HBW.out⟩
  · skip
    rw [if_pos (by kernel_rfl)]
    go_simp
    refine (below1 g _ 6 _ HC.out (by omega)).mono ?_; rintro e y7 ⟨q, q0, q1, _, rfl, hcx, hmx⟩
    replace HC := hide hcx; replace HZ := hide (HZ.out.moves hmx (by omega)); replace HO := hide (HO.out.moves hmx (by omega)); replace HBW := hide (HBW.out.trans (hmx.below (by omega) HBW.out.size)); (try replace RA := hide (RA.out.moves hmx hgb.1))
    clear hcx
    refine hK.out _ _ (hS.moves hmx (by omega)) (fun hS => ?_)
    clear hK K hmx
    have q6 := q1 (by omega)
    clear q1
    obtain ⟨qn, rfl⟩ : ∃ n : Nat, q = n := ⟨q.toNat, by omega⟩
    try simp only [Act.put, List.getElem_toArray, List.getElem_cons_succ, List.getElem_cons_zero, List.setIfInBounds_toArray, List.set_cons_zero, List.set_cons_succ]
    refine wpAnyH_ready (rs := [2, 7]) (by kernel_rfl) (by simp) ?_
    refine (AllReadyH.cons rfl (fun K hK => ?_) (AllReadyH.cons rfl (fun K hK => ?_) AllReadyH.nil))
    · skip
      rw [if_pos (by kernel_rfl)]
      go_simp
      obtain ⟨y8, hX⟩ : ∃ u, y7.alloc (.cells #[.int .i64 0, .int .i64 1, .int .i64 50, .int .i64 100, .int .i64 101, .int .i64 7] 2) = u := ⟨_, rfl⟩
      have hbx : Below y7.heap.size y7 y8 := by rw [← hX]; exact (Below.refl _ _).alloc (Nat.le_refl _) _
      have RA : Hid (RowIs y8 y7.heap.size 2 [.int .i64 0, .int .i64 1, .int .i64 50, .int .i64 100, .int .i64 101, .int .i64 7]) := by show RowIs _ _ _ _; rw [← hX]; exact rowIs_new y7 _ _
      obtain ⟨ga, hga⟩ : ∃ ga, y7.heap.size = ga := ⟨_, rfl⟩
      have hgb : ga ≠ g ∧ ga ≠ w.heap.size := by have := hS.lt; omega
      (try replace HC := hide (HC.out.below hbx)); replace HZ := hide (HZ.out.new hbx); replace HO := hide (HO.out.new hbx); replace HBW := hide (bchain HBW.out hbx)
      rw [hX]
      have hS2 := hS.new hbx
      refine hK.out _ _ hS2 (fun hS => ?_)
      clear hK K hbx hX hS2
      rw [hga] at RA ⊢
      clear hga
      try simp only [Act.put, List.getElem_toArray, List.getElem_cons_succ, List.getElem_cons_zero, List.setIfInBounds_toArray, List.set_cons_zero, List.set_cons_succ]
      refine wpAnyH_take (i := 5) (v := ?_) rfl (by kernel_rfl) (by kernel_rfl) (by kernel_rfl) (fun _ _ _ h => h) (Or.inl ⟨by kernel_rfl, ?_⟩) hS ?_; rotate_left; focus (intro uu hu; clear hu; go_simp; try with_reducible rfl)
      try simp only [Act.put, List.getElem_toArray, List.getElem_cons_succ, List.getElem_cons_zero, List.setIfInBounds_toArray, List.set_cons_zero, List.set_cons_succ]
      refine wpAnyH_ready (rs := [6, 7]) (by kernel_rfl) (by simp) ?_
      refine (AllReadyH.cons rfl (fun K hK => ?_) (AllReadyH.cons rfl (fun K hK => ?_) AllReadyH.nil))
      · skip
        rw [if_pos (by kernel_rfl)]
        obtain ⟨z, hz⟩ : ∃ z : Int, y8.cell? ⟨ga, qn, none⟩ = some (.int .i64 z) := by
          have : qn = 0 ∨ qn = 1 ∨ qn = 2 ∨ qn = 3 ∨ qn = 4 ∨ qn = 5 := by omega
          rcases this with rfl | rfl | rfl | rfl | rfl | rfl <;> exact ⟨_, RA.out.cell rfl⟩
        have hza := RA.out.lt
        go_simp
        refine hK.out _ _ hS (fun hS => ?_)
        clear hK K
        clear hz hza
        try simp only [Act.put, List.getElem_toArray, List.getElem_cons_succ, List.getElem_cons_zero, List.setIfInBounds_toArray, List.set_cons_zero, List.set_cons_succ]
        refine wpAnyH_ready (rs := [7]) (by kernel_rfl) (by simp) ?_
        refine (AllReadyH.cons rfl (fun K hK => ?_) AllReadyH.nil)
        rw [if_pos (by kernel_rfl)]
        have r0 := HZ.out.cell (j := 0) rfl; have r1 := HZ.out.cell (j := 1) rfl; have r2 := HZ.out.cell (j := 2) rfl; have r3 := HZ.out.frozen 0; have r4 := HZ.out.frozen 1; have r5 := HZ.out.frozen 2; have r6 := HZ.out.lt
        go_simp
        clear r0 r1 r2 r3 r4 r5 r6
        have z3 : RowIs (((y8.setCell ⟨w.heap.size, 0, none⟩ (.int .i64 d.turn)).setCell ⟨w.heap.size, 1, none⟩ (.bool d.given)).setCell ⟨w.heap.size, 2, none⟩ (.slice a1 d.ls.length p1)) w.heap.size 26 [.int .i64 d.turn, .bool d.given, .slice a1 d.ls.length p1] := ((HZ.out.set 0 _).set 1 _).set 2 _
        replace HZ := hide z3
        clear z3
        clear HC
        replace HO := hide (((HO.out.far ⟨w.heap.size, 0, none⟩ (.int .i64 d.turn) (.inl (by simp; omega))).far ⟨w.heap.size, 1, none⟩ (.bool d.given) (.inl (by simp; omega))).far ⟨w.heap.size, 2, none⟩ (.slice a1 d.ls.length p1) (.inl (by simp; omega)))
        replace HBW := hide (((HBW.out.setCell (p := ⟨w.heap.size, 0, none⟩) (Nat.le_refl _) (.int .i64 d.turn)).setCell (p := ⟨w.heap.size, 1, none⟩) (Nat.le_refl _) (.bool d.given)).setCell (p := ⟨w.heap.size, 2, none⟩) (Nat.le_refl _) (.slice a1 d.ls.length p1))
        (try replace RA := hide (((RA.out.far ⟨w.heap.size, 0, none⟩ (.int .i64 d.turn) (fun e => hgb.2 e.symm)).far ⟨w.heap.size, 1, none⟩ (.bool d.given) (fun e => hgb.2 e.symm)).far ⟨w.heap.size, 2, none⟩ (.slice a1 d.ls.length p1) (fun e => hgb.2 e.symm)))
        refine hK.out _ _ ?_ (fun hS => ?_)
        · exact ((hS.far _ _ (by simp; omega)).far _ _ (by simp; omega)).far _ _ (by simp; omega)
        clear hK K
        generalize (((y8.setCell ⟨w.heap.size, 0, none⟩ (.int .i64 d.turn)).setCell ⟨w.heap.size, 1, none⟩ (.bool d.given)).setCell ⟨w.heap.size, 2, none⟩ (.slice a1 d.ls.length p1)) = y10 at *
        try simp only [Act.put, List.getElem_toArray, List.getElem_cons_succ, List.getElem_cons_zero, List.setIfInBounds_toArray, List.set_cons_zero, List.set_cons_succ]
        refine wpAnyH_take (i := 8) (v := ?_) rfl (by kernel_rfl) (by kernel_rfl) (by kernel_rfl) (fun _ _ _ h => h) (Or.inl ⟨by kernel_rfl, ?_⟩) hS ?_; rotate_left; focus (intro uu hu; clear hu; go_simp; try with_reducible rfl)
        try simp only [Act.put, List.getElem_toArray, List.getElem_cons_succ, List.getElem_cons_zero, List.setIfInBounds_toArray, List.set_cons_zero, List.set_cons_succ]
        refine wpAnyH_take (i := 9) (v := ?_) rfl (by kernel_rfl) (by kernel_rfl) (by kernel_rfl) (fun _ _ _ h => h) (Or.inl ⟨by kernel_rfl, ?_⟩) hS ?_; rotate_left; focus (intro uu hu; clear hu; go_simp; try with_reducible rfl)
        try simp only [Act.put, List.getElem_toArray, List.getElem_cons_succ, List.getElem_cons_zero, List.setIfInBounds_toArray, List.set_cons_zero, List.set_cons_succ]
        refine wpAnyH_done (by kernel_rfl) ?_ _
        have t0 := HZ.out.cell (j := 0) rfl
        have t1 := HZ.out.cell (j := 1) rfl
        have t2 := HZ.out.cell (j := 2) rfl
        have hlT := HZ.out.lt
        go_wp2_with fail
        refine bodyPost_ret (v := (.tuple #[.agg #[.int .i64 d.turn, .bool d.given, .slice a1 d.ls.length p1], .int .i64 zl, .int .i64 z])) (by simp [results, Try.results17, go_sem, *]) rfl ?_
        exact ⟨d, _, zl, z, rfl, (HO.out.top).wide (by omega) (Nat.le_refl _), hd4, HBW.out⟩
      · skip
        rw [if_pos (by kernel_rfl)]
        have r0 := HZ.out.cell (j := 0) rfl; have r1 := HZ.out.cell (j := 1) rfl; have r2 := HZ.out.cell (j := 2) rfl; have r3 := HZ.out.frozen 0; have r4 := HZ.out.frozen 1; have r5 := HZ.out.frozen 2; have r6 := HZ.out.lt
        go_simp
        clear r0 r1 r2 r3 r4 r5 r6
        have z3 : RowIs (((y8.setCell ⟨w.heap.size, 0, none⟩ (.int .i64 d.turn)).setCell ⟨w.heap.size, 1, none⟩ (.bool d.given)).setCell ⟨w.heap.size, 2, none⟩ (.slice a1 d.ls.length p1)) w.heap.size 26 [.int .i64 d.turn, .bool d.given, .slice a1 d.ls.length p1] := ((HZ.out.set 0 _).set 1 _).set 2 _
        replace HZ := hide z3
        clear z3
        clear HC
        replace HO := hide (((HO.out.far ⟨w.heap.size, 0, none⟩ (.int .i64 d.turn) (.inl (by simp; omega))).far ⟨w.heap.size, 1, none⟩ (.bool d.given) (.inl (by simp; omega))).far ⟨w.heap.size, 2, none⟩ (.slice a1 d.ls.length p1) (.inl (by simp; omega)))
        replace HBW := hide (((HBW.out.setCell (p := ⟨w.heap.size, 0, none⟩) (Nat.le_refl _) (.int .i64 d.turn)).setCell (p := ⟨w.heap.size, 1, none⟩) (Nat.le_refl _) (.bool d.given)).setCell (p := ⟨w.heap.size, 2, none⟩) (Nat.le_refl _) (.slice a1 d.ls.length p1))
        (try replace RA := hide (((RA.out.far ⟨w.heap.size, 0, none⟩ (.int .i64 d.turn) (fun e => hgb.2 e.symm)).far ⟨w.heap.size, 1, none⟩ (.bool d.given) (fun e => hgb.2 e.symm)).far ⟨w.heap.size, 2, none⟩ (.slice a1 d.ls.length p1) (fun e => hgb.2 e.symm)))
        refine hK.out _ _ ?_ (fun hS => ?_)
        · exact ((hS.far _ _ (by simp; omega)).far _ _ (by simp; omega)).far _ _ (by simp; omega)
        clear hK K
        generalize (((y8.setCell ⟨w.heap.size, 0, none⟩ (.int .i64 d.turn)).setCell ⟨w.heap.size, 1, none⟩ (.bool d.given)).setCell ⟨w.heap.size, 2, none⟩ (.slice a1 d.ls.length p1)) = y11 at *
        try simp only [Act.put, List.getElem_toArray, List.getElem_cons_succ, List.getElem_cons_zero, List.setIfInBounds_toArray, List.set_cons_zero, List.set_cons_succ]
        refine wpAnyH_take (i := 8) (v := ?_) rfl (by kernel_rfl) (by kernel_rfl) (by kernel_rfl) (fun _ _ _ h => h) (Or.inl ⟨by kernel_rfl, ?_⟩) hS ?_; rotate_left; focus (intro uu hu; clear hu; go_simp; try with_reducible rfl)
        try simp only [Act.put, List.getElem_toArray, List.getElem_cons_succ, List.getElem_cons_zero, List.setIfInBounds_toArray, List.set_cons_zero, List.set_cons_succ]
        refine wpAnyH_ready (rs := [6]) (by kernel_rfl) (by simp) ?_
        refine (AllReadyH.cons rfl (fun K hK => ?_) AllReadyH.nil)
        rw [if_pos (by kernel_rfl)]
        obtain ⟨z, hz⟩ : ∃ z : Int, y11.cell? ⟨ga, qn, none⟩ = some (.int .i64 z) := by
          have : qn = 0 ∨ qn = 1 ∨ qn = 2 ∨ qn = 3 ∨ qn = 4 ∨ qn = 5 := by omega
          rcases this with rfl | rfl | rfl | rfl | rfl | rfl <;> exact ⟨_, RA.out.cell rfl⟩
        have hza := RA.out.lt
        go_simp
        refine hK.out _ _ hS (fun hS => ?_)
        clear hK K
        clear hz hza
        try simp only [Act.put, List.getElem_toArray, List.getElem_cons_succ, List.getElem_cons_zero, List.setIfInBounds_toArray, List.set_cons_zero, List.set_cons_succ]
        refine wpAnyH_take (i := 9) (v := ?_) rfl (by kernel_rfl) (by kernel_rfl) (by kernel_rfl) (fun _ _ _ h => h) (Or.inl ⟨by kernel_rfl, ?_⟩) hS ?_; rotate_left; focus (intro uu hu; clear hu; go_simp; try with_reducible rfl)
        try simp only [Act.put, List.getElem_toArray, List.getElem_cons_succ, List.getElem_cons_zero, List.setIfInBounds_toArray, List.set_cons_zero, List.set_cons_succ]
        refine wpAnyH_done (by kernel_rfl) ?_ _
        have t0 := HZ.out.cell (j := 0) rfl
        have t1 := HZ.out.cell (j := 1) rfl
        have t2 := HZ.out.cell (j := 2) rfl
        have hlT := HZ.out.lt
        go_wp2_with fail
        refine bodyPost_ret (v := (.tuple #[.agg #[.int .i64 d.turn, .bool d.given, .slice a1 d.ls.length p1], .int .i64 zl, .int .i64 z])) (by simp [results, Try.results17, go_sem, *]) rfl ?_
        exact ⟨d, _, zl, z, rfl, (HO.out.top).wide (by omega) (Nat.le_refl _), hd4, HBW.out⟩
    · skip
      rw [if_pos (by kernel_rfl)]
      have r0 := HZ.out.cell (j := 0) rfl; have r1 := HZ.out.cell (j := 1) rfl; have r2 := HZ.out.cell (j := 2) rfl; have r3 := HZ.out.frozen 0; have r4 := HZ.out.frozen 1; have r5 := HZ.out.frozen 2; have r6 := HZ.out.lt
      go_simp
      clear r0 r1 r2 r3 r4 r5 r6
      have z3 : RowIs (((y7.setCell ⟨w.heap.size, 0, none⟩ (.int .i64 d.turn)).setCell ⟨w.heap.size, 1, none⟩ (.bool d.given)).setCell ⟨w.heap.size, 2, none⟩ (.slice a1 d.ls.length p1)) w.heap.size 26 [.int .i64 d.turn, .bool d.given, .slice a1 d.ls.length p1] := ((HZ.out.set 0 _).set 1 _).set 2 _
      replace HZ := hide z3
      clear z3
      clear HC
      replace HO := hide (((HO.out.far ⟨w.heap.size, 0, none⟩ (.int .i64 d.turn) (.inl (by simp; omega))).far ⟨w.heap.size, 1, none⟩ (.bool d.given) (.inl (by simp; omega))).far ⟨w.heap.size, 2, none⟩ (.slice a1 d.ls.length p1) (.inl (by simp; omega)))
      replace HBW := hide (((HBW.out.setCell (p := ⟨w.heap.size, 0, none⟩) (Nat.le_refl _) (.int .i64 d.turn)).setCell (p := ⟨w.heap.size, 1, none⟩) (Nat.le_refl _) (.bool d.given)).setCell (p := ⟨w.heap.size, 2, none⟩) (Nat.le_refl _) (.slice a1 d.ls.length p1))
      (try replace RA := hide (((RA.out.far ⟨w.heap.size, 0, none⟩ (.int .i64 d.turn) (fun e => hgb.2 e.symm)).far ⟨w.heap.size, 1, none⟩ (.bool d.given) (fun e => hgb.2 e.symm)).far ⟨w.heap.size, 2, none⟩ (.slice a1 d.ls.length p1) (fun e => hgb.2 e.symm)))
      refine hK.out _ _ ?_ (fun hS => ?_)
      · exact ((hS.far _ _ (by simp; omega)).far _ _ (by simp; omega)).far _ _ (by simp; omega)
      clear hK K
      generalize (((y7.setCell ⟨w.heap.size, 0, none⟩ (.int .i64 d.turn)).setCell ⟨w.heap.size, 1, none⟩ (.bool d.given)).setCell ⟨w.heap.size, 2, none⟩ (.slice a1 d.ls.length p1)) = y13 at *
      try simp only [Act.put, List.getElem_toArray, List.getElem_cons_succ, List.getElem_cons_zero, List.setIfInBounds_toArray, List.set_cons_zero, List.set_cons_succ]
      refine wpAnyH_take (i := 8) (v := ?_) rfl (by kernel_rfl) (by kernel_rfl) (by kernel_rfl) (fun _ _ _ h => h) (Or.inl ⟨by kernel_rfl, ?_⟩) hS ?_; rotate_left; focus (intro uu hu; clear hu; go_simp; try with_reducible rfl)
      try simp only [Act.put, List.getElem_toArray, List.getElem_cons_succ, List.getElem_cons_zero, List.setIfInBounds_toArray, List.set_cons_zero, List.set_cons_succ]
      refine wpAnyH_ready (rs := [2]) (by kernel_rfl) (by simp) ?_
      refine (AllReadyH.cons rfl (fun K hK => ?_) AllReadyH.nil)
      rw [if_pos (by kernel_rfl)]
      go_simp
      obtain ⟨y14, hX⟩ : ∃ u, y13.alloc (.cells #[.int .i64 0, .int .i64 1, .int .i64 50, .int .i64 100, .int .i64 101, .int .i64 7] 2) = u := ⟨_, rfl⟩
      have hbx : Below y13.heap.size y13 y14 := by rw [← hX]; exact (Below.refl _ _).alloc (Nat.le_refl _) _
      have RA : Hid (RowIs y14 y13.heap.size 2 [.int .i64 0, .int .i64 1, .int .i64 50, .int .i64 100, .int .i64 101, .int .i64 7]) := by show RowIs _ _ _ _; rw [← hX]; exact rowIs_new y13 _ _
      obtain ⟨ga, hga⟩ : ∃ ga, y13.heap.size = ga := ⟨_, rfl⟩
      have hgb : ga ≠ g ∧ ga ≠ w.heap.size := by have := hS.lt; omega
      (try replace HC := hide (HC.out.below hbx)); replace HZ := hide (HZ.out.new hbx); replace HO := hide (HO.out.new hbx); replace HBW := hide (bchain HBW.out hbx)
      rw [hX]
      have hS2 := hS.new hbx
      refine hK.out _ _ hS2 (fun hS => ?_)
      clear hK K hbx hX hS2
      rw [hga] at RA ⊢
      clear hga
      try simp only [Act.put, List.getElem_toArray, List.getElem_cons_succ, List.getElem_cons_zero, List.setIfInBounds_toArray, List.set_cons_zero, List.set_cons_succ]
      refine wpAnyH_take (i := 5) (v := ?_) rfl (by kernel_rfl) (by kernel_rfl) (by kernel_rfl) (fun _ _ _ h => h) (Or.inl ⟨by kernel_rfl, ?_⟩) hS ?_; rotate_left; focus (intro uu hu; clear hu; go_simp; try with_reducible rfl)
      try simp only [Act.put, List.getElem_toArray, List.getElem_cons_succ, List.getElem_cons_zero, List.setIfInBounds_toArray, List.set_cons_zero, List.set_cons_succ]
      refine wpAnyH_ready (rs := [6]) (by kernel_rfl) (by simp) ?_
      refine (AllReadyH.cons rfl (fun K hK => ?_) AllReadyH.nil)
      rw [if_pos (by kernel_rfl)]
      obtain ⟨z, hz⟩ : ∃ z : Int, y14.cell? ⟨ga, qn, none⟩ = some (.int .i64 z) := by
        have : qn = 0 ∨ qn = 1 ∨ qn = 2 ∨ qn = 3 ∨ qn = 4 ∨ qn = 5 := by omega
        rcases this with rfl | rfl | rfl | rfl | rfl | rfl <;> exact ⟨_, RA.out.cell rfl⟩
      have hza := RA.out.lt
      go_simp
      refine hK.out _ _ hS (fun hS => ?_)
      clear hK K
      clear hz hza
      try simp only [Act.put, List.getElem_toArray, List.getElem_cons_succ, List.getElem_cons_zero, List.setIfInBounds_toArray, List.set_cons_zero, List.set_cons_succ]
      refine wpAnyH_take (i := 9) (v := ?_) rfl (by kernel_rfl) (by kernel_rfl) (by kernel_rfl) (fun _ _ _ h => h) (Or.inl ⟨by kernel_rfl, ?_⟩) hS ?_; rotate_left; focus (intro uu hu; clear hu; go_simp; try with_reducible rfl)
      try simp only [Act.put, List.getElem_toArray, List.getElem_cons_succ, List.getElem_cons_zero, List.setIfInBounds_toArray, List.set_cons_zero, List.set_cons_succ]
      refine wpAnyH_done (by kernel_rfl) ?_ _
      have t0 := HZ.out.cell (j := 0) rfl
      have t1 := HZ.out.cell (j := 1) rfl
      have t2 := HZ.out.cell (j := 2) rfl
      have hlT := HZ.out.lt
      go_wp2_with fail
      refine bodyPost_ret (v := (.tuple #[.agg #[.int .i64 d.turn, .bool d.given, .slice a1 d.ls.length p1], .int .i64 zl, .int .i64 z])) (by simp [results, Try.results17, go_sem, *]) rfl ?_
      exact ⟨d, _, zl, z, rfl, (HO.out.top).wide (by omega) (Nat.le_refl _), hd4, HBW.out⟩
end Go.Proofs.Yteojibdnphaooaa
