/- What the laws of blocks draw: a table and a block. -/
import Derived.Test.YtejmnkabmajebaaQDrawBlk2
import Derived.Test.YtejmnkabmajebaaQSB
import Derived.Test.YtejmnkabmajebaaQG5
import Derived.Deep.Cut
import Derived.Deep.DeepCutAuto
import Derived.Deep.RegionHeld3
namespace Go.Proofs.Ytejmnkabmajebaa
open Go.RowKit
set_option maxRecDepth 100000
set_option linter.unusedSimpArgs false
set_option linter.unusedVariables false

theorem encodedD_size (room : Int) (L l : List Fd) : (encodedD room L l).1.size ≤ 10000 := by
  unfold encodedD
  split
  · split
    · rename_i hl
      have hl' : (∀ f ∈ l, okF f = true) ∧ l.length ≤ 20 := by simpa [okFs] using hl
      have := encL_size (room := room) l L
      simp only
      omega
    · simp [ByteArray.size]
  · simp [ByteArray.size]

set_option maxRecDepth 100000 in
set_option maxHeartbeats 4000000 in
theorem drawDecoded (a : Option Addr) (len cap : Nat) (w : World) (hl : len ≤ 4096) (hcode : CodeAt w a len w.heap.size) :
    Calls Try.prog 12 #[.slice a len cap] w fun e w' => ∃ (room : Int) (v : Value) (L : List Fd) (s : ByteArray), e = .returned (.tuple #[.agg #[.int .i64 room, v], .string s]) ∧ Reads w' v L.length 2 (fv L) ∧ (∀ f ∈ L, f.small) ∧ L.length ≤ 7 ∧ s.size ≤ 20000 ∧ Below w.heap.size w w' := by
  go_enter Try.func12, Try.ntmps12
  go_wp2_with fail
  obtain ⟨w0, hw0⟩ : ∃ w0, w.alloc (.cells #[.int .i64 0, .slice none 0 0] 26) = w0 := ⟨_, rfl⟩
  have hB0 : Below w.heap.size w w0 := by rw [← hw0]; exact (Below.refl _ _).alloc (Nat.le_refl _) _
  have HR0 : RowIs w0 w.heap.size 26 [.int .i64 0, .slice none 0 0] := by rw [← hw0]; exact rowIs_new w 26 [.int .i64 0, .slice none 0 0]
  have hs0 : w0.heap.size = w.heap.size + 1 := by rw [← hw0]; simp
  rw [hw0]
  clear hw0
  refine (new1 a len cap _ hl (hcode.behind hB0)).mono ?_; rintro x w1 ⟨g, rfl, hg, hc1, hb1⟩
  replace HR0 := HR0.new hb1
  have HBW := bchain hB0 hb1
  have hg1 := hc1.lt
  have hs1 := hb1.size
  clear hb1 hB0 hcode
  go_wp2_with fail
  refine (drawAny g _ _ hc1).mono ?_; rintro x w2 ⟨room, v, L, rfl, hown, hsm, hLL, hc2, hm2⟩
  obtain ⟨aa, pp, rfl, _⟩ := owns_form hown
  replace HR0 := HR0.moves hm2 (by omega)
  replace HBW := HBW.trans (hm2.below (by omega) (by omega))
  have hs2 := hm2.size
  have HSM := hide hsm
  clear hm2 hc1 hsm
  go_upto_region 3 with fail
  have hA2 : Below w2.heap.size w2 (w2.alloc (.cells #[.int .i64 room, .slice aa L.length pp] 26)) := (Below.refl _ _).alloc (Nat.le_refl _) _
  have HT := rowIs_new w2 26 [.int .i64 room, .slice aa L.length pp]
  replace HR0 := HR0.new hA2
  replace HBW := bchain HBW hA2
  replace hc2 := hc2.below hA2
  replace hown := owns_new hown hA2
  have hs3 : w2.heap.size < (w2.alloc (.cells #[.int .i64 room, .slice aa L.length pp] 26)).heap.size := HT.lt
  clear hA2
  change RowIs (w2.alloc (.cells #[.int .i64 room, .slice aa L.length pp] 26)) _ _ _ at HT
  generalize w2.alloc (.cells #[.int .i64 room, .slice aa L.length pp] 26) = w3 at *
  have HTT := hide HT; have HCC := hide hc2; have HOO := hide hown; have HRR := hide HR0; have HBB := hide HBW
  clear HT hc2 hown HR0 HBW
  have HF : Hid (∀ f ∈ L, f.fine) := fun f hf => (HSM.out f hf).fine
  go_cut [6] (fun x wx => ∃ t : ByteArray, x = .string t ∧ t.size ≤ 10000 ∧ Cur wx g w0.heap.size ∧ Moves g w3 wx)
  case first =>
    obtain ⟨S, HMK, HLB⟩ : ∃ S : World → Prop, Hid (∀ u, Cur u g w0.heap.size → Moves g w3 u → S u) ∧ Hid (∀ u, S u → Cur u g w0.heap.size ∧ Moves g w3 u) := ⟨fun u => Cur u g w0.heap.size ∧ Moves g w3 u, hide (fun u h k => ⟨h, k⟩), hide (fun u h => h)⟩
    have hS : S (World.drew w3) := HMK.out _ HCC.out.drew (Moves.refl g w3).drew
    go_wp2_with fail
    refine wp_region_held (S := S) (by kernel_rfl) ?_
    change wpAnyH _ _ _ _ _ _ _ _ (World.drew _)
    refine wpAnyH_take (i := 1) (v := ?_) rfl (by kernel_rfl) (by kernel_rfl) (by kernel_rfl) (fun _ _ _ h => h) (Or.inl ⟨by kernel_rfl, ?_⟩) hS ?_; rotate_left; focus (intro w hw; clear hw; go_simp; try with_reducible rfl)
    refine wpAnyH_take (i := 0) (v := (.agg #[.int .i64 room, .slice aa L.length pp])) rfl (by kernel_rfl) (by kernel_rfl) (by kernel_rfl) (fun _ _ _ h => h) (Or.inl ⟨by kernel_rfl, ?ld⟩) hS ?_; case ld => (intro w hw; have l0 := (RowIs.cell (j := 0) ((HTT.out.moves (HLB.out _ hw).2 (by omega))) rfl); have l1 := (RowIs.cell (j := 1) ((HTT.out.moves (HLB.out _ hw).2 (by omega))) rfl); clear hw; go_simp)
    refine wpAnyH_ready (rs := [2, 8]) (by kernel_rfl) (by simp) ?_; refine AllReadyH.cons rfl (fun K hK => ?_) (AllReadyH.cons rfl (fun K hK => ?_) AllReadyH.nil) <;> (rw [if_pos (by kernel_rfl)]; go_simp)
    · skip
      refine (drawList g _ _ (HLB.out _ hS).1).mono ?_; rintro e ua ⟨lv, l, rfl, hol, hsml, h21, hcua, hmua⟩
      obtain ⟨la, lp, rfl, _⟩ := owns_form hol
      have HOL := hide (reads_of_owns hol)
      have HFL : Hid (∀ f ∈ l, f.fine) := fun f hf => (hsml f hf).fine
      have hSa := HMK.out ua hcua ((HLB.out _ hS).2.trans hmua)
      clear hol hsml hcua hmua
      refine hK.out _ _ hSa (fun hS => ?_)
      clear hK K hSa
      refine wpAnyH_ready (rs := [3, 8]) (by kernel_rfl) (by simp) ?_; refine AllReadyH.cons rfl (fun K hK => ?_) (AllReadyH.cons rfl (fun K hK => ?_) AllReadyH.nil) <;> (rw [if_pos (by kernel_rfl)]; go_simp)
      · skip
        have hdz := encodedD_size room L l
        refine (specEncoded L l room _ _ _ (reads_of_owns (owns_moves HOO.out (HLB.out _ hS).2 (by omega))) HF.out HOL.out HFL.out).mono ?_
        obtain ⟨⟨ds, ⟨dr, dL⟩, db⟩, hD⟩ : ∃ D, encodedD room L l = D := ⟨_, rfl⟩
        rw [hD] at hdz ⊢
        dsimp only at hdz ⊢
        rintro e ub ⟨dv, rfl, hod, hbub⟩
        obtain ⟨da, dp, rfl, _⟩ := owns_form hod
        clear hod
        have hSa := HMK.out ub ((HLB.out _ hS).1.below hbub) ((HLB.out _ hS).2.trans (Moves.of_below hbub))
        clear hbub
        refine hK.out _ _ hSa (fun hS => ?_)
        clear hK K hSa
        refine wpAnyH_take (i := 4) (v := ?_) rfl (by kernel_rfl) (by kernel_rfl) (by kernel_rfl) (fun _ _ _ h => h) (Or.inl ⟨by kernel_rfl, ?_⟩) hS ?_; rotate_left; focus (intro w hw; clear hw; go_simp; try with_reducible rfl)
        simp only [Act.put, List.getElem_toArray, List.getElem_cons_succ, List.getElem_cons_zero, List.setIfInBounds_toArray, List.set_cons_zero, List.set_cons_succ]
        refine wpAnyH_take (i := 5) (v := ?_) rfl (by kernel_rfl) (by kernel_rfl) (by kernel_rfl) (fun _ _ _ h => h) (Or.inl ⟨by kernel_rfl, ?_⟩) hS ?_; rotate_left; focus (intro w hw; clear hw; go_simp; try with_reducible rfl)
        simp only [Act.put, List.getElem_toArray, List.getElem_cons_succ, List.getElem_cons_zero, List.setIfInBounds_toArray, List.set_cons_zero, List.set_cons_succ]
        refine wpAnyH_take (i := 6) (v := ?_) rfl (by kernel_rfl) (by kernel_rfl) (by kernel_rfl) (fun _ _ _ h => h) (Or.inl ⟨by kernel_rfl, ?_⟩) hS ?_; rotate_left; focus (intro w hw; clear hw; go_simp; try with_reducible rfl)
        simp only [Act.put, List.getElem_toArray, List.getElem_cons_succ, List.getElem_cons_zero, List.setIfInBounds_toArray, List.set_cons_zero, List.set_cons_succ]
        refine wpAnyH_take (i := 7) (v := ?_) rfl (by kernel_rfl) (by kernel_rfl) (by kernel_rfl) (fun _ _ _ h => h) (Or.inl ⟨by kernel_rfl, ?_⟩) hS ?_; rotate_left; focus (intro w hw; clear hw; go_simp; try with_reducible rfl)
        simp only [Act.put, List.getElem_toArray, List.getElem_cons_succ, List.getElem_cons_zero, List.setIfInBounds_toArray, List.set_cons_zero, List.set_cons_succ]
        refine wpAnyH_ready (rs := [8]) (by kernel_rfl) (by simp) ?_; refine AllReadyH.cons rfl (fun K hK => ?_) AllReadyH.nil; rw [if_pos (by kernel_rfl)]; go_simp
        have hSa := HMK.out (ub.alloc (.cells #[.int .i64 0, .slice none 0 0] 26)) ((HLB.out _ hS).1.alloc _) ((HLB.out _ hS).2.alloc _)
        have hez : RowIs (ub.alloc (.cells #[.int .i64 0, .slice none 0 0] 26)) ub.heap.size 26 [.int .i64 0, .slice none 0 0] := (rowIs_new ub 26 [.int .i64 0, .slice none 0 0])
        have hzb : w3.heap.size ≤ ub.heap.size := (HLB.out _ hS).2.size
        have hzg : g < ub.heap.size := by omega
        refine hK.out _ _ hSa (fun hS => ?_)
        clear hK K hSa
        generalize ub.alloc (.cells #[.int .i64 0, .slice none 0 0] 26) = wz at *
        refine wpAnyH_take (i := 9) (v := ?_) rfl (by kernel_rfl) (by kernel_rfl) (by kernel_rfl) (fun _ _ _ h => h) (Or.inl ⟨by kernel_rfl, ?_⟩) hS ?_; rotate_left; focus (intro w hw; clear hw; go_simp; try with_reducible rfl)
        simp only [Act.put, List.getElem_toArray, List.getElem_cons_succ, List.getElem_cons_zero, List.setIfInBounds_toArray, List.set_cons_zero, List.set_cons_succ]
        have e0 := hez.cell (j := 0) rfl
        have e1 := hez.cell (j := 1) rfl
        have e2 := hez.frozen 0
        have e3 := hez.frozen 1
        refine wpAnyH_ready (rs := [10]) (by kernel_rfl) (by simp) ?_; refine AllReadyH.cons rfl (fun K hK => ?_) AllReadyH.nil; rw [if_pos (by kernel_rfl)]; go_simp
        have hcs := ((HLB.out _ hS).1.set ⟨ub.heap.size, 0, none⟩ (.int .i64 dr) (by show g < ub.heap.size; omega)).set ⟨ub.heap.size, 1, none⟩ (.slice da dL.length dp) (by show g < ub.heap.size; omega)
        have hms := ((HLB.out _ hS).2.setNew ⟨ub.heap.size, 0, none⟩ (by show w3.heap.size ≤ ub.heap.size; omega) (.int .i64 dr)).setNew ⟨ub.heap.size, 1, none⟩ (by show w3.heap.size ≤ ub.heap.size; omega) (.slice da dL.length dp)
        have HCS := hide hcs; have HMS := hide hms
        refine hK.out _ _ (HMK.out _ hcs hms) (fun hS => ?_)
        clear hK K hcs hms
        refine wpAnyH_take (i := 11) (v := ?_) rfl (by kernel_rfl) (by kernel_rfl) (by kernel_rfl) (fun _ _ _ h => h) (Or.inl ⟨by kernel_rfl, ?_⟩) hS ?_; rotate_left; focus (intro w hw; clear hw; go_simp; try with_reducible rfl)
        simp only [Act.put, List.getElem_toArray, List.getElem_cons_succ, List.getElem_cons_zero, List.setIfInBounds_toArray, List.set_cons_zero, List.set_cons_succ]
        refine wpAnyH_done (by kernel_rfl) ?_ _
        go_wp2_with fail
        go_meet
        exact ⟨ds, rfl, hdz, HCS.out, HMS.out⟩
      · skip
        have hSa := HMK.out (ua.alloc (.cells #[.int .i64 0, .slice none 0 0] 26)) ((HLB.out _ hS).1.alloc _) ((HLB.out _ hS).2.alloc _)
        have hez : RowIs (ua.alloc (.cells #[.int .i64 0, .slice none 0 0] 26)) ua.heap.size 26 [.int .i64 0, .slice none 0 0] := (rowIs_new ua 26 [.int .i64 0, .slice none 0 0])
        have hzb : w3.heap.size ≤ ua.heap.size := (HLB.out _ hS).2.size
        have hzg : g < ua.heap.size := by omega
        refine hK.out _ _ hSa (fun hS => ?_)
        clear hK K hSa
        have hbz : Below ua.heap.size ua (ua.alloc (.cells #[.int .i64 0, .slice none 0 0] 26)) := (Below.refl _ _).alloc (Nat.le_refl _) _
        generalize ua.alloc (.cells #[.int .i64 0, .slice none 0 0] 26) = wz at *
        replace HOL := hide (HOL.out.new hbz)
        refine wpAnyH_ready (rs := [3]) (by kernel_rfl) (by simp) ?_; refine AllReadyH.cons rfl (fun K hK => ?_) AllReadyH.nil; rw [if_pos (by kernel_rfl)]; go_simp
        have hdz := encodedD_size room L l
        refine (specEncoded L l room _ _ _ (reads_of_owns (owns_moves HOO.out (HLB.out _ hS).2 (by omega))) HF.out HOL.out HFL.out).mono ?_
        obtain ⟨⟨ds, ⟨dr, dL⟩, db⟩, hD⟩ : ∃ D, encodedD room L l = D := ⟨_, rfl⟩
        rw [hD] at hdz ⊢
        dsimp only at hdz ⊢
        rintro e ub ⟨dv, rfl, hod, hbub⟩
        obtain ⟨da, dp, rfl, _⟩ := owns_form hod
        clear hod
        have hSa := HMK.out ub ((HLB.out _ hS).1.below hbub) ((HLB.out _ hS).2.trans (Moves.of_below hbub))
        replace hez := hez.new hbub
        clear hbub
        refine hK.out _ _ hSa (fun hS => ?_)
        clear hK K hSa
        refine wpAnyH_take (i := 4) (v := ?_) rfl (by kernel_rfl) (by kernel_rfl) (by kernel_rfl) (fun _ _ _ h => h) (Or.inl ⟨by kernel_rfl, ?_⟩) hS ?_; rotate_left; focus (intro w hw; clear hw; go_simp; try with_reducible rfl)
        simp only [Act.put, List.getElem_toArray, List.getElem_cons_succ, List.getElem_cons_zero, List.setIfInBounds_toArray, List.set_cons_zero, List.set_cons_succ]
        refine wpAnyH_take (i := 5) (v := ?_) rfl (by kernel_rfl) (by kernel_rfl) (by kernel_rfl) (fun _ _ _ h => h) (Or.inl ⟨by kernel_rfl, ?_⟩) hS ?_; rotate_left; focus (intro w hw; clear hw; go_simp; try with_reducible rfl)
        simp only [Act.put, List.getElem_toArray, List.getElem_cons_succ, List.getElem_cons_zero, List.setIfInBounds_toArray, List.set_cons_zero, List.set_cons_succ]
        refine wpAnyH_take (i := 6) (v := ?_) rfl (by kernel_rfl) (by kernel_rfl) (by kernel_rfl) (fun _ _ _ h => h) (Or.inl ⟨by kernel_rfl, ?_⟩) hS ?_; rotate_left; focus (intro w hw; clear hw; go_simp; try with_reducible rfl)
        simp only [Act.put, List.getElem_toArray, List.getElem_cons_succ, List.getElem_cons_zero, List.setIfInBounds_toArray, List.set_cons_zero, List.set_cons_succ]
        refine wpAnyH_take (i := 7) (v := ?_) rfl (by kernel_rfl) (by kernel_rfl) (by kernel_rfl) (fun _ _ _ h => h) (Or.inl ⟨by kernel_rfl, ?_⟩) hS ?_; rotate_left; focus (intro w hw; clear hw; go_simp; try with_reducible rfl)
        simp only [Act.put, List.getElem_toArray, List.getElem_cons_succ, List.getElem_cons_zero, List.setIfInBounds_toArray, List.set_cons_zero, List.set_cons_succ]
        refine wpAnyH_take (i := 9) (v := ?_) rfl (by kernel_rfl) (by kernel_rfl) (by kernel_rfl) (fun _ _ _ h => h) (Or.inl ⟨by kernel_rfl, ?_⟩) hS ?_; rotate_left; focus (intro w hw; clear hw; go_simp; try with_reducible rfl)
        simp only [Act.put, List.getElem_toArray, List.getElem_cons_succ, List.getElem_cons_zero, List.setIfInBounds_toArray, List.set_cons_zero, List.set_cons_succ]
        have e0 := hez.cell (j := 0) rfl
        have e1 := hez.cell (j := 1) rfl
        have e2 := hez.frozen 0
        have e3 := hez.frozen 1
        refine wpAnyH_ready (rs := [10]) (by kernel_rfl) (by simp) ?_; refine AllReadyH.cons rfl (fun K hK => ?_) AllReadyH.nil; rw [if_pos (by kernel_rfl)]; go_simp
        have hcs := ((HLB.out _ hS).1.set ⟨ua.heap.size, 0, none⟩ (.int .i64 dr) (by show g < ua.heap.size; omega)).set ⟨ua.heap.size, 1, none⟩ (.slice da dL.length dp) (by show g < ua.heap.size; omega)
        have hms := ((HLB.out _ hS).2.setNew ⟨ua.heap.size, 0, none⟩ (by show w3.heap.size ≤ ua.heap.size; omega) (.int .i64 dr)).setNew ⟨ua.heap.size, 1, none⟩ (by show w3.heap.size ≤ ua.heap.size; omega) (.slice da dL.length dp)
        have HCS := hide hcs; have HMS := hide hms
        refine hK.out _ _ (HMK.out _ hcs hms) (fun hS => ?_)
        clear hK K hcs hms
        refine wpAnyH_take (i := 11) (v := ?_) rfl (by kernel_rfl) (by kernel_rfl) (by kernel_rfl) (fun _ _ _ h => h) (Or.inl ⟨by kernel_rfl, ?_⟩) hS ?_; rotate_left; focus (intro w hw; clear hw; go_simp; try with_reducible rfl)
        simp only [Act.put, List.getElem_toArray, List.getElem_cons_succ, List.getElem_cons_zero, List.setIfInBounds_toArray, List.set_cons_zero, List.set_cons_succ]
        refine wpAnyH_done (by kernel_rfl) ?_ _
        go_wp2_with fail
        go_meet
        exact ⟨ds, rfl, hdz, HCS.out, HMS.out⟩
    · skip
      have hSa := HMK.out (World.drew (w3.alloc (.cells #[.int .i64 0, .slice none 0 0] 26))) (HCC.out.alloc _ |>.drew) ((Moves.refl g w3).alloc _ |>.drew)
      have hez : RowIs (World.drew (w3.alloc (.cells #[.int .i64 0, .slice none 0 0] 26))) w3.heap.size 26 [.int .i64 0, .slice none 0 0] := (rowIs_new w3 26 [.int .i64 0, .slice none 0 0]).kept rfl
      have hzb : w3.heap.size ≤ w3.heap.size := Nat.le_refl _
      have hzg : g < w3.heap.size := by omega
      refine hK.out _ _ hSa (fun hS => ?_)
      clear hK K hSa
      generalize World.drew (w3.alloc (.cells #[.int .i64 0, .slice none 0 0] 26)) = wz at *
      refine wpAnyH_ready (rs := [2]) (by kernel_rfl) (by simp) ?_; refine AllReadyH.cons rfl (fun K hK => ?_) AllReadyH.nil; rw [if_pos (by kernel_rfl)]; go_simp
      refine (drawList g _ _ (HLB.out _ hS).1).mono ?_; rintro e ua ⟨lv, l, rfl, hol, hsml, h21, hcua, hmua⟩
      obtain ⟨la, lp, rfl, _⟩ := owns_form hol
      have HOL := hide (reads_of_owns hol)
      have HFL : Hid (∀ f ∈ l, f.fine) := fun f hf => (hsml f hf).fine
      have hSa := HMK.out ua hcua ((HLB.out _ hS).2.trans hmua)
      replace hez := hez.moves hmua (by omega)
      clear hmua hcua hol hsml
      refine hK.out _ _ hSa (fun hS => ?_)
      clear hK K hSa
      refine wpAnyH_ready (rs := [3]) (by kernel_rfl) (by simp) ?_; refine AllReadyH.cons rfl (fun K hK => ?_) AllReadyH.nil; rw [if_pos (by kernel_rfl)]; go_simp
      have hdz := encodedD_size room L l
      refine (specEncoded L l room _ _ _ (reads_of_owns (owns_moves HOO.out (HLB.out _ hS).2 (by omega))) HF.out HOL.out HFL.out).mono ?_
      obtain ⟨⟨ds, ⟨dr, dL⟩, db⟩, hD⟩ : ∃ D, encodedD room L l = D := ⟨_, rfl⟩
      rw [hD] at hdz ⊢
      dsimp only at hdz ⊢
      rintro e ub ⟨dv, rfl, hod, hbub⟩
      obtain ⟨da, dp, rfl, _⟩ := owns_form hod
      clear hod
      have hSa := HMK.out ub ((HLB.out _ hS).1.below hbub) ((HLB.out _ hS).2.trans (Moves.of_below hbub))
      replace hez := hez.new hbub
      clear hbub
      refine hK.out _ _ hSa (fun hS => ?_)
      clear hK K hSa
      refine wpAnyH_take (i := 4) (v := ?_) rfl (by kernel_rfl) (by kernel_rfl) (by kernel_rfl) (fun _ _ _ h => h) (Or.inl ⟨by kernel_rfl, ?_⟩) hS ?_; rotate_left; focus (intro w hw; clear hw; go_simp; try with_reducible rfl)
      simp only [Act.put, List.getElem_toArray, List.getElem_cons_succ, List.getElem_cons_zero, List.setIfInBounds_toArray, List.set_cons_zero, List.set_cons_succ]
      refine wpAnyH_take (i := 5) (v := ?_) rfl (by kernel_rfl) (by kernel_rfl) (by kernel_rfl) (fun _ _ _ h => h) (Or.inl ⟨by kernel_rfl, ?_⟩) hS ?_; rotate_left; focus (intro w hw; clear hw; go_simp; try with_reducible rfl)
      simp only [Act.put, List.getElem_toArray, List.getElem_cons_succ, List.getElem_cons_zero, List.setIfInBounds_toArray, List.set_cons_zero, List.set_cons_succ]
      refine wpAnyH_take (i := 6) (v := ?_) rfl (by kernel_rfl) (by kernel_rfl) (by kernel_rfl) (fun _ _ _ h => h) (Or.inl ⟨by kernel_rfl, ?_⟩) hS ?_; rotate_left; focus (intro w hw; clear hw; go_simp; try with_reducible rfl)
      simp only [Act.put, List.getElem_toArray, List.getElem_cons_succ, List.getElem_cons_zero, List.setIfInBounds_toArray, List.set_cons_zero, List.set_cons_succ]
      refine wpAnyH_take (i := 7) (v := ?_) rfl (by kernel_rfl) (by kernel_rfl) (by kernel_rfl) (fun _ _ _ h => h) (Or.inl ⟨by kernel_rfl, ?_⟩) hS ?_; rotate_left; focus (intro w hw; clear hw; go_simp; try with_reducible rfl)
      simp only [Act.put, List.getElem_toArray, List.getElem_cons_succ, List.getElem_cons_zero, List.setIfInBounds_toArray, List.set_cons_zero, List.set_cons_succ]
      refine wpAnyH_take (i := 9) (v := ?_) rfl (by kernel_rfl) (by kernel_rfl) (by kernel_rfl) (fun _ _ _ h => h) (Or.inl ⟨by kernel_rfl, ?_⟩) hS ?_; rotate_left; focus (intro w hw; clear hw; go_simp; try with_reducible rfl)
      simp only [Act.put, List.getElem_toArray, List.getElem_cons_succ, List.getElem_cons_zero, List.setIfInBounds_toArray, List.set_cons_zero, List.set_cons_succ]
      have e0 := hez.cell (j := 0) rfl
      have e1 := hez.cell (j := 1) rfl
      have e2 := hez.frozen 0
      have e3 := hez.frozen 1
      refine wpAnyH_ready (rs := [10]) (by kernel_rfl) (by simp) ?_; refine AllReadyH.cons rfl (fun K hK => ?_) AllReadyH.nil; rw [if_pos (by kernel_rfl)]; go_simp
      have hcs := ((HLB.out _ hS).1.set ⟨w3.heap.size, 0, none⟩ (.int .i64 dr) (by show g < w3.heap.size; omega)).set ⟨w3.heap.size, 1, none⟩ (.slice da dL.length dp) (by show g < w3.heap.size; omega)
      have hms := ((HLB.out _ hS).2.setNew ⟨w3.heap.size, 0, none⟩ (by show w3.heap.size ≤ w3.heap.size; omega) (.int .i64 dr)).setNew ⟨w3.heap.size, 1, none⟩ (by show w3.heap.size ≤ w3.heap.size; omega) (.slice da dL.length dp)
      have HCS := hide hcs; have HMS := hide hms
      refine hK.out _ _ (HMK.out _ hcs hms) (fun hS => ?_)
      clear hK K hcs hms
      refine wpAnyH_take (i := 11) (v := ?_) rfl (by kernel_rfl) (by kernel_rfl) (by kernel_rfl) (fun _ _ _ h => h) (Or.inl ⟨by kernel_rfl, ?_⟩) hS ?_; rotate_left; focus (intro w hw; clear hw; go_simp; try with_reducible rfl)
      simp only [Act.put, List.getElem_toArray, List.getElem_cons_succ, List.getElem_cons_zero, List.setIfInBounds_toArray, List.set_cons_zero, List.set_cons_succ]
      refine wpAnyH_done (by kernel_rfl) ?_ _
      go_wp2_with fail
      go_meet
      exact ⟨ds, rfl, hdz, HCS.out, HMS.out⟩
  case rest =>
    obtain ⟨t, rfl, ht, hcc, hmm⟩ := hcut
    obtain ⟨w4, rfl⟩ : ∃ v : World, v = wc := ⟨_, rfl⟩
    have hs4 := hmm.size
    go_wp2_with fail
    refine (once1 g _ 3 _ hcc (by omega)).mono ?_; rintro e w5 ⟨bv, rfl, hc5, hm5⟩
    have hmm5 := hmm.trans hm5
    clear hmm hm5 hcc
    cases bv
    · have HTW := HTT.out.moves hmm5 (by omega)
      have HRW := HRR.out.moves hmm5 (by omega)
      have hoW := owns_moves HOO.out hmm5 (by omega)
      have hbW := HBB.out.trans (hmm5.below (by omega) (by omega))
      have t0 := HTW.cell (j := 0) rfl
      have t1 := HTW.cell (j := 1) rfl
      have r0 := HRW.cell (j := 0) rfl
      have r1 := HRW.cell (j := 1) rfl
      have p0 := HRW.frozen 0
      have p1 := HRW.frozen 1
      have hsW := hmm5.size
      have HC := hide (reads_of_owns (owns_far (w1.heap.size + 1) (owns_far (w1.heap.size + 1) hoW (fun k hk => by have := (hoW.lt k hk).1; omega) ⟨w.heap.size, 0, none⟩ (.int .i64 room) (by show w.heap.size < w1.heap.size + 1; omega)) (fun k hk => by have := (hoW.lt k hk).1; omega) ⟨w.heap.size, 1, none⟩ (.slice aa L.length pp) (by show w.heap.size < w1.heap.size + 1; omega)))
      have HBF := hide ((hbW.setCell (p := ⟨w.heap.size, 0, none⟩) (Nat.le_refl _) (.int .i64 room)).setCell (p := ⟨w.heap.size, 1, none⟩) (Nat.le_refl _) (.slice aa L.length pp))
      have hnn : ¬ w.heap.size = w2.heap.size := by omega
      clear HTW HRW hoW hbW
      go_wp2_with fail
      refine bodyPost_ret (v := (.tuple #[.agg #[.int .i64 room, .slice aa L.length pp], .string t])) (by simp [results, Try.results12, go_sem, *]) rfl ?_
      exact ⟨room, _, L, t, rfl, HC.out, HSM.out, hLL, by omega, HBF.out⟩
    · go_wp2_with fail
      refine (bend1 g _ t ⟨#[128, 129, 64, 65, 255]⟩ _ hc5 (by omega) (by simp [ByteArray.size]) (by simp [ByteArray.size])).mono ?_; rintro e w6 ⟨t2, ht2, rfl, hc6, hm6⟩
      have hmm6 := hmm5.trans hm6
      clear hmm5 hm6 hc5
      have HTW := HTT.out.moves hmm6 (by omega)
      have HRW := HRR.out.moves hmm6 (by omega)
      have hoW := owns_moves HOO.out hmm6 (by omega)
      have hbW := HBB.out.trans (hmm6.below (by omega) (by omega))
      have t0 := HTW.cell (j := 0) rfl
      have t1 := HTW.cell (j := 1) rfl
      have r0 := HRW.cell (j := 0) rfl
      have r1 := HRW.cell (j := 1) rfl
      have p0 := HRW.frozen 0
      have p1 := HRW.frozen 1
      have hsW := hmm6.size
      have HC := hide (reads_of_owns (owns_far (w1.heap.size + 1) (owns_far (w1.heap.size + 1) hoW (fun k hk => by have := (hoW.lt k hk).1; omega) ⟨w.heap.size, 0, none⟩ (.int .i64 room) (by show w.heap.size < w1.heap.size + 1; omega)) (fun k hk => by have := (hoW.lt k hk).1; omega) ⟨w.heap.size, 1, none⟩ (.slice aa L.length pp) (by show w.heap.size < w1.heap.size + 1; omega)))
      have HBF := hide ((hbW.setCell (p := ⟨w.heap.size, 0, none⟩) (Nat.le_refl _) (.int .i64 room)).setCell (p := ⟨w.heap.size, 1, none⟩) (Nat.le_refl _) (.slice aa L.length pp))
      have hnn : ¬ w.heap.size = w2.heap.size := by omega
      clear HTW HRW hoW hbW
      go_wp2_with fail
      refine bodyPost_ret (v := (.tuple #[.agg #[.int .i64 room, .slice aa L.length pp], .string t2])) (by simp [results, Try.results12, go_sem, *]) rfl ?_
      exact ⟨room, _, L, t2, rfl, HC.out, HSM.out, hLL, by omega, HBF.out⟩
end Go.Proofs.Ytejmnkabmajebaa
