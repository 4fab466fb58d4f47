/- Chapter 7: the model's Frames. -/
import Derived.Test.YtelcnojmfkoboaaDoorFrRead0
import Derived.Test.YtelcnojmfkoboaaDoorFrameRows
import Derived.Test.YtelcnojmfkoboaaDoorAppRows
import Derived.Test.YtelcnojmfkoboaaDoorRowIs
import Derived.Deep.DeepCutAuto
import Derived.Deep.RegionWith
import Derived.Deep.RegionHeld3

namespace Go.Proofs.YtelcnojmfkoboaaDoor
open Go.RowKit
set_option maxRecDepth 100000
set_option linter.unusedSimpArgs false
set_option linter.unusedVariables false
set_option maxHeartbeats 4000000 in
theorem specFrames (s : ByteArray) (w : World) (hs : s.size ≤ 2097152) :
    Calls Tryd.prog 12 #[.string s] w fun e w' => ∃ v : Value, e = .returned (.tuple #[v, .string (frmV s).2.1, .bool (frmV s).2.2]) ∧ w'.ownsRow w.heap.size 29 4 v (frmV s).1.length (fr (frmV s).1) ∧ Below w.heap.size w w' := by
  obtain ⟨⟨FL, rest, ok⟩, hF⟩ : ∃ F, frmV s = F := ⟨_, rfl⟩
  rw [hF]
  dsimp only
  have HF := hide hF
  clear hF
  go_enter Tryd.func12, Tryd.ntmps12
  go_wp2_with fail
  go_loopw [0, 5] (fun t v wr => ∃ (T : ByteArray) (L : List Fr), t = .string T ∧ L.length + T.size ≤ 2097152 ∧ (FL, rest, ok) = (L ++ (frmV T).1, (frmV T).2) ∧ wr.ownsRow w.heap.size 29 4 v L.length (fr L) ∧ Below w.heap.size w wr) (fun t _ _ => match t with | .string T => T.size | _ => 0)
  case atStart => exact ⟨s, [], rfl, by simpa using hs, by rw [HF.out]; simp, owns_empty w, (Below.refl _ _).alloc (Nat.le_refl _) _⟩
  case round =>
    obtain ⟨s, L, rfl, hLk, hFk, hown, hb⟩ := hrel
    obtain ⟨ad, cap, rfl, _⟩ := owns_form hown
    have hsb := hb.size
    by_cases h7 : s.size < 7
    · have e : frmV s = ([], s, true) := by rw [frm_step, if_pos (by unfold stp; rw [if_pos h7])]
      rw [e] at hFk
      simp only [Prod.mk.injEq, List.append_nil] at hFk
      obtain ⟨rfl, rfl, rfl⟩ := hFk
      go_wp2_with fail
      go_ret3
      exact ⟨_, rfl, hown, hb⟩
    have h7' : 7 ≤ s.size := by omega
    obtain ⟨k, hk⟩ : ∃ k : Int, (s[2].toNat : Int) = k := ⟨_, rfl⟩
    obtain ⟨fl, hfl⟩ : ∃ k : Int, (s[3].toNat : Int) = k := ⟨_, rfl⟩
    obtain ⟨st, hst⟩ : ∃ k : Int, numV (s.extract 4 7) = k := ⟨_, rfl⟩
    obtain ⟨N, hN⟩ : ∃ k : Int, numV (s.extract 0 2) = k := ⟨_, rfl⟩
    have z2 : (s.extract 0 2).size = 2 := ba_extract_size (by omega) (by omega)
    have z3 : (s.extract 4 7).size = 3 := ba_extract_size (by omega) (by omega)
    have N0 : 0 ≤ N ∧ N ≤ 65535 := by have := numV_range (s := s.extract 0 2) (by omega); rw [hN, z2] at this; omega
    have k0 := byte_range s 2 (by omega)
    have f0 := byte_range s 3 (by omega)
    have eN : hdN s = N := hN
    have eF : ∀ b, hdF s b = ⟨k, fl, st, b⟩ := fun b => by unfold hdF; rw [fst_ext (by omega), fst_ext (by omega), hk, hfl, hst]
    have i2 := fun w => specNumber (s.extract 0 2) w (by unfold maxLen; omega)
    have i3 := fun w => specNumber (s.extract 4 7) w (by unfold maxLen; omega)
    rw [hN] at i2
    rw [hst] at i3
    have hlt2 : 2 < s.size := by omega
    have hlt3 : 3 < s.size := by omega
    have hlt2i : (2 : Int) < s.size := by omega
    have hlt3i : (3 : Int) < s.size := by omega
    have hlt7i : (7 : Int) ≤ s.size := by omega
    obtain ⟨N0, N1⟩ := N0
    have HHE : stp s = if hdOk k fl st N = false then (1, noFr, 0) else if (s.size : Int) < 7 + N then (0, noFr, 0) else if okFr ⟨k, fl, st, s.extract 7 (7 + N.toNat)⟩ = false then (1, noFr, 0) else (2, ⟨k, fl, st, s.extract 7 (7 + N.toNat)⟩, 7 + N.toNat) := by
      unfold stp; rw [if_neg h7, eN, eF, eF]
    have HFS := hide HHE
    have k1 : 0 ≤ k ∧ k ≤ 255 := by omega
    have fl1 : 0 ≤ fl ∧ fl ≤ 255 := by omega
    have wk := wraps40 k (by omega) (by omega)
    have wfl := wraps40 fl (by omega) (by omega)
    have HFK := hide hFk
    have HO := hide hown
    have HB := hide hb
    clear HHE eF eN z2 z3 hFk hown hb k1 fl1
    go_wp2_with fail
    refine (i2 _).mono ?_; rintro e w1 ⟨rfl, hsame⟩; obtain rfl := hsame.symm
    go_wp2_with fail
    go_cut [7] (fun x wc => ∃ q, x = .pointer (some ⟨q, 0, none⟩) ∧ wr.heap.size ≤ q ∧ RowIs wc q 29 [.int .i64 k, .int .i64 fl, .int .i64 st, .string ⟨#[]⟩] ∧ Below wr.heap.size wr wc)
    case first =>
      refine wp_region_held_drew (S := fun u => Below wr.heap.size wr u) (by kernel_rfl) ((Below.refl _ _).drew) (fun hS => ?_)
      generalize World.drew wr = V1 at hS ⊢
      have hVle := hS.size
      refine wpAnyH_take (i := 0) (v := ?_) rfl (by kernel_rfl) (by kernel_rfl) (by kernel_rfl) (fun _ _ _ h => h) (Or.inl ⟨by kernel_rfl, ?_⟩) hS ?_; rotate_left; focus (intro uu hu; clear hu; go_simp; try with_reducible rfl)
      try simp only [Act.put, List.getElem_toArray, List.getElem_cons_succ, List.getElem_cons_zero, List.setIfInBounds_toArray, List.set_cons_zero, List.set_cons_succ]
      refine wpAnyH_take (i := 1) (v := ?_) rfl (by kernel_rfl) (by kernel_rfl) (by kernel_rfl) (fun _ _ _ h => h) (Or.inl ⟨by kernel_rfl, ?_⟩) hS ?_; rotate_left; focus (intro uu hu; clear hu; go_simp; try with_reducible rfl)
      try simp only [Act.put, List.getElem_toArray, List.getElem_cons_succ, List.getElem_cons_zero, List.setIfInBounds_toArray, List.set_cons_zero, List.set_cons_succ]
      refine wpAnyH_take (i := 2) (v := ?_) rfl (by kernel_rfl) (by kernel_rfl) (by kernel_rfl) (fun _ _ _ h => h) (Or.inl ⟨by kernel_rfl, ?_⟩) hS ?_; rotate_left; focus (intro uu hu; clear hu; go_simp; try with_reducible rfl)
      try simp only [Act.put, List.getElem_toArray, List.getElem_cons_succ, List.getElem_cons_zero, List.setIfInBounds_toArray, List.set_cons_zero, List.set_cons_succ]
      refine wpAnyH_take (i := 3) (v := ?_) rfl (by kernel_rfl) (by kernel_rfl) (by kernel_rfl) (fun _ _ _ h => h) (Or.inl ⟨by kernel_rfl, ?_⟩) hS ?_; rotate_left; focus (intro uu hu; clear hu; go_simp; try with_reducible rfl)
      try simp only [Act.put, List.getElem_toArray, List.getElem_cons_succ, List.getElem_cons_zero, List.setIfInBounds_toArray, List.set_cons_zero, List.set_cons_succ]
      refine wpAnyH_take (i := 4) (v := ?_) rfl (by kernel_rfl) (by kernel_rfl) (by kernel_rfl) (fun _ _ _ h => h) (Or.inl ⟨by kernel_rfl, ?_⟩) hS ?_; rotate_left; focus (intro uu hu; clear hu; go_simp; try with_reducible rfl)
      try simp only [Act.put, List.getElem_toArray, List.getElem_cons_succ, List.getElem_cons_zero, List.setIfInBounds_toArray, List.set_cons_zero, List.set_cons_succ]
      refine wpAnyH_take (i := 5) (v := ?_) rfl (by kernel_rfl) (by kernel_rfl) (by kernel_rfl) (fun _ _ _ h => h) (Or.inl ⟨by kernel_rfl, ?_⟩) hS ?_; rotate_left; focus (intro uu hu; clear hu; go_simp; try with_reducible rfl)
      try simp only [Act.put, List.getElem_toArray, List.getElem_cons_succ, List.getElem_cons_zero, List.setIfInBounds_toArray, List.set_cons_zero, List.set_cons_succ]
      refine wpAnyH_take (i := 6) (v := ?_) rfl (by kernel_rfl) (by kernel_rfl) (by kernel_rfl) (fun _ _ _ h => h) (Or.inl ⟨by kernel_rfl, ?_⟩) hS ?_; rotate_left; focus (intro uu hu; clear hu; go_simp; try with_reducible rfl)
      try simp only [Act.put, List.getElem_toArray, List.getElem_cons_succ, List.getElem_cons_zero, List.setIfInBounds_toArray, List.set_cons_zero, List.set_cons_succ]
      refine wpAnyH_take (i := 7) (v := ?_) rfl (by kernel_rfl) (by kernel_rfl) (by kernel_rfl) (fun _ _ _ h => h) (Or.inl ⟨by kernel_rfl, ?_⟩) hS ?_; rotate_left; focus (intro uu hu; clear hu; go_simp; try with_reducible rfl)
      try simp only [Act.put, List.getElem_toArray, List.getElem_cons_succ, List.getElem_cons_zero, List.setIfInBounds_toArray, List.set_cons_zero, List.set_cons_succ]
      refine wpAnyH_ready (rs := [8, 10]) (by kernel_rfl) (by simp) ?_
      refine (AllReadyH.cons rfl (fun K hK => ?_) (AllReadyH.cons rfl (fun K hK => ?_) AllReadyH.nil))
      · skip
        rw [if_pos (by kernel_rfl)]
        go_simp
        refine (i3 V1).mono ?_; rintro e u1 ⟨rfl, hsame⟩; obtain rfl := hsame.symm
        refine hK.out _ _ hS (fun hS => ?_)
        clear hK K
        try simp only [Act.put, List.getElem_toArray, List.getElem_cons_succ, List.getElem_cons_zero, List.setIfInBounds_toArray, List.set_cons_zero, List.set_cons_succ]
        refine wpAnyH_take (i := 9) (v := ?_) rfl (by kernel_rfl) (by kernel_rfl) (by kernel_rfl) (fun _ _ _ h => h) (Or.inl ⟨by kernel_rfl, ?_⟩) hS ?_; rotate_left; focus (intro uu hu; clear hu; go_simp; try with_reducible rfl)
        try simp only [Act.put, List.getElem_toArray, List.getElem_cons_succ, List.getElem_cons_zero, List.setIfInBounds_toArray, List.set_cons_zero, List.set_cons_succ]
        refine wpAnyH_ready (rs := [10]) (by kernel_rfl) (by simp) ?_
        refine (AllReadyH.cons rfl (fun K hK => ?_) AllReadyH.nil)
        rw [if_pos (by kernel_rfl)]
        go_simp
        obtain ⟨u2, hu2⟩ : ∃ u, V1.alloc (.cells #[.int .i64 0, .int .i64 0, .int .i64 0, .string ⟨#[]⟩] 29) = u := ⟨_, rfl⟩
        have hbu2 : Below V1.heap.size V1 u2 := by rw [← hu2]; exact (Below.refl _ _).alloc (Nat.le_refl _) _
        have RB : Hid (RowIs u2 V1.heap.size 29 [.int .i64 0, .int .i64 0, .int .i64 0, .string ⟨#[]⟩]) := by show _; rw [← hu2]; exact rowIs_new V1 _ _
        rw [hu2]
        clear hu2
        refine hK.out _ _ (bchain hS hbu2) (fun hS => ?_)
        clear hK K
        try simp only [Act.put, List.getElem_toArray, List.getElem_cons_succ, List.getElem_cons_zero, List.setIfInBounds_toArray, List.set_cons_zero, List.set_cons_succ]
        refine wpAnyH_ready (rs := [11]) (by kernel_rfl) (by simp) ?_
        refine (AllReadyH.cons rfl (fun K hK => ?_) AllReadyH.nil)
        rw [if_pos (by kernel_rfl)]
        have RQ := RB.out
        have x0 := RowIs.cell (j := 0) RQ rfl; have x1 := RowIs.cell (j := 1) RQ rfl; have x2 := RowIs.cell (j := 2) RQ rfl; have x3 := RowIs.cell (j := 3) RQ rfl; have x9 := fun j => RowIs.frozen RQ j
        have hlq := RQ.lt
        go_simp
        have RB2 := ((((RQ.set 0 (.int .i64 k)).set 1 (.int .i64 fl)).set 2 (.int .i64 st)).set 3 (.string ⟨#[]⟩))
        refine hK.out _ _ (by repeat' (first | (with_reducible exact hS) | (with_reducible refine Below.setCell ?_ ?_ _) | (with_reducible refine Below.alloc ?_ ?_ _) | (with_reducible refine Below.drew ?_) | (with_reducible refine bo_drewN _ ?_) | omega | (simp; done) | (simp; omega))) (fun hS => ?_)
        clear hK K
        try simp only [Act.put, List.getElem_toArray, List.getElem_cons_succ, List.getElem_cons_zero, List.setIfInBounds_toArray, List.set_cons_zero, List.set_cons_succ]
        refine wpAnyH_done (by kernel_rfl) ?_ _
        go_wp2_with fail
        go_meet
        exact ⟨_, rfl, hVle, RB2, hS⟩
      · skip
        rw [if_pos (by kernel_rfl)]
        go_simp
        obtain ⟨u4, hu4⟩ : ∃ u, V1.alloc (.cells #[.int .i64 0, .int .i64 0, .int .i64 0, .string ⟨#[]⟩] 29) = u := ⟨_, rfl⟩
        have hbu4 : Below V1.heap.size V1 u4 := by rw [← hu4]; exact (Below.refl _ _).alloc (Nat.le_refl _) _
        have RB : Hid (RowIs u4 V1.heap.size 29 [.int .i64 0, .int .i64 0, .int .i64 0, .string ⟨#[]⟩]) := by show _; rw [← hu4]; exact rowIs_new V1 _ _
        rw [hu4]
        clear hu4
        refine hK.out _ _ (bchain hS hbu4) (fun hS => ?_)
        clear hK K
        try simp only [Act.put, List.getElem_toArray, List.getElem_cons_succ, List.getElem_cons_zero, List.setIfInBounds_toArray, List.set_cons_zero, List.set_cons_succ]
        refine wpAnyH_ready (rs := [8]) (by kernel_rfl) (by simp) ?_
        refine (AllReadyH.cons rfl (fun K hK => ?_) AllReadyH.nil)
        rw [if_pos (by kernel_rfl)]
        go_simp
        refine (i3 u4).mono ?_; rintro e u5 ⟨rfl, hsame⟩; obtain rfl := hsame.symm
        refine hK.out _ _ hS (fun hS => ?_)
        clear hK K
        try simp only [Act.put, List.getElem_toArray, List.getElem_cons_succ, List.getElem_cons_zero, List.setIfInBounds_toArray, List.set_cons_zero, List.set_cons_succ]
        refine wpAnyH_take (i := 9) (v := ?_) rfl (by kernel_rfl) (by kernel_rfl) (by kernel_rfl) (fun _ _ _ h => h) (Or.inl ⟨by kernel_rfl, ?_⟩) hS ?_; rotate_left; focus (intro uu hu; clear hu; go_simp; try with_reducible rfl)
        try simp only [Act.put, List.getElem_toArray, List.getElem_cons_succ, List.getElem_cons_zero, List.setIfInBounds_toArray, List.set_cons_zero, List.set_cons_succ]
        refine wpAnyH_ready (rs := [11]) (by kernel_rfl) (by simp) ?_
        refine (AllReadyH.cons rfl (fun K hK => ?_) AllReadyH.nil)
        rw [if_pos (by kernel_rfl)]
        have RQ := RB.out
        have x0 := RowIs.cell (j := 0) RQ rfl; have x1 := RowIs.cell (j := 1) RQ rfl; have x2 := RowIs.cell (j := 2) RQ rfl; have x3 := RowIs.cell (j := 3) RQ rfl; have x9 := fun j => RowIs.frozen RQ j
        have hlq := RQ.lt
        go_simp
        have RB2 := ((((RQ.set 0 (.int .i64 k)).set 1 (.int .i64 fl)).set 2 (.int .i64 st)).set 3 (.string ⟨#[]⟩))
        refine hK.out _ _ (by repeat' (first | (with_reducible exact hS) | (with_reducible refine Below.setCell ?_ ?_ _) | (with_reducible refine Below.alloc ?_ ?_ _) | (with_reducible refine Below.drew ?_) | (with_reducible refine bo_drewN _ ?_) | omega | (simp; done) | (simp; omega))) (fun hS => ?_)
        clear hK K
        try simp only [Act.put, List.getElem_toArray, List.getElem_cons_succ, List.getElem_cons_zero, List.setIfInBounds_toArray, List.set_cons_zero, List.set_cons_succ]
        refine wpAnyH_done (by kernel_rfl) ?_ _
        go_wp2_with fail
        go_meet
        exact ⟨_, rfl, hVle, RB2, hS⟩
    case rest =>
      obtain ⟨q, rfl, hq, RF, hbc⟩ := hcut
      have HOC := hide (owns_new HO.out hbc)
      have HBC := hide (bchain HB.out hbc)
      have hob : ∀ y, (Value.slice ad L.length cap).ownBlock = some y → y < wr.heap.size := fun y hy => (HO.out.lt y hy).2
      have y0 := RowIs.cell (j := 0) RF rfl; have y1 := RowIs.cell (j := 1) RF rfl; have y2 := RowIs.cell (j := 2) RF rfl; have y3 := RowIs.cell (j := 3) RF rfl; have y9 := fun j => RowIs.frozen RF j
      have hlq := RF.lt
      have RF' := hide RF
      clear RF hbc HO HB i3 i2
      cases hh : hdOk k fl st N
      · have hFe : (FL, rest, ok) = (L, s, false) := by rw [HFK.out, frm_bad (by rw [HFS.out, if_pos hh])]; simp
        simp only [Prod.mk.injEq] at hFe
        obtain ⟨rfl, rfl, rfl⟩ := hFe
        go_wp2_with fail
        refine (specHead k fl st N _).mono ?_; rw [hh]; rintro e w2 ⟨rfl, hsame⟩; obtain rfl := hsame.symm
        go_wp2_with fail
        go_ret3
        exact ⟨_, rfl, HOC.out, HBC.out⟩
      by_cases hz : (s.size : Int) < 7 + N
      · have hFe : (FL, rest, ok) = (L, s, true) := by rw [HFK.out, frm_wait (by rw [HFS.out, if_neg (by rw [hh]; decide), if_pos hz])]; simp
        simp only [Prod.mk.injEq] at hFe
        obtain ⟨rfl, rfl, rfl⟩ := hFe
        go_wp2_with fail
        refine (specHead k fl st N _).mono ?_; rw [hh]; rintro e w2 ⟨rfl, hsame⟩; obtain rfl := hsame.symm
        go_wp2_with fail
        go_ret3
        exact ⟨_, rfl, HOC.out, HBC.out⟩
      obtain ⟨p1, p2, p3, p4, p5, p6, p7, p8⟩ := hd_parts hh
      obtain ⟨X, hX⟩ : ∃ X, s.extract 7 (7 + N.toNat) = X := ⟨_, rfl⟩
      have hXs : X.size = N.toNat := by rw [← hX, ba_extract_size (by omega) (by omega)]; omega
      have hXm : X.size ≤ maxLen := by unfold maxLen; omega
      obtain ⟨Y, hY⟩ : ∃ Y, s.extract (7 + N.toNat) s.size = Y := ⟨_, rfl⟩
      have hYs : Y.size = s.size - (7 + N.toNat) := by rw [← hY, ba_extract_size (Nat.le_refl _) (by omega)]
      have hsl : ∀ w, (Instr.slice 9 (.string s) (some (.int .i64 7)) (some (.int .i64 (7 + N))) none).run Tryd.prog w = .ok (.string X) w := fun w => by
        rw [run_slice_string (P := Tryd.prog) w 9 s .i64 .i64 7 (7 + N) Tryd.underlying9 (by omega) (by omega) (by omega), ← hX]; congr 3; omega
      have hsl2 : ∀ w, (Instr.slice 9 (.string s) (some (.int .i64 (7 + N))) none none).run Tryd.prog w = .ok (.string Y) w := fun w => by
        rw [run_slice_string_from_if (P := Tryd.prog) w 9 s .i64 (7 + N) Tryd.underlying9, if_pos ⟨by omega, by omega⟩, ← hY]; congr 3; omega
      have HFE : Hid ((FL, rest, ok) = if okFr ⟨k, fl, st, X⟩ = false then (L, s, false) else (L ++ ((⟨k, fl, st, X⟩ : Fr) :: (frmV Y).1), (frmV Y).2)) := by
        show _ = _
        have e := HFS.out
        rw [if_neg (by rw [hh]; decide), if_neg hz, hX] at e
        rw [HFK.out]
        split
        · rename_i c
          rw [if_pos c] at e
          rw [frm_bad (by rw [e])]; simp
        · rename_i c
          rw [if_neg c] at e
          rw [frm_good (by rw [e]), e]; dsimp only; rw [hY]
      have HXS := hide hXs
      have HYS := hide hYs
      clear HFK HFS hX hY hXs hYs
      go_wp2_with fail
      refine (specHead k fl st N _).mono ?_; rw [hh]; rintro e w2 ⟨rfl, hsame⟩; obtain rfl := hsame.symm
      go_wp2_with fail
      obtain ⟨w4, hw4⟩ : ∃ u, wc.setCell ⟨q, 3, none⟩ (.string X) = u := ⟨_, rfl⟩
      have RF4 : Hid (RowIs w4 q 29 [.int .i64 k, .int .i64 fl, .int .i64 st, .string X]) := by show RowIs _ _ _ _; rw [← hw4]; exact RF'.out.set 3 (.string X)
      have HO4 : Hid (w4.ownsRow w.heap.size 29 4 (.slice ad L.length cap) L.length (fr L)) := by show World.ownsRow _ _ _ _ _ _ _; rw [← hw4]; exact owns_apart HOC.out _ _ (fun e => by have := hob _ e; simp at this; omega)
      have HB4 : Hid (Below w.heap.size w w4) := by show Below _ _ _; rw [← hw4]; exact HBC.out.setCell (by simp; omega) _
      rw [hw4]
      clear hw4 y0 y1 y2 y3 y9 RF' HOC HBC
      cases hok : okFr ⟨k, fl, st, X⟩
      · have hFe : (FL, rest, ok) = (L, s, false) := by rw [HFE.out, if_pos hok]
        simp only [Prod.mk.injEq] at hFe
        obtain ⟨rfl, rfl, rfl⟩ := hFe
        refine (specFrameOk k fl st X _ hXm).mono ?_; rw [hok]; rintro e w5 ⟨rfl, hb5⟩
        have HO5 := hide (owns_new HO4.out hb5)
        have HB5 := hide (bchain HB4.out hb5)
        clear HO4 HB4 hb5
        go_wp2_with fail
        go_ret3
        exact ⟨_, rfl, HO5.out, HB5.out⟩
      · have HFN : Hid ((FL, rest, ok) = ((L ++ [(⟨k, fl, st, X⟩ : Fr)]) ++ (frmV Y).1, (frmV Y).2)) := by show _ = _; rw [HFE.out, if_neg (by rw [hok]; decide)]; simp
        refine (specFrameOk k fl st X _ hXm).mono ?_; rw [hok]; rintro e w5 ⟨rfl, hb5⟩
        have HO5 := hide (owns_new HO4.out hb5)
        have HB5 := hide (bchain HB4.out hb5)
        have RF5 := RF4.out.new hb5
        have y0 := RowIs.cell (j := 0) RF5 rfl; have y1 := RowIs.cell (j := 1) RF5 rfl; have y2 := RowIs.cell (j := 2) RF5 rfl; have y3 := RowIs.cell (j := 3) RF5 rfl; have y9 := fun j => RowIs.frozen RF5 j
        have hl5 := RF5.lt
        clear HO4 HB4 hb5 HFE RF4 RF5
        have hsz5 := HB5.out.size
        have HN6 := owns_frame w5 ⟨k, fl, st, X⟩
        dsimp only at HN6
        have HO6 := hide (HO5.out.alloc (.cells #[.int .i64 k, .int .i64 fl, .int .i64 st, .string X] 29))
        have HNH := hide HN6
        clear HN6
        go_wp2_with (at_builtin; refine wpList_app _ (by rfl) _ _ 25 (by rfl) 29 (.agg #[.int .i64 0, .int .i64 0, .int .i64 0, .string ⟨#[]⟩]) 4 40 Tryd.underlying25 (by kernel_rfl) rfl (by decide) w.heap.size _ L.length (fr L) (by rfl) HO6.out _ 1 (Fr.cs ⟨k, fl, st, X⟩) (by rfl) (reads_of_owns HNH.out) (fun u hu => fr_one [⟨k, fl, st, X⟩] u (by simpa [fr] using hu)) (by omega) (by decide) (by simp; omega) ?_)
        intro ad6 cap6 w6 hown6 hgrow6 hat6
        clear hat6
        have HB6 : Hid (Below w.heap.size w w6) := (bo_alloc HB5.out _).grown hgrow6 (by simp; omega) (fun y hy => (HO6.out.lt y hy).1)
        rw [← fr_snoc] at hown6
        have HO7 : Hid (w6.ownsRow w.heap.size 29 4 (.slice ad6 (L.length + 1) cap6) (L ++ [(⟨k, fl, st, X⟩ : Fr)]).length (fr (L ++ [(⟨k, fl, st, X⟩ : Fr)]))) := by show World.ownsRow _ _ _ _ _ _ _; simpa using hown6
        clear hown6 hgrow6 HO6 HNH HO5 HB5
        go_wp2_with fail
        exact ⟨⟨Y, L ++ [(⟨k, fl, st, X⟩ : Fr)], rfl, by have := HYS.out; simp; omega, HFN.out, HO7.out, HB6.out⟩, by have := HYS.out; show Y.size < s.size; omega⟩
end Go.Proofs.YtelcnojmfkoboaaDoor
