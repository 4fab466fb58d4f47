/- A Bucket that is drawn, and a time; what the laws of chapter 12 draw. -/
import Derived.Test.YthoiefhcaplmiaaBktSpec
import Derived.Test.YthoiefhcaplmiaaCurTurn
import Derived.Test.YthoiefhcaplmiaaMade
import Derived.Test.YthoiefhcaplmiaaOpenCode
import Derived.Deep.RegionHeld3



namespace Go.Proofs.Ythoiefhcaplmiaa
open Go.RowKit
set_option maxRecDepth 100000
set_option linter.unusedSimpArgs false
set_option linter.unusedVariables false
set_option maxHeartbeats 2000000 in
theorem draw12 (g B : Nat) (w : World) (hc : Cur w g B) :
    Calls Try.prog 25 #[.pointer (some ⟨g, 0, none⟩)] w fun e w' => ∃ b : Bk, e = .returned (bv b) ∧ Cur w' g B ∧ Moves g w w' := by
  have hgw := hc.lt
  go_enter Try.func25, Try.ntmps25
  go_wp2_with fail
  have R2 : RowIs (w.alloc (.cells #[.int .i64 0, .int .i64 0, .int .i64 0, .int .i64 0] 25)) w.heap.size 25 [.int .i64 0, .int .i64 0, .int .i64 0, .int .i64 0] := rowIs_new w _ _
  have hm := (Moves.refl g w).alloc (.cells #[.int .i64 0, .int .i64 0, .int .i64 0, .int .i64 0] 25)
  replace hc := hc.alloc (.cells #[.int .i64 0, .int .i64 0, .int .i64 0, .int .i64 0] 25)
  refine (below1 g B 6 _ hc (by omega)).mono ?_; rintro e w1 ⟨r, r0, r1, _, rfl, hcx, hmx⟩
  replace R2 := R2.moves hmx (by omega)
  replace hm := hm.trans hmx
  replace hc := hcx
  clear hmx hcx
  have r6 := r1 (by omega)
  clear r1
  go_wp2_with fail
  refine (below1 g B 40 _ hc (by omega)).mono ?_; rintro e w2 ⟨m, m0, m1, _, rfl, hcx, hmx⟩
  replace R2 := R2.moves hmx (by omega)
  replace hm := hm.trans hmx
  replace hc := hcx
  clear hmx hcx
  have m6 := m1 (by omega)
  clear m1
  go_wp2_with fail
  refine (below1 g B 30 _ hc (by omega)).mono ?_; rintro e w3 ⟨a, a0, a1, _, rfl, hcx, hmx⟩
  replace R2 := R2.moves hmx (by omega)
  replace hm := hm.trans hmx
  replace hc := hcx
  clear hmx hcx
  have a6 := a1 (by omega)
  clear a1
  have hs3 := hm.size
  have hl3 := R2.lt
  go_wp2_with fail
  obtain ⟨V, hV⟩ : ∃ V, w3.alloc (.cells #[.int .i64 r, .int .i64 (1 + m), .int .i64 0, .int .i64 a] 25) = V := ⟨_, rfl⟩
  have RB : RowIs V w3.heap.size 25 [.int .i64 r, .int .i64 (1 + m), .int .i64 0, .int .i64 a] := by rw [← hV]; exact rowIs_new w3 _ _
  replace R2 : RowIs V w.heap.size 25 [.int .i64 0, .int .i64 0, .int .i64 0, .int .i64 0] := by rw [← hV]; exact R2.alloc _
  replace hm : Moves g w V := by rw [← hV]; exact hm.alloc _
  replace hc : Cur V g B := by rw [← hV]; exact hc.alloc _
  rw [hV]
  clear hV
  obtain ⟨b, hb⟩ : ∃ b, b = w3.heap.size := ⟨_, rfl⟩
  rw [← hb] at RB ⊢
  have hbw : w.heap.size < b := by omega
  have hbg : b ≠ g := by omega
  have hwg : w.heap.size ≠ g := by omega
  clear hb hs3 hl3
  refine (below1 g B _ _ hc (by omega)).mono ?_; rintro e w4 ⟨l, l0, l1, _, rfl, hcx, hmx⟩
  replace R2 := R2.moves hmx (by omega)
  replace RB := RB.moves hmx (by omega)
  replace hm := hm.trans hmx
  replace hc := hcx
  clear hmx hcx
  have l6 := l1 (by omega)
  clear l1
  have x0 := RowIs.cell (j := 0) RB rfl; have x1 := RowIs.cell (j := 1) RB rfl; have x2 := RowIs.cell (j := 2) RB rfl; have x3 := RowIs.cell (j := 3) RB rfl; have x9 := fun j => RowIs.frozen RB j; have x8 := RB.lt
  go_wp2_with fail
  obtain ⟨V, hV⟩ : ∃ V, w4.setCell ⟨b, 2, none⟩ (.int .i64 l) = V := ⟨_, rfl⟩
  replace RB : RowIs V b 25 [.int .i64 r, .int .i64 (1 + m), .int .i64 l, .int .i64 a] := by rw [← hV]; exact RB.set 2 _
  replace R2 : RowIs V w.heap.size 25 [.int .i64 0, .int .i64 0, .int .i64 0, .int .i64 0] := by rw [← hV]; exact R2.far ⟨b, 2, none⟩ _ (by show b ≠ w.heap.size; omega)
  replace hm : Moves g w V := by rw [← hV]; exact hm.setNew ⟨b, 2, none⟩ (by show w.heap.size ≤ b; omega) _
  replace hc : Cur V g B := by rw [← hV]; exact hc.set ⟨b, 2, none⟩ _ (by show g < b; omega)
  rw [hV]
  clear hV
  clear x0 x1 x2 x3 x9 x8
  refine (once1 g B 10 _ hc (by omega)).mono ?_; rintro e w5 ⟨vb, rfl, hcx, hmx⟩
  replace R2 := R2.moves hmx (by omega)
  replace RB := RB.moves hmx (by omega)
  replace hm := hm.trans hmx
  replace hc := hcx
  clear hmx hcx
  cases vb
  · skip
    have x0 := RowIs.cell (j := 0) RB rfl; have x1 := RowIs.cell (j := 1) RB rfl; have x2 := RowIs.cell (j := 2) RB rfl; have x3 := RowIs.cell (j := 3) RB rfl; have x9 := fun j => RowIs.frozen RB j; have x8 := RB.lt
    have y0 := RowIs.cell (j := 0) R2 rfl; have y1 := RowIs.cell (j := 1) R2 rfl; have y2 := RowIs.cell (j := 2) R2 rfl; have y3 := RowIs.cell (j := 3) R2 rfl; have y9 := fun j => RowIs.frozen R2 j; have y8 := R2.lt
    go_wp2_with fail
    refine bodyPost_ret (v := .agg #[.int .i64 r, .int .i64 (1 + m), .int .i64 l, .int .i64 a]) (by simp [results, Try.results25, go_sem, *]) rfl ?_
    exact ⟨⟨r, (1 + m), l, a⟩, rfl, by repeat' (first | (with_reducible exact hc) | (with_reducible refine Cur.set ?_ _ _ ?_) | (with_reducible refine Cur.alloc ?_ _) | (with_reducible refine Cur.drewN ?_ _) | (with_reducible refine Cur.drew ?_) | omega | (simp; done) | (simp; omega)), by repeat' (first | (with_reducible exact hm) | (with_reducible refine Moves.setNew ?_ _ ?_ _) | (with_reducible refine Moves.alloc ?_ _) | (with_reducible refine Moves.drewN _ ?_) | (with_reducible refine Moves.drew ?_) | omega | (simp; done) | (simp; omega))⟩
  · skip
    go_wp2_with fail
    refine (below1 g B 4 _ hc (by omega)).mono ?_; rintro e w6 ⟨k, k0, k1, _, rfl, hcx, hmx⟩
    replace R2 := R2.moves hmx (by omega)
    replace RB := RB.moves hmx (by omega)
    replace hm := hm.trans hmx
    replace hc := hcx
    clear hmx hcx
    have k4 := k1 (by omega)
    clear k1
    have hk : k = 0 ∨ k = 1 ∨ k = 2 ∨ k = 3 := by omega
    rcases hk with rfl | rfl | rfl | rfl
    · skip
      go_wp2_with fail
      obtain ⟨V, hV⟩ : ∃ V, w6.alloc (.cells #[.int .i64 (-1), .int .i64 0, .int .i64 1000, .int .i64 1001] 2) = V := ⟨_, rfl⟩
      have RA : RowIs V w6.heap.size 2 [.int .i64 (-1), .int .i64 0, .int .i64 1000, .int .i64 1001] := by rw [← hV]; exact rowIs_new w6 _ _
      have hl6 := RB.lt
      have hcl := hc.lt
      replace RB : RowIs V b 25 [.int .i64 r, .int .i64 (1 + m), .int .i64 l, .int .i64 a] := by rw [← hV]; exact RB.alloc _
      replace R2 : RowIs V w.heap.size 25 [.int .i64 0, .int .i64 0, .int .i64 0, .int .i64 0] := by rw [← hV]; exact R2.alloc _
      replace hm : Moves g w V := by rw [← hV]; exact hm.alloc _
      replace hc : Cur V g B := by rw [← hV]; exact hc.alloc _
      rw [hV]
      clear hV
      obtain ⟨ga, hga⟩ : ∃ ga, ga = w6.heap.size := ⟨_, rfl⟩
      rw [← hga] at RA hl6 hcl ⊢
      clear hga
      refine (below1 g B 4 _ hc (by omega)).mono ?_; rintro e w7 ⟨q, q0, q1, _, rfl, hcx, hmx⟩
      replace R2 := R2.moves hmx (by omega)
      replace RB := RB.moves hmx (by omega)
      replace RA := RA.moves hmx (by omega)
      replace hm := hm.trans hmx
      replace hc := hcx
      clear hmx hcx
      have q4 := q1 (by omega)
      clear q1
      have hq : q = 0 ∨ q = 1 ∨ q = 2 ∨ q = 3 := by omega
      rcases hq with rfl | rfl | rfl | rfl
      · skip
        have q5 := RowIs.cell (j := 0) RA rfl
        have q6 := RA.lt
        clear RA
        have x0 := RowIs.cell (j := 0) RB rfl; have x1 := RowIs.cell (j := 1) RB rfl; have x2 := RowIs.cell (j := 2) RB rfl; have x3 := RowIs.cell (j := 3) RB rfl; have x9 := fun j => RowIs.frozen RB j; have x8 := RB.lt
        have y0 := RowIs.cell (j := 0) R2 rfl; have y1 := RowIs.cell (j := 1) R2 rfl; have y2 := RowIs.cell (j := 2) R2 rfl; have y3 := RowIs.cell (j := 3) R2 rfl; have y9 := fun j => RowIs.frozen R2 j; have y8 := R2.lt
        go_wp2_with fail
        refine bodyPost_ret (v := .agg #[.int .i64 (-1), .int .i64 (1 + m), .int .i64 l, .int .i64 a]) (by simp [results, Try.results25, go_sem, *]) rfl ?_
        exact ⟨⟨(-1), (1 + m), l, a⟩, rfl, by repeat' (first | (with_reducible exact hc) | (with_reducible refine Cur.set ?_ _ _ ?_) | (with_reducible refine Cur.alloc ?_ _) | (with_reducible refine Cur.drewN ?_ _) | (with_reducible refine Cur.drew ?_) | omega | (simp; done) | (simp; omega)), by repeat' (first | (with_reducible exact hm) | (with_reducible refine Moves.setNew ?_ _ ?_ _) | (with_reducible refine Moves.alloc ?_ _) | (with_reducible refine Moves.drewN _ ?_) | (with_reducible refine Moves.drew ?_) | omega | (simp; done) | (simp; omega))⟩
      · skip
        have q5 := RowIs.cell (j := 1) RA rfl
        have q6 := RA.lt
        clear RA
        have x0 := RowIs.cell (j := 0) RB rfl; have x1 := RowIs.cell (j := 1) RB rfl; have x2 := RowIs.cell (j := 2) RB rfl; have x3 := RowIs.cell (j := 3) RB rfl; have x9 := fun j => RowIs.frozen RB j; have x8 := RB.lt
        have y0 := RowIs.cell (j := 0) R2 rfl; have y1 := RowIs.cell (j := 1) R2 rfl; have y2 := RowIs.cell (j := 2) R2 rfl; have y3 := RowIs.cell (j := 3) R2 rfl; have y9 := fun j => RowIs.frozen R2 j; have y8 := R2.lt
        go_wp2_with fail
        refine bodyPost_ret (v := .agg #[.int .i64 0, .int .i64 (1 + m), .int .i64 l, .int .i64 a]) (by simp [results, Try.results25, go_sem, *]) rfl ?_
        exact ⟨⟨0, (1 + m), l, a⟩, rfl, by repeat' (first | (with_reducible exact hc) | (with_reducible refine Cur.set ?_ _ _ ?_) | (with_reducible refine Cur.alloc ?_ _) | (with_reducible refine Cur.drewN ?_ _) | (with_reducible refine Cur.drew ?_) | omega | (simp; done) | (simp; omega)), by repeat' (first | (with_reducible exact hm) | (with_reducible refine Moves.setNew ?_ _ ?_ _) | (with_reducible refine Moves.alloc ?_ _) | (with_reducible refine Moves.drewN _ ?_) | (with_reducible refine Moves.drew ?_) | omega | (simp; done) | (simp; omega))⟩
      · skip
        have q5 := RowIs.cell (j := 2) RA rfl
        have q6 := RA.lt
        clear RA
        have x0 := RowIs.cell (j := 0) RB rfl; have x1 := RowIs.cell (j := 1) RB rfl; have x2 := RowIs.cell (j := 2) RB rfl; have x3 := RowIs.cell (j := 3) RB rfl; have x9 := fun j => RowIs.frozen RB j; have x8 := RB.lt
        have y0 := RowIs.cell (j := 0) R2 rfl; have y1 := RowIs.cell (j := 1) R2 rfl; have y2 := RowIs.cell (j := 2) R2 rfl; have y3 := RowIs.cell (j := 3) R2 rfl; have y9 := fun j => RowIs.frozen R2 j; have y8 := R2.lt
        go_wp2_with fail
        refine bodyPost_ret (v := .agg #[.int .i64 1000, .int .i64 (1 + m), .int .i64 l, .int .i64 a]) (by simp [results, Try.results25, go_sem, *]) rfl ?_
        exact ⟨⟨1000, (1 + m), l, a⟩, rfl, by repeat' (first | (with_reducible exact hc) | (with_reducible refine Cur.set ?_ _ _ ?_) | (with_reducible refine Cur.alloc ?_ _) | (with_reducible refine Cur.drewN ?_ _) | (with_reducible refine Cur.drew ?_) | omega | (simp; done) | (simp; omega)), by repeat' (first | (with_reducible exact hm) | (with_reducible refine Moves.setNew ?_ _ ?_ _) | (with_reducible refine Moves.alloc ?_ _) | (with_reducible refine Moves.drewN _ ?_) | (with_reducible refine Moves.drew ?_) | omega | (simp; done) | (simp; omega))⟩
      · skip
        have q5 := RowIs.cell (j := 3) RA rfl
        have q6 := RA.lt
        clear RA
        have x0 := RowIs.cell (j := 0) RB rfl; have x1 := RowIs.cell (j := 1) RB rfl; have x2 := RowIs.cell (j := 2) RB rfl; have x3 := RowIs.cell (j := 3) RB rfl; have x9 := fun j => RowIs.frozen RB j; have x8 := RB.lt
        have y0 := RowIs.cell (j := 0) R2 rfl; have y1 := RowIs.cell (j := 1) R2 rfl; have y2 := RowIs.cell (j := 2) R2 rfl; have y3 := RowIs.cell (j := 3) R2 rfl; have y9 := fun j => RowIs.frozen R2 j; have y8 := R2.lt
        go_wp2_with fail
        refine bodyPost_ret (v := .agg #[.int .i64 1001, .int .i64 (1 + m), .int .i64 l, .int .i64 a]) (by simp [results, Try.results25, go_sem, *]) rfl ?_
        exact ⟨⟨1001, (1 + m), l, a⟩, rfl, by repeat' (first | (with_reducible exact hc) | (with_reducible refine Cur.set ?_ _ _ ?_) | (with_reducible refine Cur.alloc ?_ _) | (with_reducible refine Cur.drewN ?_ _) | (with_reducible refine Cur.drew ?_) | omega | (simp; done) | (simp; omega)), by repeat' (first | (with_reducible exact hm) | (with_reducible refine Moves.setNew ?_ _ ?_ _) | (with_reducible refine Moves.alloc ?_ _) | (with_reducible refine Moves.drewN _ ?_) | (with_reducible refine Moves.drew ?_) | omega | (simp; done) | (simp; omega))⟩
    · skip
      go_wp2_with fail
      obtain ⟨V, hV⟩ : ∃ V, w6.alloc (.cells #[.int .i64 0, .int .i64 10000, .int .i64 10001] 2) = V := ⟨_, rfl⟩
      have RA : RowIs V w6.heap.size 2 [.int .i64 0, .int .i64 10000, .int .i64 10001] := by rw [← hV]; exact rowIs_new w6 _ _
      have hl6 := RB.lt
      have hcl := hc.lt
      replace RB : RowIs V b 25 [.int .i64 r, .int .i64 (1 + m), .int .i64 l, .int .i64 a] := by rw [← hV]; exact RB.alloc _
      replace R2 : RowIs V w.heap.size 25 [.int .i64 0, .int .i64 0, .int .i64 0, .int .i64 0] := by rw [← hV]; exact R2.alloc _
      replace hm : Moves g w V := by rw [← hV]; exact hm.alloc _
      replace hc : Cur V g B := by rw [← hV]; exact hc.alloc _
      rw [hV]
      clear hV
      obtain ⟨ga, hga⟩ : ∃ ga, ga = w6.heap.size := ⟨_, rfl⟩
      rw [← hga] at RA hl6 hcl ⊢
      clear hga
      refine (below1 g B 3 _ hc (by omega)).mono ?_; rintro e w7 ⟨q, q0, q1, _, rfl, hcx, hmx⟩
      replace R2 := R2.moves hmx (by omega)
      replace RB := RB.moves hmx (by omega)
      replace RA := RA.moves hmx (by omega)
      replace hm := hm.trans hmx
      replace hc := hcx
      clear hmx hcx
      have q4 := q1 (by omega)
      clear q1
      have hq : q = 0 ∨ q = 1 ∨ q = 2 := by omega
      rcases hq with rfl | rfl | rfl
      · skip
        have q5 := RowIs.cell (j := 0) RA rfl
        have q6 := RA.lt
        clear RA
        have x0 := RowIs.cell (j := 0) RB rfl; have x1 := RowIs.cell (j := 1) RB rfl; have x2 := RowIs.cell (j := 2) RB rfl; have x3 := RowIs.cell (j := 3) RB rfl; have x9 := fun j => RowIs.frozen RB j; have x8 := RB.lt
        have y0 := RowIs.cell (j := 0) R2 rfl; have y1 := RowIs.cell (j := 1) R2 rfl; have y2 := RowIs.cell (j := 2) R2 rfl; have y3 := RowIs.cell (j := 3) R2 rfl; have y9 := fun j => RowIs.frozen R2 j; have y8 := R2.lt
        go_wp2_with fail
        refine bodyPost_ret (v := .agg #[.int .i64 r, .int .i64 0, .int .i64 l, .int .i64 a]) (by simp [results, Try.results25, go_sem, *]) rfl ?_
        exact ⟨⟨r, 0, l, a⟩, rfl, by repeat' (first | (with_reducible exact hc) | (with_reducible refine Cur.set ?_ _ _ ?_) | (with_reducible refine Cur.alloc ?_ _) | (with_reducible refine Cur.drewN ?_ _) | (with_reducible refine Cur.drew ?_) | omega | (simp; done) | (simp; omega)), by repeat' (first | (with_reducible exact hm) | (with_reducible refine Moves.setNew ?_ _ ?_ _) | (with_reducible refine Moves.alloc ?_ _) | (with_reducible refine Moves.drewN _ ?_) | (with_reducible refine Moves.drew ?_) | omega | (simp; done) | (simp; omega))⟩
      · skip
        have q5 := RowIs.cell (j := 1) RA rfl
        have q6 := RA.lt
        clear RA
        have x0 := RowIs.cell (j := 0) RB rfl; have x1 := RowIs.cell (j := 1) RB rfl; have x2 := RowIs.cell (j := 2) RB rfl; have x3 := RowIs.cell (j := 3) RB rfl; have x9 := fun j => RowIs.frozen RB j; have x8 := RB.lt
        have y0 := RowIs.cell (j := 0) R2 rfl; have y1 := RowIs.cell (j := 1) R2 rfl; have y2 := RowIs.cell (j := 2) R2 rfl; have y3 := RowIs.cell (j := 3) R2 rfl; have y9 := fun j => RowIs.frozen R2 j; have y8 := R2.lt
        go_wp2_with fail
        refine bodyPost_ret (v := .agg #[.int .i64 r, .int .i64 10000, .int .i64 l, .int .i64 a]) (by simp [results, Try.results25, go_sem, *]) rfl ?_
        exact ⟨⟨r, 10000, l, a⟩, rfl, by repeat' (first | (with_reducible exact hc) | (with_reducible refine Cur.set ?_ _ _ ?_) | (with_reducible refine Cur.alloc ?_ _) | (with_reducible refine Cur.drewN ?_ _) | (with_reducible refine Cur.drew ?_) | omega | (simp; done) | (simp; omega)), by repeat' (first | (with_reducible exact hm) | (with_reducible refine Moves.setNew ?_ _ ?_ _) | (with_reducible refine Moves.alloc ?_ _) | (with_reducible refine Moves.drewN _ ?_) | (with_reducible refine Moves.drew ?_) | omega | (simp; done) | (simp; omega))⟩
      · skip
        have q5 := RowIs.cell (j := 2) RA rfl
        have q6 := RA.lt
        clear RA
        have x0 := RowIs.cell (j := 0) RB rfl; have x1 := RowIs.cell (j := 1) RB rfl; have x2 := RowIs.cell (j := 2) RB rfl; have x3 := RowIs.cell (j := 3) RB rfl; have x9 := fun j => RowIs.frozen RB j; have x8 := RB.lt
        have y0 := RowIs.cell (j := 0) R2 rfl; have y1 := RowIs.cell (j := 1) R2 rfl; have y2 := RowIs.cell (j := 2) R2 rfl; have y3 := RowIs.cell (j := 3) R2 rfl; have y9 := fun j => RowIs.frozen R2 j; have y8 := R2.lt
        go_wp2_with fail
        refine bodyPost_ret (v := .agg #[.int .i64 r, .int .i64 10001, .int .i64 l, .int .i64 a]) (by simp [results, Try.results25, go_sem, *]) rfl ?_
        exact ⟨⟨r, 10001, l, a⟩, rfl, by repeat' (first | (with_reducible exact hc) | (with_reducible refine Cur.set ?_ _ _ ?_) | (with_reducible refine Cur.alloc ?_ _) | (with_reducible refine Cur.drewN ?_ _) | (with_reducible refine Cur.drew ?_) | omega | (simp; done) | (simp; omega)), by repeat' (first | (with_reducible exact hm) | (with_reducible refine Moves.setNew ?_ _ ?_ _) | (with_reducible refine Moves.alloc ?_ _) | (with_reducible refine Moves.drewN _ ?_) | (with_reducible refine Moves.drew ?_) | omega | (simp; done) | (simp; omega))⟩
    · skip
      go_wp2_with fail
      have hS0 : RowIs w6.drew b 25 [.int .i64 r, .int .i64 (1 + m), .int .i64 l, .int .i64 a] := RB
      have wm : ∀ z : Int, 0 ≤ z → z ≤ 2 → IntKind.i64.wrap (1 + m + z) = 1 + m + z := fun z h1 h2 => by rw [IntKind.wrap_i64]; omega
      refine wp_region_any (by kernel_rfl) ?_; change wpAny _ _ _ _ _ _ _ (World.drew _)
      have hcd := hc.drew
      have hmd := hm.drew
      have R2d : RowIs w6.drew w.heap.size 25 [.int .i64 0, .int .i64 0, .int .i64 0, .int .i64 0] := R2
      generalize w6.drew = u0 at *
      refine wpAny_take (i := 0) (v := ?_) rfl (by kernel_rfl) (by kernel_rfl) (by kernel_rfl) (fun _ _ _ h => h) (Or.inl ⟨by rfl, ?_⟩) ?_; rotate_left; focus (intro w; go_simp; try with_reducible rfl)
      refine wpAny_take (i := 2) (v := ?_) rfl (by kernel_rfl) (by kernel_rfl) (by kernel_rfl) (fun _ _ _ h => h) (Or.inl ⟨by rfl, ?_⟩) ?_; rotate_left; focus (intro w; go_simp; try with_reducible rfl)
      refine wpAny_ready (rs := [1, 3]) (by kernel_rfl) (by simp) ?_
      refine AllReady.cons rfl (fun K hK => ?_) (AllReady.cons rfl (fun K hK => ?_) AllReady.nil)
      · skip
        have z1 := RowIs.cell (j := 1) hS0 rfl
        go_simp
        refine hK _ _ ?_; clear hK K z1
        refine wpAny_ready (rs := [3]) (by kernel_rfl) (by simp) ?_
        refine AllReady.cons rfl (fun K hK => ?_) AllReady.nil
        go_simp
        refine (from1 g B 0 2 _ hcd (by omega) (by omega) (by omega)).mono ?_; rintro e u1 ⟨z, z0, z2, rfl, hcx, hmx⟩
        replace hS0 := hS0.moves hmx hbg
        replace R2d := R2d.moves hmx hwg
        replace hmd := hmd.trans hmx
        replace hcd := hcx
        clear hmx hcx
        refine hK _ _ ?_; clear hK K
        have wz := wm z z0 z2
        refine wpAny_take (i := 4) (v := ?_) rfl (by kernel_rfl) (by kernel_rfl) (by kernel_rfl) (fun _ _ _ h => h) (Or.inl ⟨by rfl, ?_⟩) ?_; rotate_left; focus (intro w; go_simp; try with_reducible rfl)
        refine wpAny_take (i := 5) (v := ?_) rfl (by kernel_rfl) (by kernel_rfl) (by kernel_rfl) (fun _ _ _ h => h) (Or.inl ⟨by rfl, ?_⟩) ?_; rotate_left; focus (intro w; go_simp; try with_reducible rfl)
        refine wpAny_ready (rs := [6]) (by kernel_rfl) (by simp) ?_
        refine AllReady.cons rfl (fun K hK => ?_) AllReady.nil
        have z1 := RowIs.cell (j := 2) hS0 rfl
        have z9 := RowIs.frozen hS0 2
        have z8 := hS0.lt
        go_simp
        refine hK _ _ ?_; clear hK K z1 z9 z8
        obtain ⟨V, hV⟩ : ∃ V, u1.setCell ⟨b, 2, none⟩ (.int .i64 (1 + m + z)) = V := ⟨_, rfl⟩
        replace RB : RowIs V b 25 [.int .i64 r, .int .i64 (1 + m), .int .i64 (1 + m + z), .int .i64 a] := by rw [← hV]; exact hS0.set 2 _
        replace R2 : RowIs V w.heap.size 25 [.int .i64 0, .int .i64 0, .int .i64 0, .int .i64 0] := by rw [← hV]; exact R2d.far ⟨b, 2, none⟩ _ (by show b ≠ w.heap.size; omega)
        replace hm : Moves g w V := by rw [← hV]; exact hmd.setNew ⟨b, 2, none⟩ (by show w.heap.size ≤ b; omega) _
        replace hc : Cur V g B := by rw [← hV]; exact hcd.set ⟨b, 2, none⟩ _ (by show g < b; omega)
        rw [hV]
        clear hV hS0 R2d hmd hcd
        refine wpAny_done (by kernel_rfl) ?_ _
        have x0 := RowIs.cell (j := 0) RB rfl; have x1 := RowIs.cell (j := 1) RB rfl; have x2 := RowIs.cell (j := 2) RB rfl; have x3 := RowIs.cell (j := 3) RB rfl; have x9 := fun j => RowIs.frozen RB j; have x8 := RB.lt
        have y0 := RowIs.cell (j := 0) R2 rfl; have y1 := RowIs.cell (j := 1) R2 rfl; have y2 := RowIs.cell (j := 2) R2 rfl; have y3 := RowIs.cell (j := 3) R2 rfl; have y9 := fun j => RowIs.frozen R2 j; have y8 := R2.lt
        go_wp2_with fail
        refine bodyPost_ret (v := .agg #[.int .i64 r, .int .i64 (1 + m), .int .i64 (1 + m + z), .int .i64 a]) (by simp [results, Try.results25, go_sem, *]) rfl ?_
        exact ⟨⟨r, (1 + m), (1 + m + z), a⟩, rfl, by repeat' (first | (with_reducible exact hc) | (with_reducible refine Cur.set ?_ _ _ ?_) | (with_reducible refine Cur.alloc ?_ _) | (with_reducible refine Cur.drewN ?_ _) | (with_reducible refine Cur.drew ?_) | omega | (simp; done) | (simp; omega)), by repeat' (first | (with_reducible exact hm) | (with_reducible refine Moves.setNew ?_ _ ?_ _) | (with_reducible refine Moves.alloc ?_ _) | (with_reducible refine Moves.drewN _ ?_) | (with_reducible refine Moves.drew ?_) | omega | (simp; done) | (simp; omega))⟩
      · skip
        go_simp
        refine (from1 g B 0 2 _ hcd (by omega) (by omega) (by omega)).mono ?_; rintro e u1 ⟨z, z0, z2, rfl, hcx, hmx⟩
        replace hS0 := hS0.moves hmx hbg
        replace R2d := R2d.moves hmx hwg
        replace hmd := hmd.trans hmx
        replace hcd := hcx
        clear hmx hcx
        refine hK _ _ ?_; clear hK K
        have wz := wm z z0 z2
        refine wpAny_ready (rs := [1]) (by kernel_rfl) (by simp) ?_
        refine AllReady.cons rfl (fun K hK => ?_) AllReady.nil
        have z1 := RowIs.cell (j := 1) hS0 rfl
        go_simp
        refine hK _ _ ?_; clear hK K z1
        refine wpAny_take (i := 4) (v := ?_) rfl (by kernel_rfl) (by kernel_rfl) (by kernel_rfl) (fun _ _ _ h => h) (Or.inl ⟨by rfl, ?_⟩) ?_; rotate_left; focus (intro w; go_simp; try with_reducible rfl)
        refine wpAny_take (i := 5) (v := ?_) rfl (by kernel_rfl) (by kernel_rfl) (by kernel_rfl) (fun _ _ _ h => h) (Or.inl ⟨by rfl, ?_⟩) ?_; rotate_left; focus (intro w; go_simp; try with_reducible rfl)
        refine wpAny_ready (rs := [6]) (by kernel_rfl) (by simp) ?_
        refine AllReady.cons rfl (fun K hK => ?_) AllReady.nil
        have z1 := RowIs.cell (j := 2) hS0 rfl
        have z9 := RowIs.frozen hS0 2
        have z8 := hS0.lt
        go_simp
        refine hK _ _ ?_; clear hK K z1 z9 z8
        obtain ⟨V, hV⟩ : ∃ V, u1.setCell ⟨b, 2, none⟩ (.int .i64 (1 + m + z)) = V := ⟨_, rfl⟩
        replace RB : RowIs V b 25 [.int .i64 r, .int .i64 (1 + m), .int .i64 (1 + m + z), .int .i64 a] := by rw [← hV]; exact hS0.set 2 _
        replace R2 : RowIs V w.heap.size 25 [.int .i64 0, .int .i64 0, .int .i64 0, .int .i64 0] := by rw [← hV]; exact R2d.far ⟨b, 2, none⟩ _ (by show b ≠ w.heap.size; omega)
        replace hm : Moves g w V := by rw [← hV]; exact hmd.setNew ⟨b, 2, none⟩ (by show w.heap.size ≤ b; omega) _
        replace hc : Cur V g B := by rw [← hV]; exact hcd.set ⟨b, 2, none⟩ _ (by show g < b; omega)
        rw [hV]
        clear hV hS0 R2d hmd hcd
        refine wpAny_done (by kernel_rfl) ?_ _
        have x0 := RowIs.cell (j := 0) RB rfl; have x1 := RowIs.cell (j := 1) RB rfl; have x2 := RowIs.cell (j := 2) RB rfl; have x3 := RowIs.cell (j := 3) RB rfl; have x9 := fun j => RowIs.frozen RB j; have x8 := RB.lt
        have y0 := RowIs.cell (j := 0) R2 rfl; have y1 := RowIs.cell (j := 1) R2 rfl; have y2 := RowIs.cell (j := 2) R2 rfl; have y3 := RowIs.cell (j := 3) R2 rfl; have y9 := fun j => RowIs.frozen R2 j; have y8 := R2.lt
        go_wp2_with fail
        refine bodyPost_ret (v := .agg #[.int .i64 r, .int .i64 (1 + m), .int .i64 (1 + m + z), .int .i64 a]) (by simp [results, Try.results25, go_sem, *]) rfl ?_
        exact ⟨⟨r, (1 + m), (1 + m + z), a⟩, rfl, by repeat' (first | (with_reducible exact hc) | (with_reducible refine Cur.set ?_ _ _ ?_) | (with_reducible refine Cur.alloc ?_ _) | (with_reducible refine Cur.drewN ?_ _) | (with_reducible refine Cur.drew ?_) | omega | (simp; done) | (simp; omega)), by repeat' (first | (with_reducible exact hm) | (with_reducible refine Moves.setNew ?_ _ ?_ _) | (with_reducible refine Moves.alloc ?_ _) | (with_reducible refine Moves.drewN _ ?_) | (with_reducible refine Moves.drew ?_) | omega | (simp; done) | (simp; omega))⟩
    · skip
      go_wp2_with fail
      obtain ⟨V, hV⟩ : ∃ V, w6.alloc (.cells #[.int .i64 (-1), .int .i64 1000000, .int .i64 1000001] 2) = V := ⟨_, rfl⟩
      have RA : RowIs V w6.heap.size 2 [.int .i64 (-1), .int .i64 1000000, .int .i64 1000001] := by rw [← hV]; exact rowIs_new w6 _ _
      have hl6 := RB.lt
      have hcl := hc.lt
      replace RB : RowIs V b 25 [.int .i64 r, .int .i64 (1 + m), .int .i64 l, .int .i64 a] := by rw [← hV]; exact RB.alloc _
      replace R2 : RowIs V w.heap.size 25 [.int .i64 0, .int .i64 0, .int .i64 0, .int .i64 0] := by rw [← hV]; exact R2.alloc _
      replace hm : Moves g w V := by rw [← hV]; exact hm.alloc _
      replace hc : Cur V g B := by rw [← hV]; exact hc.alloc _
      rw [hV]
      clear hV
      obtain ⟨ga, hga⟩ : ∃ ga, ga = w6.heap.size := ⟨_, rfl⟩
      rw [← hga] at RA hl6 hcl ⊢
      clear hga
      refine (below1 g B 3 _ hc (by omega)).mono ?_; rintro e w7 ⟨q, q0, q1, _, rfl, hcx, hmx⟩
      replace R2 := R2.moves hmx (by omega)
      replace RB := RB.moves hmx (by omega)
      replace RA := RA.moves hmx (by omega)
      replace hm := hm.trans hmx
      replace hc := hcx
      clear hmx hcx
      have q4 := q1 (by omega)
      clear q1
      have hq : q = 0 ∨ q = 1 ∨ q = 2 := by omega
      rcases hq with rfl | rfl | rfl
      · skip
        have q5 := RowIs.cell (j := 0) RA rfl
        have q6 := RA.lt
        clear RA
        have x0 := RowIs.cell (j := 0) RB rfl; have x1 := RowIs.cell (j := 1) RB rfl; have x2 := RowIs.cell (j := 2) RB rfl; have x3 := RowIs.cell (j := 3) RB rfl; have x9 := fun j => RowIs.frozen RB j; have x8 := RB.lt
        have y0 := RowIs.cell (j := 0) R2 rfl; have y1 := RowIs.cell (j := 1) R2 rfl; have y2 := RowIs.cell (j := 2) R2 rfl; have y3 := RowIs.cell (j := 3) R2 rfl; have y9 := fun j => RowIs.frozen R2 j; have y8 := R2.lt
        go_wp2_with fail
        refine bodyPost_ret (v := .agg #[.int .i64 r, .int .i64 (1 + m), .int .i64 l, .int .i64 (-1)]) (by simp [results, Try.results25, go_sem, *]) rfl ?_
        exact ⟨⟨r, (1 + m), l, (-1)⟩, rfl, by repeat' (first | (with_reducible exact hc) | (with_reducible refine Cur.set ?_ _ _ ?_) | (with_reducible refine Cur.alloc ?_ _) | (with_reducible refine Cur.drewN ?_ _) | (with_reducible refine Cur.drew ?_) | omega | (simp; done) | (simp; omega)), by repeat' (first | (with_reducible exact hm) | (with_reducible refine Moves.setNew ?_ _ ?_ _) | (with_reducible refine Moves.alloc ?_ _) | (with_reducible refine Moves.drewN _ ?_) | (with_reducible refine Moves.drew ?_) | omega | (simp; done) | (simp; omega))⟩
      · skip
        have q5 := RowIs.cell (j := 1) RA rfl
        have q6 := RA.lt
        clear RA
        have x0 := RowIs.cell (j := 0) RB rfl; have x1 := RowIs.cell (j := 1) RB rfl; have x2 := RowIs.cell (j := 2) RB rfl; have x3 := RowIs.cell (j := 3) RB rfl; have x9 := fun j => RowIs.frozen RB j; have x8 := RB.lt
        have y0 := RowIs.cell (j := 0) R2 rfl; have y1 := RowIs.cell (j := 1) R2 rfl; have y2 := RowIs.cell (j := 2) R2 rfl; have y3 := RowIs.cell (j := 3) R2 rfl; have y9 := fun j => RowIs.frozen R2 j; have y8 := R2.lt
        go_wp2_with fail
        refine bodyPost_ret (v := .agg #[.int .i64 r, .int .i64 (1 + m), .int .i64 l, .int .i64 1000000]) (by simp [results, Try.results25, go_sem, *]) rfl ?_
        exact ⟨⟨r, (1 + m), l, 1000000⟩, rfl, by repeat' (first | (with_reducible exact hc) | (with_reducible refine Cur.set ?_ _ _ ?_) | (with_reducible refine Cur.alloc ?_ _) | (with_reducible refine Cur.drewN ?_ _) | (with_reducible refine Cur.drew ?_) | omega | (simp; done) | (simp; omega)), by repeat' (first | (with_reducible exact hm) | (with_reducible refine Moves.setNew ?_ _ ?_ _) | (with_reducible refine Moves.alloc ?_ _) | (with_reducible refine Moves.drewN _ ?_) | (with_reducible refine Moves.drew ?_) | omega | (simp; done) | (simp; omega))⟩
      · skip
        have q5 := RowIs.cell (j := 2) RA rfl
        have q6 := RA.lt
        clear RA
        have x0 := RowIs.cell (j := 0) RB rfl; have x1 := RowIs.cell (j := 1) RB rfl; have x2 := RowIs.cell (j := 2) RB rfl; have x3 := RowIs.cell (j := 3) RB rfl; have x9 := fun j => RowIs.frozen RB j; have x8 := RB.lt
        have y0 := RowIs.cell (j := 0) R2 rfl; have y1 := RowIs.cell (j := 1) R2 rfl; have y2 := RowIs.cell (j := 2) R2 rfl; have y3 := RowIs.cell (j := 3) R2 rfl; have y9 := fun j => RowIs.frozen R2 j; have y8 := R2.lt
        go_wp2_with fail
        refine bodyPost_ret (v := .agg #[.int .i64 r, .int .i64 (1 + m), .int .i64 l, .int .i64 1000001]) (by simp [results, Try.results25, go_sem, *]) rfl ?_
        exact ⟨⟨r, (1 + m), l, 1000001⟩, rfl, by repeat' (first | (with_reducible exact hc) | (with_reducible refine Cur.set ?_ _ _ ?_) | (with_reducible refine Cur.alloc ?_ _) | (with_reducible refine Cur.drewN ?_ _) | (with_reducible refine Cur.drew ?_) | omega | (simp; done) | (simp; omega)), by repeat' (first | (with_reducible exact hm) | (with_reducible refine Moves.setNew ?_ _ ?_ _) | (with_reducible refine Moves.alloc ?_ _) | (with_reducible refine Moves.drewN _ ?_) | (with_reducible refine Moves.drew ?_) | omega | (simp; done) | (simp; omega))⟩
set_option maxHeartbeats 2000000 in
theorem drawNow (g B : Nat) (at' : Int) (w : World) (hc : Cur w g B) :
    Calls Try.prog 26 #[.pointer (some ⟨g, 0, none⟩), .int .i64 at'] w fun e w' => ∃ z : Int, e = .returned (.int .i64 z) ∧ Cur w' g B ∧ Moves g w w' := by
  go_enter Try.func26, Try.ntmps26
  go_wp2_with fail
  refine (once1 g B 10 _ hc (by omega)).mono ?_; rintro e w1 ⟨vb, rfl, hc1, hm⟩
  cases vb
  · obtain ⟨q, hq⟩ : ∃ q, (if (1000 : Int) < at' then 1000 else at') = q := ⟨_, rfl⟩
    have q0 : q ≤ 1000 := by rw [← hq]; split <;> omega
    obtain ⟨q', hq'⟩ : ∃ q', (if (0 : Int) > q then 0 else q) = q' := ⟨_, rfl⟩
    have q1 : 0 ≤ q' ∧ q' ≤ 1000 := by rw [← hq']; split <;> omega
    obtain ⟨q2, q3⟩ := q1
    go_wp2_with fail
    refine (specMin _ _ _).mono ?_; rw [hq]; rintro e w2 ⟨rfl, hsame⟩; obtain rfl := hsame.symm; clear hsame
    go_wp2_with fail
    refine (specMax _ _ _).mono ?_; rw [hq']; rintro e w2 ⟨rfl, hsame⟩; obtain rfl := hsame.symm; clear hsame
    clear hq hq'
    go_wp2_with fail
    refine (from1 g B (-2) 14 _ hc1 (by omega) (by omega) (by omega)).mono ?_; rintro e w3 ⟨z, z0, z1, rfl, hc3, hm3⟩
    go_wp2_with fail
    go_ret
    exact ⟨_, rfl, hc3, hm.trans hm3⟩
  · go_wp2_with fail
    obtain ⟨V, hV⟩ : ∃ V, w1.alloc (.cells #[.int .i64 (-1), .int .i64 1000000, .int .i64 1000001, .int .i64 4611686018427387904] 2) = V := ⟨_, rfl⟩
    have RA : RowIs V w1.heap.size 2 [.int .i64 (-1), .int .i64 1000000, .int .i64 1000001, .int .i64 4611686018427387904] := by rw [← hV]; exact rowIs_new w1 _ _
    have hcl := hc1.lt
    replace hm : Moves g w V := by rw [← hV]; exact hm.alloc _
    replace hc1 : Cur V g B := by rw [← hV]; exact hc1.alloc _
    rw [hV]
    clear hV
    refine (below1 g B 4 _ hc1 (by omega)).mono ?_; rintro e w2 ⟨k, k0, k1, _, rfl, hc2, hm2⟩
    have k4 := k1 (by omega)
    replace RA := RA.moves hm2 (by omega)
    have hk : k = 0 ∨ k = 1 ∨ k = 2 ∨ k = 3 := by omega
    rcases hk with rfl | rfl | rfl | rfl
    · have q5 := RowIs.cell (j := 0) RA rfl
      have q6 := RA.lt
      clear RA
      go_wp2_with fail
      go_ret
      exact ⟨_, rfl, hc2, hm.trans hm2⟩
    · have q5 := RowIs.cell (j := 1) RA rfl
      have q6 := RA.lt
      clear RA
      go_wp2_with fail
      go_ret
      exact ⟨_, rfl, hc2, hm.trans hm2⟩
    · have q5 := RowIs.cell (j := 2) RA rfl
      have q6 := RA.lt
      clear RA
      go_wp2_with fail
      go_ret
      exact ⟨_, rfl, hc2, hm.trans hm2⟩
    · have q5 := RowIs.cell (j := 3) RA rfl
      have q6 := RA.lt
      clear RA
      go_wp2_with fail
      go_ret
      exact ⟨_, rfl, hc2, hm.trans hm2⟩
set_option maxHeartbeats 2000000 in
theorem drawFilled (a : Option Addr) (len cap : Nat) (w : World) (hl : len ≤ 4096) (hcode : CodeAt w a len w.heap.size) :
    Calls Try.prog 10 #[.slice a len cap] w fun e w' => ∃ (b : Bk) (z : Int), e = .returned (.tuple #[bv b, .int .i64 z]) ∧ Below w.heap.size w w' := by
  go_enter Try.func10, Try.ntmps10
  go_wp2_with fail
  generalize hV : w.alloc (.cells #[.int .i64 0, .int .i64 0, .int .i64 0, .int .i64 0] 25) = V
  have hbV : Below w.heap.size w V := by rw [← hV]; exact (Below.refl _ _).alloc (Nat.le_refl _) _
  have R2 : RowIs V w.heap.size 25 [.int .i64 0, .int .i64 0, .int .i64 0, .int .i64 0] := by rw [← hV]; exact rowIs_new w _ _
  have hlZ := R2.lt
  clear hV
  refine (new1 a len cap _ hl (hcode.behind hbV)).mono ?_; rintro x w1 ⟨g, rfl, hg, hc, hb1⟩
  replace R2 := R2.new hb1
  have hB := bchain hbV hb1
  clear hb1 hbV hcode
  have hgw : w.heap.size < g := by omega
  have hwg : w.heap.size ≠ g := by omega
  go_wp2_with fail
  refine (draw12 g _ _ hc).mono ?_; rintro x w2 ⟨⟨r, m, l, t⟩, rfl, hc2, hm2⟩
  replace R2 := R2.moves hm2 hwg
  replace hB : Below w.heap.size w w2 := hB.trans (hm2.below (by omega) hB.size)
  replace hc := hc2
  clear hm2 hc2
  dsimp only [bv]
  have hcl := hc.lt
  go_wp2_with fail
  obtain ⟨V, hV⟩ : ∃ V, w2.alloc (.cells #[.int .i64 r, .int .i64 m, .int .i64 l, .int .i64 t] 25) = V := ⟨_, rfl⟩
  have RB : RowIs V w2.heap.size 25 [.int .i64 r, .int .i64 m, .int .i64 l, .int .i64 t] := by rw [← hV]; exact rowIs_new w2 _ _
  replace R2 : RowIs V w.heap.size 25 [.int .i64 0, .int .i64 0, .int .i64 0, .int .i64 0] := by rw [← hV]; exact R2.alloc _
  have hBs := hB.size
  replace hB : Below w.heap.size w V := by rw [← hV]; exact hB.alloc (by omega) _
  have hc' := hc.alloc (.cells #[.int .i64 r, .int .i64 m, .int .i64 l, .int .i64 t] 25)
  rw [hV] at hc'
  replace hc := hc'
  clear hc'
  first | rw [hV] | skip
  clear hV
  obtain ⟨b, hb⟩ : ∃ b, b = w2.heap.size := ⟨_, rfl⟩
  rw [← hb] at RB ⊢
  have hbw : w.heap.size < b := by omega
  have hbg : b ≠ g := by omega
  clear hb hBs hcl
  refine wp_region_held_drew (S := (fun u => RowIs u b 25 [.int .i64 r, .int .i64 m, .int .i64 l, .int .i64 t])) (by kernel_rfl) (show RowIs _ _ _ _ from RB) (fun hS => ?_)
  clear RB
  refine wpAnyH_take (i := 0) (v := ?_) rfl (by kernel_rfl) (by kernel_rfl) (by kernel_rfl) (fun _ _ _ h => h) (Or.inl ⟨by rfl, ?_⟩) hS ?_; rotate_left; focus (intro w hw; have q0 := RowIs.cell (j := 0) hw rfl; have q1 := RowIs.cell (j := 1) hw rfl; have q2 := RowIs.cell (j := 2) hw rfl; have q3 := RowIs.cell (j := 3) hw rfl; have q9 := fun j => RowIs.frozen hw j; have q8 := hw.lt; clear hw; go_simp; try with_reducible rfl)
  refine wpAnyH_take (i := 1) (v := ?_) rfl (by kernel_rfl) (by kernel_rfl) (by kernel_rfl) (fun _ _ _ h => h) (Or.inl ⟨by rfl, ?_⟩) hS ?_; rotate_left; focus (intro w hw; clear hw; go_simp; try with_reducible rfl)
  refine wpAnyH_take (i := 2) (v := ?_) rfl (by kernel_rfl) (by kernel_rfl) (by kernel_rfl) (fun _ _ _ h => h) (Or.inl ⟨by rfl, ?_⟩) hS ?_; rotate_left; focus (intro w hw; clear hw; go_simp; try with_reducible rfl)
  refine wpAnyH_take (i := 3) (v := ?_) rfl (by kernel_rfl) (by kernel_rfl) (by kernel_rfl) (fun _ _ _ h => h) (Or.inl ⟨by rfl, ?_⟩) hS ?_; rotate_left; focus (intro w hw; have q0 := RowIs.cell (j := 0) hw rfl; have q1 := RowIs.cell (j := 1) hw rfl; have q2 := RowIs.cell (j := 2) hw rfl; have q3 := RowIs.cell (j := 3) hw rfl; have q9 := fun j => RowIs.frozen hw j; have q8 := hw.lt; clear hw; go_simp; try with_reducible rfl)
  refine wpAnyH_ready (rs := [4]) (by kernel_rfl) (by simp) ?_; refine AllReadyH.cons rfl (fun K hK => ?_) AllReadyH.nil; go_simp
  refine (drawNow g _ t _ hc.drew).mono ?_; rintro e u1 ⟨z, rfl, hcx, hmx⟩
  replace R2 := RowIs.moves (w := V.drew) R2 hmx hwg
  replace hB := hB.drew.trans (hmx.below (by omega) (by simpa using hB.size))
  refine hK.out _ _ (hS.moves hmx hbg) (fun hS => ?_)
  clear hK K hmx hcx
  have y0 := RowIs.cell (j := 0) R2 rfl; have y1 := RowIs.cell (j := 1) R2 rfl; have y2 := RowIs.cell (j := 2) R2 rfl; have y3 := RowIs.cell (j := 3) R2 rfl; have y9 := fun j => RowIs.frozen R2 j; have y8 := R2.lt
  refine wpAnyH_ready (rs := [5]) (by kernel_rfl) (by simp) ?_; refine AllReadyH.cons rfl (fun K hK => ?_) AllReadyH.nil; go_simp
  have S4 := ((((hS.far ⟨w.heap.size, 0, none⟩ (.int .i64 r) (by show w.heap.size ≠ b; omega)).far ⟨w.heap.size, 1, none⟩ (.int .i64 m) (by show w.heap.size ≠ b; omega)).far ⟨w.heap.size, 2, none⟩ (.int .i64 l) (by show w.heap.size ≠ b; omega)).far ⟨w.heap.size, 3, none⟩ (.int .i64 t) (by show w.heap.size ≠ b; omega))
  have R4 : RowIs ((((u1.setCell ⟨w.heap.size, 0, none⟩ (.int .i64 r)).setCell ⟨w.heap.size, 1, none⟩ (.int .i64 m)).setCell ⟨w.heap.size, 2, none⟩ (.int .i64 l)).setCell ⟨w.heap.size, 3, none⟩ (.int .i64 t)) w.heap.size 25 [.int .i64 r, .int .i64 m, .int .i64 l, .int .i64 t] := (((R2.set 0 _).set 1 _).set 2 _).set 3 _
  have B4 : Below w.heap.size w ((((u1.setCell ⟨w.heap.size, 0, none⟩ (.int .i64 r)).setCell ⟨w.heap.size, 1, none⟩ (.int .i64 m)).setCell ⟨w.heap.size, 2, none⟩ (.int .i64 l)).setCell ⟨w.heap.size, 3, none⟩ (.int .i64 t)) := (((hB.setCell (p := ⟨w.heap.size, 0, none⟩) (Nat.le_refl _) _).setCell (p := ⟨w.heap.size, 1, none⟩) (Nat.le_refl _) _).setCell (p := ⟨w.heap.size, 2, none⟩) (Nat.le_refl _) _).setCell (p := ⟨w.heap.size, 3, none⟩) (Nat.le_refl _) _
  refine hK.out _ _ S4 (fun hS => ?_)
  clear hK K S4
  clear y0 y1 y2 y3 y9 y8
  generalize ((((u1.setCell ⟨w.heap.size, 0, none⟩ (.int .i64 r)).setCell ⟨w.heap.size, 1, none⟩ (.int .i64 m)).setCell ⟨w.heap.size, 2, none⟩ (.int .i64 l)).setCell ⟨w.heap.size, 3, none⟩ (.int .i64 t)) = u2 at *
  refine wpAnyH_take (i := 6) (v := ?_) rfl (by kernel_rfl) (by kernel_rfl) (by kernel_rfl) (fun _ _ _ h => h) (Or.inl ⟨by rfl, ?_⟩) hS ?_; rotate_left; focus (intro w hw; clear hw; go_simp; try with_reducible rfl)
  refine wpAnyH_done (by kernel_rfl) ?_ _
  clear hS
  have y0 := RowIs.cell (j := 0) R4 rfl; have y1 := RowIs.cell (j := 1) R4 rfl; have y2 := RowIs.cell (j := 2) R4 rfl; have y3 := RowIs.cell (j := 3) R4 rfl; have y9 := fun j => RowIs.frozen R4 j; have y8 := R4.lt
  go_wp2_with fail
  refine bodyPost_ret (v := .tuple #[.agg #[.int .i64 r, .int .i64 m, .int .i64 l, .int .i64 t], .int .i64 z]) (by simp [results, Try.results10, go_sem, *]) rfl ?_
  exact ⟨⟨r, m, l, t⟩, z, rfl, B4⟩
set_option maxHeartbeats 2000000 in
theorem drawWhenFull (a : Option Addr) (len cap : Nat) (w : World) (hl : len ≤ 4096) (hcode : CodeAt w a len w.heap.size) :
    Calls Try.prog 12 #[.slice a len cap] w fun e w' => ∃ (b : Bk) (z : Int), e = .returned (.tuple #[bv b, .int .i64 z]) ∧ Below w.heap.size w w' := by
  go_enter Try.func12, Try.ntmps12
  go_wp2_with fail
  generalize hV : w.alloc (.cells #[.int .i64 0, .int .i64 0, .int .i64 0, .int .i64 0] 25) = V
  have hbV : Below w.heap.size w V := by rw [← hV]; exact (Below.refl _ _).alloc (Nat.le_refl _) _
  have R2 : RowIs V w.heap.size 25 [.int .i64 0, .int .i64 0, .int .i64 0, .int .i64 0] := by rw [← hV]; exact rowIs_new w _ _
  have hlZ := R2.lt
  clear hV
  refine (new1 a len cap _ hl (hcode.behind hbV)).mono ?_; rintro x w1 ⟨g, rfl, hg, hc, hb1⟩
  replace R2 := R2.new hb1
  have hB := bchain hbV hb1
  clear hb1 hbV hcode
  have hgw : w.heap.size < g := by omega
  have hwg : w.heap.size ≠ g := by omega
  go_wp2_with fail
  refine (draw12 g _ _ hc).mono ?_; rintro x w2 ⟨⟨r, m, l, t⟩, rfl, hc2, hm2⟩
  replace R2 := R2.moves hm2 hwg
  replace hB : Below w.heap.size w w2 := hB.trans (hm2.below (by omega) hB.size)
  replace hc := hc2
  clear hm2 hc2
  dsimp only [bv]
  have hcl := hc.lt
  go_wp2_with fail
  obtain ⟨V, hV⟩ : ∃ V, w2.alloc (.cells #[.int .i64 r, .int .i64 m, .int .i64 l, .int .i64 t] 25) = V := ⟨_, rfl⟩
  have RB : RowIs V w2.heap.size 25 [.int .i64 r, .int .i64 m, .int .i64 l, .int .i64 t] := by rw [← hV]; exact rowIs_new w2 _ _
  replace R2 : RowIs V w.heap.size 25 [.int .i64 0, .int .i64 0, .int .i64 0, .int .i64 0] := by rw [← hV]; exact R2.alloc _
  have hBs := hB.size
  replace hB : Below w.heap.size w V := by rw [← hV]; exact hB.alloc (by omega) _
  have hc' := hc.alloc (.cells #[.int .i64 r, .int .i64 m, .int .i64 l, .int .i64 t] 25)
  rw [hV] at hc'
  replace hc := hc'
  clear hc'
  first | rw [hV] | skip
  clear hV
  obtain ⟨b, hb⟩ : ∃ b, b = w2.heap.size := ⟨_, rfl⟩
  rw [← hb] at RB ⊢
  have hbw : w.heap.size < b := by omega
  have hbg : b ≠ g := by omega
  clear hb hBs hcl
  refine wp_region_held_drew (S := (fun u => RowIs u b 25 [.int .i64 r, .int .i64 m, .int .i64 l, .int .i64 t])) (by kernel_rfl) (show RowIs _ _ _ _ from RB) (fun hS => ?_)
  clear RB
  refine wpAnyH_take (i := 0) (v := ?_) rfl (by kernel_rfl) (by kernel_rfl) (by kernel_rfl) (fun _ _ _ h => h) (Or.inl ⟨by rfl, ?_⟩) hS ?_; rotate_left; focus (intro w hw; have q0 := RowIs.cell (j := 0) hw rfl; have q1 := RowIs.cell (j := 1) hw rfl; have q2 := RowIs.cell (j := 2) hw rfl; have q3 := RowIs.cell (j := 3) hw rfl; have q9 := fun j => RowIs.frozen hw j; have q8 := hw.lt; clear hw; go_simp; try with_reducible rfl)
  refine wpAnyH_take (i := 1) (v := ?_) rfl (by kernel_rfl) (by kernel_rfl) (by kernel_rfl) (fun _ _ _ h => h) (Or.inl ⟨by rfl, ?_⟩) hS ?_; rotate_left; focus (intro w hw; clear hw; go_simp; try with_reducible rfl)
  refine wpAnyH_ready (rs := [2]) (by kernel_rfl) (by simp) ?_; refine AllReadyH.cons rfl (fun K hK => ?_) AllReadyH.nil; go_simp
  refine (from1 g _ (-1) 44 _ hc.drew (by omega) (by omega) (by omega)).mono ?_; rintro e u1 ⟨z, z0, z1, rfl, hcx, hmx⟩
  replace R2 := RowIs.moves (w := V.drew) R2 hmx hwg
  replace hB := hB.drew.trans (hmx.below (by omega) (by simpa using hB.size))
  refine hK.out _ _ (hS.moves hmx hbg) (fun hS => ?_)
  clear hK K hmx hcx
  have y0 := RowIs.cell (j := 0) R2 rfl; have y1 := RowIs.cell (j := 1) R2 rfl; have y2 := RowIs.cell (j := 2) R2 rfl; have y3 := RowIs.cell (j := 3) R2 rfl; have y9 := fun j => RowIs.frozen R2 j; have y8 := R2.lt
  refine wpAnyH_ready (rs := [3]) (by kernel_rfl) (by simp) ?_; refine AllReadyH.cons rfl (fun K hK => ?_) AllReadyH.nil; go_simp
  have S4 := ((((hS.far ⟨w.heap.size, 0, none⟩ (.int .i64 r) (by show w.heap.size ≠ b; omega)).far ⟨w.heap.size, 1, none⟩ (.int .i64 m) (by show w.heap.size ≠ b; omega)).far ⟨w.heap.size, 2, none⟩ (.int .i64 l) (by show w.heap.size ≠ b; omega)).far ⟨w.heap.size, 3, none⟩ (.int .i64 t) (by show w.heap.size ≠ b; omega))
  have R4 : RowIs ((((u1.setCell ⟨w.heap.size, 0, none⟩ (.int .i64 r)).setCell ⟨w.heap.size, 1, none⟩ (.int .i64 m)).setCell ⟨w.heap.size, 2, none⟩ (.int .i64 l)).setCell ⟨w.heap.size, 3, none⟩ (.int .i64 t)) w.heap.size 25 [.int .i64 r, .int .i64 m, .int .i64 l, .int .i64 t] := (((R2.set 0 _).set 1 _).set 2 _).set 3 _
  have B4 : Below w.heap.size w ((((u1.setCell ⟨w.heap.size, 0, none⟩ (.int .i64 r)).setCell ⟨w.heap.size, 1, none⟩ (.int .i64 m)).setCell ⟨w.heap.size, 2, none⟩ (.int .i64 l)).setCell ⟨w.heap.size, 3, none⟩ (.int .i64 t)) := (((hB.setCell (p := ⟨w.heap.size, 0, none⟩) (Nat.le_refl _) _).setCell (p := ⟨w.heap.size, 1, none⟩) (Nat.le_refl _) _).setCell (p := ⟨w.heap.size, 2, none⟩) (Nat.le_refl _) _).setCell (p := ⟨w.heap.size, 3, none⟩) (Nat.le_refl _) _
  refine hK.out _ _ S4 (fun hS => ?_)
  clear hK K S4
  clear y0 y1 y2 y3 y9 y8
  generalize ((((u1.setCell ⟨w.heap.size, 0, none⟩ (.int .i64 r)).setCell ⟨w.heap.size, 1, none⟩ (.int .i64 m)).setCell ⟨w.heap.size, 2, none⟩ (.int .i64 l)).setCell ⟨w.heap.size, 3, none⟩ (.int .i64 t)) = u2 at *
  refine wpAnyH_take (i := 4) (v := ?_) rfl (by kernel_rfl) (by kernel_rfl) (by kernel_rfl) (fun _ _ _ h => h) (Or.inl ⟨by rfl, ?_⟩) hS ?_; rotate_left; focus (intro w hw; clear hw; go_simp; try with_reducible rfl)
  refine wpAnyH_done (by kernel_rfl) ?_ _
  clear hS
  have y0 := RowIs.cell (j := 0) R4 rfl; have y1 := RowIs.cell (j := 1) R4 rfl; have y2 := RowIs.cell (j := 2) R4 rfl; have y3 := RowIs.cell (j := 3) R4 rfl; have y9 := fun j => RowIs.frozen R4 j; have y8 := R4.lt
  go_wp2_with fail
  refine bodyPost_ret (v := .tuple #[.agg #[.int .i64 r, .int .i64 m, .int .i64 l, .int .i64 t], .int .i64 z]) (by simp [results, Try.results12, go_sem, *]) rfl ?_
  exact ⟨⟨r, m, l, t⟩, z, rfl, B4⟩
set_option maxHeartbeats 2000000 in
theorem drawPoured (a : Option Addr) (len cap : Nat) (w : World) (hl : len ≤ 4096) (hcode : CodeAt w a len w.heap.size) :
    Calls Try.prog 19 #[.slice a len cap] w fun e w' => ∃ (b : Bk) (z : Int) (n : Int), e = .returned (.tuple #[bv b, .int .i64 z, .int .i64 n]) ∧ Below w.heap.size w w' := by
  go_enter Try.func19, Try.ntmps19
  go_wp2_with fail
  generalize hV : w.alloc (.cells #[.int .i64 0, .int .i64 0, .int .i64 0, .int .i64 0] 25) = V
  have hbV : Below w.heap.size w V := by rw [← hV]; exact (Below.refl _ _).alloc (Nat.le_refl _) _
  have R2 : RowIs V w.heap.size 25 [.int .i64 0, .int .i64 0, .int .i64 0, .int .i64 0] := by rw [← hV]; exact rowIs_new w _ _
  have hlZ := R2.lt
  clear hV
  refine (new1 a len cap _ hl (hcode.behind hbV)).mono ?_; rintro x w1 ⟨g, rfl, hg, hc, hb1⟩
  replace R2 := R2.new hb1
  have hB := bchain hbV hb1
  clear hb1 hbV hcode
  have hgw : w.heap.size < g := by omega
  have hwg : w.heap.size ≠ g := by omega
  go_wp2_with fail
  refine (draw12 g _ _ hc).mono ?_; rintro x w2 ⟨⟨r, m, l, t⟩, rfl, hc2, hm2⟩
  replace R2 := R2.moves hm2 hwg
  replace hB : Below w.heap.size w w2 := hB.trans (hm2.below (by omega) hB.size)
  replace hc := hc2
  clear hm2 hc2
  dsimp only [bv]
  have hcl := hc.lt
  go_wp2_with fail
  obtain ⟨V, hV⟩ : ∃ V, w2.alloc (.cells #[.int .i64 r, .int .i64 m, .int .i64 l, .int .i64 t] 25) = V := ⟨_, rfl⟩
  have RB : RowIs V w2.heap.size 25 [.int .i64 r, .int .i64 m, .int .i64 l, .int .i64 t] := by rw [← hV]; exact rowIs_new w2 _ _
  replace R2 : RowIs V w.heap.size 25 [.int .i64 0, .int .i64 0, .int .i64 0, .int .i64 0] := by rw [← hV]; exact R2.alloc _
  have hBs := hB.size
  replace hB : Below w.heap.size w V := by rw [← hV]; exact hB.alloc (by omega) _
  have hc' := hc.alloc (.cells #[.int .i64 r, .int .i64 m, .int .i64 l, .int .i64 t] 25)
  rw [hV] at hc'
  replace hc := hc'
  clear hc'
  first | rw [hV] | skip
  clear hV
  obtain ⟨b, hb⟩ : ∃ b, b = w2.heap.size := ⟨_, rfl⟩
  rw [← hb] at RB ⊢
  have hbw : w.heap.size < b := by omega
  have hbg : b ≠ g := by omega
  clear hb hBs hcl
  have x0 := RowIs.cell (j := 0) RB rfl; have x1 := RowIs.cell (j := 1) RB rfl; have x2 := RowIs.cell (j := 2) RB rfl; have x3 := RowIs.cell (j := 3) RB rfl; have x9 := fun j => RowIs.frozen RB j; have x8 := RB.lt
  go_wp2_with fail
  clear x0 x1 x2 x3 x9 x8
  refine (drawNow g _ t _ hc).mono ?_; rintro x w4 ⟨z, rfl, hcx, hmx⟩
  replace RB := RB.moves hmx hbg
  replace R2 := R2.moves hmx hwg
  replace hB := hB.trans (hmx.below (by omega) (by simpa using hB.size))
  replace hc := hcx
  clear hmx hcx
  go_wp2_with fail
  refine wp_region_held_drew (S := (fun u => RowIs u b 25 [.int .i64 r, .int .i64 m, .int .i64 l, .int .i64 t])) (by kernel_rfl) (show RowIs _ _ _ _ from RB) (fun hS => ?_)
  clear RB
  refine wpAnyH_take (i := 0) (v := ?_) rfl (by kernel_rfl) (by kernel_rfl) (by kernel_rfl) (fun _ _ _ h => h) (Or.inl ⟨by rfl, ?_⟩) hS ?_; rotate_left; focus (intro w hw; have q0 := RowIs.cell (j := 0) hw rfl; have q1 := RowIs.cell (j := 1) hw rfl; have q2 := RowIs.cell (j := 2) hw rfl; have q3 := RowIs.cell (j := 3) hw rfl; have q9 := fun j => RowIs.frozen hw j; have q8 := hw.lt; clear hw; go_simp; try with_reducible rfl)
  refine wpAnyH_take (i := 1) (v := ?_) rfl (by kernel_rfl) (by kernel_rfl) (by kernel_rfl) (fun _ _ _ h => h) (Or.inl ⟨by rfl, ?_⟩) hS ?_; rotate_left; focus (intro w hw; clear hw; go_simp; try with_reducible rfl)
  refine wpAnyH_take (i := 2) (v := ?_) rfl (by kernel_rfl) (by kernel_rfl) (by kernel_rfl) (fun _ _ _ h => h) (Or.inl ⟨by rfl, ?_⟩) hS ?_; rotate_left; focus (intro w hw; clear hw; go_simp; try with_reducible rfl)
  refine wpAnyH_ready (rs := [3]) (by kernel_rfl) (by simp) ?_; refine AllReadyH.cons rfl (fun K hK => ?_) AllReadyH.nil; go_simp
  refine (from1 g _ (-1) 30 _ hc.drew (by omega) (by omega) (by omega)).mono ?_; rintro e u1 ⟨n, n0, n1, rfl, hcx, hmx⟩
  replace R2 := RowIs.moves (w := w4.drew) R2 hmx hwg
  replace hB := hB.drew.trans (hmx.below (by omega) (by simpa using hB.size))
  refine hK.out _ _ (hS.moves hmx hbg) (fun hS => ?_)
  clear hK K hmx hcx
  have y0 := RowIs.cell (j := 0) R2 rfl; have y1 := RowIs.cell (j := 1) R2 rfl; have y2 := RowIs.cell (j := 2) R2 rfl; have y3 := RowIs.cell (j := 3) R2 rfl; have y9 := fun j => RowIs.frozen R2 j; have y8 := R2.lt
  refine wpAnyH_ready (rs := [4]) (by kernel_rfl) (by simp) ?_; refine AllReadyH.cons rfl (fun K hK => ?_) AllReadyH.nil; go_simp
  have S4 := ((((hS.far ⟨w.heap.size, 0, none⟩ (.int .i64 r) (by show w.heap.size ≠ b; omega)).far ⟨w.heap.size, 1, none⟩ (.int .i64 m) (by show w.heap.size ≠ b; omega)).far ⟨w.heap.size, 2, none⟩ (.int .i64 l) (by show w.heap.size ≠ b; omega)).far ⟨w.heap.size, 3, none⟩ (.int .i64 t) (by show w.heap.size ≠ b; omega))
  have R4 : RowIs ((((u1.setCell ⟨w.heap.size, 0, none⟩ (.int .i64 r)).setCell ⟨w.heap.size, 1, none⟩ (.int .i64 m)).setCell ⟨w.heap.size, 2, none⟩ (.int .i64 l)).setCell ⟨w.heap.size, 3, none⟩ (.int .i64 t)) w.heap.size 25 [.int .i64 r, .int .i64 m, .int .i64 l, .int .i64 t] := (((R2.set 0 _).set 1 _).set 2 _).set 3 _
  have B4 : Below w.heap.size w ((((u1.setCell ⟨w.heap.size, 0, none⟩ (.int .i64 r)).setCell ⟨w.heap.size, 1, none⟩ (.int .i64 m)).setCell ⟨w.heap.size, 2, none⟩ (.int .i64 l)).setCell ⟨w.heap.size, 3, none⟩ (.int .i64 t)) := (((hB.setCell (p := ⟨w.heap.size, 0, none⟩) (Nat.le_refl _) _).setCell (p := ⟨w.heap.size, 1, none⟩) (Nat.le_refl _) _).setCell (p := ⟨w.heap.size, 2, none⟩) (Nat.le_refl _) _).setCell (p := ⟨w.heap.size, 3, none⟩) (Nat.le_refl _) _
  refine hK.out _ _ S4 (fun hS => ?_)
  clear hK K S4
  clear y0 y1 y2 y3 y9 y8
  generalize ((((u1.setCell ⟨w.heap.size, 0, none⟩ (.int .i64 r)).setCell ⟨w.heap.size, 1, none⟩ (.int .i64 m)).setCell ⟨w.heap.size, 2, none⟩ (.int .i64 l)).setCell ⟨w.heap.size, 3, none⟩ (.int .i64 t)) = u2 at *
  refine wpAnyH_take (i := 5) (v := ?_) rfl (by kernel_rfl) (by kernel_rfl) (by kernel_rfl) (fun _ _ _ h => h) (Or.inl ⟨by rfl, ?_⟩) hS ?_; rotate_left; focus (intro w hw; clear hw; go_simp; try with_reducible rfl)
  refine wpAnyH_take (i := 6) (v := ?_) rfl (by kernel_rfl) (by kernel_rfl) (by kernel_rfl) (fun _ _ _ h => h) (Or.inl ⟨by rfl, ?_⟩) hS ?_; rotate_left; focus (intro w hw; clear hw; go_simp; try with_reducible rfl)
  refine wpAnyH_done (by kernel_rfl) ?_ _
  clear hS
  have y0 := RowIs.cell (j := 0) R4 rfl; have y1 := RowIs.cell (j := 1) R4 rfl; have y2 := RowIs.cell (j := 2) R4 rfl; have y3 := RowIs.cell (j := 3) R4 rfl; have y9 := fun j => RowIs.frozen R4 j; have y8 := R4.lt
  go_wp2_with fail
  refine bodyPost_ret (v := .tuple #[.agg #[.int .i64 r, .int .i64 m, .int .i64 l, .int .i64 t], .int .i64 z, .int .i64 n]) (by simp [results, Try.results19, go_sem, *]) rfl ?_
  exact ⟨⟨r, m, l, t⟩, z, n, rfl, B4⟩
end Go.Proofs.Ythoiefhcaplmiaa
