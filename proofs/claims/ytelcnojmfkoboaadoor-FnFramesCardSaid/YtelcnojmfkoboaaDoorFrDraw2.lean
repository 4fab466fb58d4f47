/- Any Frame that is drawn, and what the laws of chapter 7 draw: of what was there the cursor alone has moved. -/
import Derived.Test.YtelcnojmfkoboaaDoorFrDraw1
import Derived.Test.YtelcnojmfkoboaaDoorBend2
import Derived.Test.YtelcnojmfkoboaaDoorOpenCode

namespace Go.Proofs.YtelcnojmfkoboaaDoor
open Go.RowKit
set_option maxRecDepth 100000
set_option linter.unusedSimpArgs false
set_option linter.unusedVariables false

set_option maxHeartbeats 4000000 in
theorem drawAny7 (g B : Nat) (w : World) (hc : Cur w g B) :
    Calls Tryd.prog 63 #[.pointer (some ⟨g, 0, none⟩)] w fun e w' => ∃ f : Fr, f.b.size ≤ 1100 ∧ e = .returned (.agg #[.int .i64 f.k, .int .i64 f.fl, .int .i64 f.st, .string f.b]) ∧ Cur w' g B ∧ Moves g w w' := by
  have hgw := hc.lt
  go_enter Tryd.func63, Tryd.ntmps63
  go_wp2_with fail
  have R2 : RowIs (w.alloc (.cells #[.int .i64 0, .int .i64 0, .int .i64 0, .string ⟨#[]⟩] 29)) w.heap.size 29 [.int .i64 0, .int .i64 0, .int .i64 0, .string ⟨#[]⟩] := rowIs_new w _ _
  have hm := (Moves.refl g w).alloc (.cells #[.int .i64 0, .int .i64 0, .int .i64 0, .string ⟨#[]⟩] 29)
  refine (draw7 g B _ (hc.alloc _)).mono ?_; rintro e w1 ⟨⟨fk, ff, fs, fb⟩, fz, rfl, hc1, hm1⟩
  dsimp only at fz ⊢
  replace R2 := R2.moves hm1 (by omega)
  replace hm := hm.trans hm1
  replace hc := hc1
  clear hc1 hm1
  have hszm := hm.size
  have hzw := R2.lt
  go_wp2_with fail
  obtain ⟨V, hV⟩ : ∃ V, w1.alloc (.cells #[.int .i64 fk, .int .i64 ff, .int .i64 fs, .string fb] 29) = V := ⟨_, rfl⟩
  have RB : RowIs V w1.heap.size 29 [.int .i64 fk, .int .i64 ff, .int .i64 fs, .string fb] := by rw [← hV]; exact rowIs_new w1 _ _
  replace R2 : RowIs V w.heap.size 29 [.int .i64 0, .int .i64 0, .int .i64 0, .string ⟨#[]⟩] := by rw [← hV]; exact R2.alloc _
  replace hm : Moves g w V := by rw [← hV]; exact hm.alloc _
  replace hc : Cur V g B := by rw [← hV]; exact hc.alloc _
  rw [hV]
  clear hV
  obtain ⟨b, hb⟩ : ∃ b, b = w1.heap.size := ⟨_, rfl⟩
  rw [← hb] at RB ⊢
  have hbw : w.heap.size < b := by omega
  have hbg : b ≠ g := by omega
  clear hb
  refine (once1 g B 10 _ hc (by omega)).mono ?_; rintro e w2 ⟨vb, rfl, hcx, hmx⟩
  replace RB : RowIs w2 b 29 [.int .i64 fk, .int .i64 ff, .int .i64 fs, .string fb] := RB.moves hmx hbg
  replace R2 : RowIs w2 w.heap.size 29 [.int .i64 0, .int .i64 0, .int .i64 0, .string ⟨#[]⟩] := R2.moves hmx (by omega)
  replace hm := hm.trans hmx
  replace hc := hcx
  clear hmx hcx
  have y0 := RowIs.cell (j := 0) RB rfl; have y1 := RowIs.cell (j := 1) RB rfl; have y2 := RowIs.cell (j := 2) RB rfl; have y3 := RowIs.cell (j := 3) RB rfl; have y9 := fun j => RowIs.frozen RB j
  have ylt := RB.lt
  cases vb
  · skip
    have x0 := RowIs.cell (j := 0) R2 rfl; have x1 := RowIs.cell (j := 1) R2 rfl; have x2 := RowIs.cell (j := 2) R2 rfl; have x3 := RowIs.cell (j := 3) R2 rfl; have x9 := fun j => RowIs.frozen R2 j
    have xlt := R2.lt
    go_wp2_with fail
    refine bodyPost_ret (v := .agg #[.int .i64 fk, .int .i64 ff, .int .i64 fs, .string fb]) (by simp [results, Tryd.results63, go_sem, *]) rfl ?_
    exact ⟨⟨fk, ff, fs, fb⟩, by show fb.size ≤ 1100; omega, rfl, by repeat' (first | (with_reducible exact hc) | (with_reducible refine Cur.set ?_ _ _ ?_) | (with_reducible refine Cur.alloc ?_ _) | (with_reducible refine Cur.drewN ?_ _) | (with_reducible refine Cur.drew ?_) | omega | (simp; done) | (simp; omega)), by repeat' (first | (with_reducible exact hm) | (with_reducible refine Moves.setNew ?_ _ ?_ _) | (with_reducible refine Moves.alloc ?_ _) | (with_reducible refine Moves.drewN _ ?_) | (with_reducible refine Moves.drew ?_) | omega | (simp; done) | (simp; omega))⟩
  · skip
    go_wp2_with fail
    refine (below1 g B 5 _ hc (by omega)).mono ?_; rintro e w3 ⟨c, c0, c1, _, rfl, hcx, hmx⟩
    have c5 := c1 (by omega)
    clear c1
    replace RB : RowIs w3 b 29 [.int .i64 fk, .int .i64 ff, .int .i64 fs, .string fb] := (RB).moves hmx (by omega)
    replace R2 : RowIs w3 w.heap.size 29 [.int .i64 0, .int .i64 0, .int .i64 0, .string ⟨#[]⟩] := (R2).moves hmx (by omega)
    replace hm : Moves g w w3 := (hm).trans hmx
    replace hc := hcx
    clear hmx y0 y1 y2 y3 y9 ylt hcx
    have y0 := RowIs.cell (j := 0) RB rfl; have y1 := RowIs.cell (j := 1) RB rfl; have y2 := RowIs.cell (j := 2) RB rfl; have y3 := RowIs.cell (j := 3) RB rfl; have y9 := fun j => RowIs.frozen RB j
    have ylt := RB.lt
    have hcc : c = 0 ∨ c = 1 ∨ c = 2 ∨ c = 3 ∨ c = 4 := by omega
    rcases hcc with rfl | rfl | rfl | rfl | rfl
    · skip
      obtain ⟨VA, hVA⟩ : ∃ V, w3.alloc (.cells #[.int .i64 0, .int .i64 8, .int .i64 (-1)] 2) = V := ⟨_, rfl⟩
      have RA : RowIs VA w3.heap.size 2 [.int .i64 0, .int .i64 8, .int .i64 (-1)] := by rw [← hVA]; exact rowIs_new w3 _ _
      have hbA : Below w3.heap.size w3 VA := by rw [← hVA]; exact (Below.refl _ _).alloc (Nat.le_refl _) _
      go_wp2_with fail
      clear hVA
      have hgA : g < w3.heap.size := hc.lt
      replace RB := RB.new hbA
      replace R2 := R2.new hbA
      replace hm := hm.trans (Moves.of_below hbA)
      replace hc := hc.below hbA
      clear hbA y0 y1 y2 y3 y9
      refine (below1 g B 3 _ hc (by omega)).mono ?_; rintro e w4 ⟨q, q0, q1, _, rfl, hcx, hmx⟩
      have q2 := q1 (by omega)
      clear q1
      replace RB := RB.moves hmx hbg
      replace R2 := R2.moves hmx (by omega)
      replace RA := RA.moves hmx (by omega)
      replace hm := hm.trans hmx
      replace hc := hcx
      clear hmx hcx ylt
      have y0 := RowIs.cell (j := 0) RB rfl; have y1 := RowIs.cell (j := 1) RB rfl; have y2 := RowIs.cell (j := 2) RB rfl; have y3 := RowIs.cell (j := 3) RB rfl; have y9 := fun j => RowIs.frozen RB j
      have ylt := RB.lt
      have k0 := RowIs.cell (j := 0) RA rfl
      have k1 := RowIs.cell (j := 1) RA rfl
      have k2 := RowIs.cell (j := 2) RA rfl
      have hq : q = 0 ∨ q = 1 ∨ q = 2 := by omega
      rcases hq with rfl | rfl | rfl
      · skip
        have x0 := RowIs.cell (j := 0) R2 rfl; have x1 := RowIs.cell (j := 1) R2 rfl; have x2 := RowIs.cell (j := 2) R2 rfl; have x3 := RowIs.cell (j := 3) R2 rfl; have x9 := fun j => RowIs.frozen R2 j
        have xlt := R2.lt
        go_wp2_with fail
        refine bodyPost_ret (v := .agg #[.int .i64 0, .int .i64 ff, .int .i64 fs, .string fb]) (by simp [results, Tryd.results63, go_sem, *]) rfl ?_
        exact ⟨⟨0, ff, fs, fb⟩, by show fb.size ≤ 1100; omega, rfl, by repeat' (first | (with_reducible exact hc) | (with_reducible refine Cur.set ?_ _ _ ?_) | (with_reducible refine Cur.alloc ?_ _) | (with_reducible refine Cur.drewN ?_ _) | (with_reducible refine Cur.drew ?_) | omega | (simp; done) | (simp; omega)), by repeat' (first | (with_reducible exact hm) | (with_reducible refine Moves.setNew ?_ _ ?_ _) | (with_reducible refine Moves.alloc ?_ _) | (with_reducible refine Moves.drewN _ ?_) | (with_reducible refine Moves.drew ?_) | omega | (simp; done) | (simp; omega))⟩
      · skip
        have x0 := RowIs.cell (j := 0) R2 rfl; have x1 := RowIs.cell (j := 1) R2 rfl; have x2 := RowIs.cell (j := 2) R2 rfl; have x3 := RowIs.cell (j := 3) R2 rfl; have x9 := fun j => RowIs.frozen R2 j
        have xlt := R2.lt
        go_wp2_with fail
        refine bodyPost_ret (v := .agg #[.int .i64 8, .int .i64 ff, .int .i64 fs, .string fb]) (by simp [results, Tryd.results63, go_sem, *]) rfl ?_
        exact ⟨⟨8, ff, fs, fb⟩, by show fb.size ≤ 1100; omega, rfl, by repeat' (first | (with_reducible exact hc) | (with_reducible refine Cur.set ?_ _ _ ?_) | (with_reducible refine Cur.alloc ?_ _) | (with_reducible refine Cur.drewN ?_ _) | (with_reducible refine Cur.drew ?_) | omega | (simp; done) | (simp; omega)), by repeat' (first | (with_reducible exact hm) | (with_reducible refine Moves.setNew ?_ _ ?_ _) | (with_reducible refine Moves.alloc ?_ _) | (with_reducible refine Moves.drewN _ ?_) | (with_reducible refine Moves.drew ?_) | omega | (simp; done) | (simp; omega))⟩
      · skip
        have x0 := RowIs.cell (j := 0) R2 rfl; have x1 := RowIs.cell (j := 1) R2 rfl; have x2 := RowIs.cell (j := 2) R2 rfl; have x3 := RowIs.cell (j := 3) R2 rfl; have x9 := fun j => RowIs.frozen R2 j
        have xlt := R2.lt
        go_wp2_with fail
        refine bodyPost_ret (v := .agg #[.int .i64 (-1), .int .i64 ff, .int .i64 fs, .string fb]) (by simp [results, Tryd.results63, go_sem, *]) rfl ?_
        exact ⟨⟨(-1), ff, fs, fb⟩, by show fb.size ≤ 1100; omega, rfl, by repeat' (first | (with_reducible exact hc) | (with_reducible refine Cur.set ?_ _ _ ?_) | (with_reducible refine Cur.alloc ?_ _) | (with_reducible refine Cur.drewN ?_ _) | (with_reducible refine Cur.drew ?_) | omega | (simp; done) | (simp; omega)), by repeat' (first | (with_reducible exact hm) | (with_reducible refine Moves.setNew ?_ _ ?_ _) | (with_reducible refine Moves.alloc ?_ _) | (with_reducible refine Moves.drewN _ ?_) | (with_reducible refine Moves.drew ?_) | omega | (simp; done) | (simp; omega))⟩
    · skip
      obtain ⟨VA, hVA⟩ : ∃ V, w3.alloc (.cells #[.int .i64 (-1), .int .i64 2, .int .i64 3, .int .i64 4] 2) = V := ⟨_, rfl⟩
      have RA : RowIs VA w3.heap.size 2 [.int .i64 (-1), .int .i64 2, .int .i64 3, .int .i64 4] := by rw [← hVA]; exact rowIs_new w3 _ _
      have hbA : Below w3.heap.size w3 VA := by rw [← hVA]; exact (Below.refl _ _).alloc (Nat.le_refl _) _
      go_wp2_with fail
      clear hVA
      have hgA : g < w3.heap.size := hc.lt
      replace RB := RB.new hbA
      replace R2 := R2.new hbA
      replace hm := hm.trans (Moves.of_below hbA)
      replace hc := hc.below hbA
      clear hbA y0 y1 y2 y3 y9
      refine (below1 g B 4 _ hc (by omega)).mono ?_; rintro e w4 ⟨q, q0, q1, _, rfl, hcx, hmx⟩
      have q2 := q1 (by omega)
      clear q1
      replace RB := RB.moves hmx hbg
      replace R2 := R2.moves hmx (by omega)
      replace RA := RA.moves hmx (by omega)
      replace hm := hm.trans hmx
      replace hc := hcx
      clear hmx hcx ylt
      have y0 := RowIs.cell (j := 0) RB rfl; have y1 := RowIs.cell (j := 1) RB rfl; have y2 := RowIs.cell (j := 2) RB rfl; have y3 := RowIs.cell (j := 3) RB rfl; have y9 := fun j => RowIs.frozen RB j
      have ylt := RB.lt
      have k0 := RowIs.cell (j := 0) RA rfl
      have k1 := RowIs.cell (j := 1) RA rfl
      have k2 := RowIs.cell (j := 2) RA rfl
      have k3 := RowIs.cell (j := 3) RA rfl
      have hq : q = 0 ∨ q = 1 ∨ q = 2 ∨ q = 3 := by omega
      rcases hq with rfl | rfl | rfl | rfl
      · skip
        have x0 := RowIs.cell (j := 0) R2 rfl; have x1 := RowIs.cell (j := 1) R2 rfl; have x2 := RowIs.cell (j := 2) R2 rfl; have x3 := RowIs.cell (j := 3) R2 rfl; have x9 := fun j => RowIs.frozen R2 j
        have xlt := R2.lt
        go_wp2_with fail
        refine bodyPost_ret (v := .agg #[.int .i64 fk, .int .i64 (-1), .int .i64 fs, .string fb]) (by simp [results, Tryd.results63, go_sem, *]) rfl ?_
        exact ⟨⟨fk, (-1), fs, fb⟩, by show fb.size ≤ 1100; omega, rfl, by repeat' (first | (with_reducible exact hc) | (with_reducible refine Cur.set ?_ _ _ ?_) | (with_reducible refine Cur.alloc ?_ _) | (with_reducible refine Cur.drewN ?_ _) | (with_reducible refine Cur.drew ?_) | omega | (simp; done) | (simp; omega)), by repeat' (first | (with_reducible exact hm) | (with_reducible refine Moves.setNew ?_ _ ?_ _) | (with_reducible refine Moves.alloc ?_ _) | (with_reducible refine Moves.drewN _ ?_) | (with_reducible refine Moves.drew ?_) | omega | (simp; done) | (simp; omega))⟩
      · skip
        have x0 := RowIs.cell (j := 0) R2 rfl; have x1 := RowIs.cell (j := 1) R2 rfl; have x2 := RowIs.cell (j := 2) R2 rfl; have x3 := RowIs.cell (j := 3) R2 rfl; have x9 := fun j => RowIs.frozen R2 j
        have xlt := R2.lt
        go_wp2_with fail
        refine bodyPost_ret (v := .agg #[.int .i64 fk, .int .i64 2, .int .i64 fs, .string fb]) (by simp [results, Tryd.results63, go_sem, *]) rfl ?_
        exact ⟨⟨fk, 2, fs, fb⟩, by show fb.size ≤ 1100; omega, rfl, by repeat' (first | (with_reducible exact hc) | (with_reducible refine Cur.set ?_ _ _ ?_) | (with_reducible refine Cur.alloc ?_ _) | (with_reducible refine Cur.drewN ?_ _) | (with_reducible refine Cur.drew ?_) | omega | (simp; done) | (simp; omega)), by repeat' (first | (with_reducible exact hm) | (with_reducible refine Moves.setNew ?_ _ ?_ _) | (with_reducible refine Moves.alloc ?_ _) | (with_reducible refine Moves.drewN _ ?_) | (with_reducible refine Moves.drew ?_) | omega | (simp; done) | (simp; omega))⟩
      · skip
        have x0 := RowIs.cell (j := 0) R2 rfl; have x1 := RowIs.cell (j := 1) R2 rfl; have x2 := RowIs.cell (j := 2) R2 rfl; have x3 := RowIs.cell (j := 3) R2 rfl; have x9 := fun j => RowIs.frozen R2 j
        have xlt := R2.lt
        go_wp2_with fail
        refine bodyPost_ret (v := .agg #[.int .i64 fk, .int .i64 3, .int .i64 fs, .string fb]) (by simp [results, Tryd.results63, go_sem, *]) rfl ?_
        exact ⟨⟨fk, 3, fs, fb⟩, by show fb.size ≤ 1100; omega, rfl, by repeat' (first | (with_reducible exact hc) | (with_reducible refine Cur.set ?_ _ _ ?_) | (with_reducible refine Cur.alloc ?_ _) | (with_reducible refine Cur.drewN ?_ _) | (with_reducible refine Cur.drew ?_) | omega | (simp; done) | (simp; omega)), by repeat' (first | (with_reducible exact hm) | (with_reducible refine Moves.setNew ?_ _ ?_ _) | (with_reducible refine Moves.alloc ?_ _) | (with_reducible refine Moves.drewN _ ?_) | (with_reducible refine Moves.drew ?_) | omega | (simp; done) | (simp; omega))⟩
      · skip
        have x0 := RowIs.cell (j := 0) R2 rfl; have x1 := RowIs.cell (j := 1) R2 rfl; have x2 := RowIs.cell (j := 2) R2 rfl; have x3 := RowIs.cell (j := 3) R2 rfl; have x9 := fun j => RowIs.frozen R2 j
        have xlt := R2.lt
        go_wp2_with fail
        refine bodyPost_ret (v := .agg #[.int .i64 fk, .int .i64 4, .int .i64 fs, .string fb]) (by simp [results, Tryd.results63, go_sem, *]) rfl ?_
        exact ⟨⟨fk, 4, fs, fb⟩, by show fb.size ≤ 1100; omega, rfl, by repeat' (first | (with_reducible exact hc) | (with_reducible refine Cur.set ?_ _ _ ?_) | (with_reducible refine Cur.alloc ?_ _) | (with_reducible refine Cur.drewN ?_ _) | (with_reducible refine Cur.drew ?_) | omega | (simp; done) | (simp; omega)), by repeat' (first | (with_reducible exact hm) | (with_reducible refine Moves.setNew ?_ _ ?_ _) | (with_reducible refine Moves.alloc ?_ _) | (with_reducible refine Moves.drewN _ ?_) | (with_reducible refine Moves.drew ?_) | omega | (simp; done) | (simp; omega))⟩
    · skip
      obtain ⟨VA, hVA⟩ : ∃ V, w3.alloc (.cells #[.int .i64 (-1), .int .i64 0, .int .i64 100000, .int .i64 100001] 2) = V := ⟨_, rfl⟩
      have RA : RowIs VA w3.heap.size 2 [.int .i64 (-1), .int .i64 0, .int .i64 100000, .int .i64 100001] := by rw [← hVA]; exact rowIs_new w3 _ _
      have hbA : Below w3.heap.size w3 VA := by rw [← hVA]; exact (Below.refl _ _).alloc (Nat.le_refl _) _
      go_wp2_with fail
      clear hVA
      have hgA : g < w3.heap.size := hc.lt
      replace RB := RB.new hbA
      replace R2 := R2.new hbA
      replace hm := hm.trans (Moves.of_below hbA)
      replace hc := hc.below hbA
      clear hbA y0 y1 y2 y3 y9
      refine (below1 g B 4 _ hc (by omega)).mono ?_; rintro e w4 ⟨q, q0, q1, _, rfl, hcx, hmx⟩
      have q2 := q1 (by omega)
      clear q1
      replace RB := RB.moves hmx hbg
      replace R2 := R2.moves hmx (by omega)
      replace RA := RA.moves hmx (by omega)
      replace hm := hm.trans hmx
      replace hc := hcx
      clear hmx hcx ylt
      have y0 := RowIs.cell (j := 0) RB rfl; have y1 := RowIs.cell (j := 1) RB rfl; have y2 := RowIs.cell (j := 2) RB rfl; have y3 := RowIs.cell (j := 3) RB rfl; have y9 := fun j => RowIs.frozen RB j
      have ylt := RB.lt
      have k0 := RowIs.cell (j := 0) RA rfl
      have k1 := RowIs.cell (j := 1) RA rfl
      have k2 := RowIs.cell (j := 2) RA rfl
      have k3 := RowIs.cell (j := 3) RA rfl
      have hq : q = 0 ∨ q = 1 ∨ q = 2 ∨ q = 3 := by omega
      rcases hq with rfl | rfl | rfl | rfl
      · skip
        have x0 := RowIs.cell (j := 0) R2 rfl; have x1 := RowIs.cell (j := 1) R2 rfl; have x2 := RowIs.cell (j := 2) R2 rfl; have x3 := RowIs.cell (j := 3) R2 rfl; have x9 := fun j => RowIs.frozen R2 j
        have xlt := R2.lt
        go_wp2_with fail
        refine bodyPost_ret (v := .agg #[.int .i64 fk, .int .i64 ff, .int .i64 (-1), .string fb]) (by simp [results, Tryd.results63, go_sem, *]) rfl ?_
        exact ⟨⟨fk, ff, (-1), fb⟩, by show fb.size ≤ 1100; omega, rfl, by repeat' (first | (with_reducible exact hc) | (with_reducible refine Cur.set ?_ _ _ ?_) | (with_reducible refine Cur.alloc ?_ _) | (with_reducible refine Cur.drewN ?_ _) | (with_reducible refine Cur.drew ?_) | omega | (simp; done) | (simp; omega)), by repeat' (first | (with_reducible exact hm) | (with_reducible refine Moves.setNew ?_ _ ?_ _) | (with_reducible refine Moves.alloc ?_ _) | (with_reducible refine Moves.drewN _ ?_) | (with_reducible refine Moves.drew ?_) | omega | (simp; done) | (simp; omega))⟩
      · skip
        have x0 := RowIs.cell (j := 0) R2 rfl; have x1 := RowIs.cell (j := 1) R2 rfl; have x2 := RowIs.cell (j := 2) R2 rfl; have x3 := RowIs.cell (j := 3) R2 rfl; have x9 := fun j => RowIs.frozen R2 j
        have xlt := R2.lt
        go_wp2_with fail
        refine bodyPost_ret (v := .agg #[.int .i64 fk, .int .i64 ff, .int .i64 0, .string fb]) (by simp [results, Tryd.results63, go_sem, *]) rfl ?_
        exact ⟨⟨fk, ff, 0, fb⟩, by show fb.size ≤ 1100; omega, rfl, by repeat' (first | (with_reducible exact hc) | (with_reducible refine Cur.set ?_ _ _ ?_) | (with_reducible refine Cur.alloc ?_ _) | (with_reducible refine Cur.drewN ?_ _) | (with_reducible refine Cur.drew ?_) | omega | (simp; done) | (simp; omega)), by repeat' (first | (with_reducible exact hm) | (with_reducible refine Moves.setNew ?_ _ ?_ _) | (with_reducible refine Moves.alloc ?_ _) | (with_reducible refine Moves.drewN _ ?_) | (with_reducible refine Moves.drew ?_) | omega | (simp; done) | (simp; omega))⟩
      · skip
        have x0 := RowIs.cell (j := 0) R2 rfl; have x1 := RowIs.cell (j := 1) R2 rfl; have x2 := RowIs.cell (j := 2) R2 rfl; have x3 := RowIs.cell (j := 3) R2 rfl; have x9 := fun j => RowIs.frozen R2 j
        have xlt := R2.lt
        go_wp2_with fail
        refine bodyPost_ret (v := .agg #[.int .i64 fk, .int .i64 ff, .int .i64 100000, .string fb]) (by simp [results, Tryd.results63, go_sem, *]) rfl ?_
        exact ⟨⟨fk, ff, 100000, fb⟩, by show fb.size ≤ 1100; omega, rfl, by repeat' (first | (with_reducible exact hc) | (with_reducible refine Cur.set ?_ _ _ ?_) | (with_reducible refine Cur.alloc ?_ _) | (with_reducible refine Cur.drewN ?_ _) | (with_reducible refine Cur.drew ?_) | omega | (simp; done) | (simp; omega)), by repeat' (first | (with_reducible exact hm) | (with_reducible refine Moves.setNew ?_ _ ?_ _) | (with_reducible refine Moves.alloc ?_ _) | (with_reducible refine Moves.drewN _ ?_) | (with_reducible refine Moves.drew ?_) | omega | (simp; done) | (simp; omega))⟩
      · skip
        have x0 := RowIs.cell (j := 0) R2 rfl; have x1 := RowIs.cell (j := 1) R2 rfl; have x2 := RowIs.cell (j := 2) R2 rfl; have x3 := RowIs.cell (j := 3) R2 rfl; have x9 := fun j => RowIs.frozen R2 j
        have xlt := R2.lt
        go_wp2_with fail
        refine bodyPost_ret (v := .agg #[.int .i64 fk, .int .i64 ff, .int .i64 100001, .string fb]) (by simp [results, Tryd.results63, go_sem, *]) rfl ?_
        exact ⟨⟨fk, ff, 100001, fb⟩, by show fb.size ≤ 1100; omega, rfl, by repeat' (first | (with_reducible exact hc) | (with_reducible refine Cur.set ?_ _ _ ?_) | (with_reducible refine Cur.alloc ?_ _) | (with_reducible refine Cur.drewN ?_ _) | (with_reducible refine Cur.drew ?_) | omega | (simp; done) | (simp; omega)), by repeat' (first | (with_reducible exact hm) | (with_reducible refine Moves.setNew ?_ _ ?_ _) | (with_reducible refine Moves.alloc ?_ _) | (with_reducible refine Moves.drewN _ ?_) | (with_reducible refine Moves.drew ?_) | omega | (simp; done) | (simp; omega))⟩
    · skip
      have s1 : ¬ 9223372036854775807 < fb.size + 1 := by omega
      have hxs : (fb ++ (⟨#[120]⟩ : ByteArray)).size ≤ 1100 := by rw [ba_size_append]; have : (⟨#[120]⟩ : ByteArray).size = 1 := rfl; omega
      have x0 := RowIs.cell (j := 0) R2 rfl; have x1 := RowIs.cell (j := 1) R2 rfl; have x2 := RowIs.cell (j := 2) R2 rfl; have x3 := RowIs.cell (j := 3) R2 rfl; have x9 := fun j => RowIs.frozen R2 j
      have xlt := R2.lt
      go_wp2_with fail
      refine bodyPost_ret (v := .agg #[.int .i64 fk, .int .i64 ff, .int .i64 fs, .string (fb ++ ⟨#[120]⟩)]) (by simp [results, Tryd.results63, go_sem, *]) rfl ?_
      exact ⟨⟨fk, ff, fs, (fb ++ ⟨#[120]⟩)⟩, hxs, rfl, by repeat' (first | (with_reducible exact hc) | (with_reducible refine Cur.set ?_ _ _ ?_) | (with_reducible refine Cur.alloc ?_ _) | (with_reducible refine Cur.drewN ?_ _) | (with_reducible refine Cur.drew ?_) | omega | (simp; done) | (simp; omega)), by repeat' (first | (with_reducible exact hm) | (with_reducible refine Moves.setNew ?_ _ ?_ _) | (with_reducible refine Moves.alloc ?_ _) | (with_reducible refine Moves.drewN _ ?_) | (with_reducible refine Moves.drew ?_) | omega | (simp; done) | (simp; omega))⟩
    · skip
      go_wp2_with fail
      refine (below1 g B 2 _ hc (by omega)).mono ?_; rintro e w4 ⟨q, q0, q1, _, rfl, hcx, hmx⟩
      have q2 := q1 (by omega)
      clear q1
      replace RB : RowIs w4 b 29 [.int .i64 fk, .int .i64 ff, .int .i64 fs, .string fb] := (RB).moves hmx (by omega)
      replace R2 : RowIs w4 w.heap.size 29 [.int .i64 0, .int .i64 0, .int .i64 0, .string ⟨#[]⟩] := (R2).moves hmx (by omega)
      replace hm : Moves g w w4 := (hm).trans hmx
      replace hc := hcx
      clear hmx y0 y1 y2 y3 y9 ylt hcx
      have y0 := RowIs.cell (j := 0) RB rfl; have y1 := RowIs.cell (j := 1) RB rfl; have y2 := RowIs.cell (j := 2) RB rfl; have y3 := RowIs.cell (j := 3) RB rfl; have y9 := fun j => RowIs.frozen RB j
      have ylt := RB.lt
      have hq : q = 0 ∨ q = 1 := by omega
      rcases hq with rfl | rfl
      · skip
        obtain ⟨M, hM, hMb, hmk⟩ := made_bytes 1000 (by omega)
        obtain ⟨V4, hV4⟩ : ∃ V, w4.alloc (.cells M 5) = V := ⟨_, rfl⟩
        have RZ : V4.ownsRow w4.heap.size 5 1 (.slice (some ⟨w4.heap.size, 0, none⟩) 1000 1000) 1000 M.toList := by rw [← hV4]; exact owns_made w4 M 5 1 1000 (by omega) (by omega)
        obtain ⟨t9, t9s, hcv9⟩ := row_to_string RZ hMb
        have hmk4 : (Instr.makeSlice 22 (.int .i64 1000) (.int .i64 1000)).run Tryd.prog w4 = .ok (.slice (some ⟨w4.heap.size, 0, none⟩) 1000 1000) V4 := by have := hmk w4; rw [hV4] at this; exact this
        have hb4 : Below w4.heap.size w4 V4 := by rw [← hV4]; exact (Below.refl _ _).alloc (Nat.le_refl _) _
        replace RB := RB.new hb4
        replace R2 := R2.new hb4
        replace hm := hm.trans (Moves.of_below hb4)
        replace hc := hc.below hb4
        have ht9 : t9.size ≤ 1100 := by omega
        clear hV4 hMb hM RZ hmk hb4 t9s y0 y1 y2 y3 y9 ylt
        have y0 := RowIs.cell (j := 0) RB rfl; have y1 := RowIs.cell (j := 1) RB rfl; have y2 := RowIs.cell (j := 2) RB rfl; have y3 := RowIs.cell (j := 3) RB rfl; have y9 := fun j => RowIs.frozen RB j
        have ylt := RB.lt
        have x0 := RowIs.cell (j := 0) R2 rfl; have x1 := RowIs.cell (j := 1) R2 rfl; have x2 := RowIs.cell (j := 2) R2 rfl; have x3 := RowIs.cell (j := 3) R2 rfl; have x9 := fun j => RowIs.frozen R2 j
        have xlt := R2.lt
        go_wp2_with fail
        refine bodyPost_ret (v := .agg #[.int .i64 fk, .int .i64 ff, .int .i64 fs, .string t9]) (by simp [results, Tryd.results63, go_sem, *]) rfl ?_
        exact ⟨⟨fk, ff, fs, t9⟩, ht9, rfl, by repeat' (first | (with_reducible exact hc) | (with_reducible refine Cur.set ?_ _ _ ?_) | (with_reducible refine Cur.alloc ?_ _) | (with_reducible refine Cur.drewN ?_ _) | (with_reducible refine Cur.drew ?_) | omega | (simp; done) | (simp; omega)), by repeat' (first | (with_reducible exact hm) | (with_reducible refine Moves.setNew ?_ _ ?_ _) | (with_reducible refine Moves.alloc ?_ _) | (with_reducible refine Moves.drewN _ ?_) | (with_reducible refine Moves.drew ?_) | omega | (simp; done) | (simp; omega))⟩
      · skip
        obtain ⟨M, hM, hMb, hmk⟩ := made_bytes 1001 (by omega)
        obtain ⟨V4, hV4⟩ : ∃ V, w4.alloc (.cells M 5) = V := ⟨_, rfl⟩
        have RZ : V4.ownsRow w4.heap.size 5 1 (.slice (some ⟨w4.heap.size, 0, none⟩) 1001 1001) 1001 M.toList := by rw [← hV4]; exact owns_made w4 M 5 1 1001 (by omega) (by omega)
        obtain ⟨t9, t9s, hcv9⟩ := row_to_string RZ hMb
        have hmk4 : (Instr.makeSlice 22 (.int .i64 1001) (.int .i64 1001)).run Tryd.prog w4 = .ok (.slice (some ⟨w4.heap.size, 0, none⟩) 1001 1001) V4 := by have := hmk w4; rw [hV4] at this; exact this
        have hb4 : Below w4.heap.size w4 V4 := by rw [← hV4]; exact (Below.refl _ _).alloc (Nat.le_refl _) _
        replace RB := RB.new hb4
        replace R2 := R2.new hb4
        replace hm := hm.trans (Moves.of_below hb4)
        replace hc := hc.below hb4
        have ht9 : t9.size ≤ 1100 := by omega
        clear hV4 hMb hM RZ hmk hb4 t9s y0 y1 y2 y3 y9 ylt
        have y0 := RowIs.cell (j := 0) RB rfl; have y1 := RowIs.cell (j := 1) RB rfl; have y2 := RowIs.cell (j := 2) RB rfl; have y3 := RowIs.cell (j := 3) RB rfl; have y9 := fun j => RowIs.frozen RB j
        have ylt := RB.lt
        have x0 := RowIs.cell (j := 0) R2 rfl; have x1 := RowIs.cell (j := 1) R2 rfl; have x2 := RowIs.cell (j := 2) R2 rfl; have x3 := RowIs.cell (j := 3) R2 rfl; have x9 := fun j => RowIs.frozen R2 j
        have xlt := R2.lt
        go_wp2_with fail
        refine bodyPost_ret (v := .agg #[.int .i64 fk, .int .i64 ff, .int .i64 fs, .string t9]) (by simp [results, Tryd.results63, go_sem, *]) rfl ?_
        exact ⟨⟨fk, ff, fs, t9⟩, ht9, rfl, by repeat' (first | (with_reducible exact hc) | (with_reducible refine Cur.set ?_ _ _ ?_) | (with_reducible refine Cur.alloc ?_ _) | (with_reducible refine Cur.drewN ?_ _) | (with_reducible refine Cur.drew ?_) | omega | (simp; done) | (simp; omega)), by repeat' (first | (with_reducible exact hm) | (with_reducible refine Moves.setNew ?_ _ ?_ _) | (with_reducible refine Moves.alloc ?_ _) | (with_reducible refine Moves.drewN _ ?_) | (with_reducible refine Moves.drew ?_) | omega | (simp; done) | (simp; omega))⟩

set_option maxHeartbeats 1000000 in
theorem drawFrameOk (a : Option Addr) (len cap : Nat) (w : World) (hl : len ≤ 4096) (hcode : CodeAt w a len w.heap.size) :
    Calls Tryd.prog 38 #[.slice a len cap] w fun e w' => ∃ f : Fr, f.b.size ≤ 1100 ∧ e = .returned (.agg #[.int .i64 f.k, .int .i64 f.fl, .int .i64 f.st, .string f.b]) ∧ Below w.heap.size w w' := by
  go_enter Tryd.func38, Tryd.ntmps38
  go_wp2_with fail
  obtain ⟨V, hV⟩ : ∃ V, w.alloc (.cells #[.int .i64 0, .int .i64 0, .int .i64 0, .string ⟨#[]⟩] 29) = V := ⟨_, rfl⟩
  have R2 : RowIs V w.heap.size 29 [.int .i64 0, .int .i64 0, .int .i64 0, .string ⟨#[]⟩] := by rw [← hV]; exact rowIs_new w _ _
  have hbV : Below w.heap.size w V := by rw [← hV]; exact (Below.refl _ _).alloc (Nat.le_refl _) _
  rw [hV]
  clear hV
  have hVs := R2.lt
  refine (new1 a len cap _ hl (hcode.behind hbV)).mono ?_; rintro x w1 ⟨g, rfl, hg, hc1, hb1⟩
  replace R2 := R2.new hb1
  have hbw := bchain hbV hb1
  have hlt := R2.lt
  have hgV := hbV.size
  go_wp2_with fail
  refine (drawAny7 g _ _ hc1).mono ?_; rintro x w2 ⟨f, fz, rfl, hc2, hm2⟩
  have hne : w.heap.size ≠ g := by omega
  replace R2 := R2.moves hm2 hne
  replace hbw := hbw.trans (hm2.below (by omega) (by omega))
  clear hm2 hc2 hc1 hb1 hbV
  have x0 := RowIs.cell (j := 0) R2 rfl; have x1 := RowIs.cell (j := 1) R2 rfl; have x2 := RowIs.cell (j := 2) R2 rfl; have x3 := RowIs.cell (j := 3) R2 rfl; have x9 := fun j => RowIs.frozen R2 j
  have xlt := R2.lt
  go_wp2_with fail
  refine bodyPost_ret (v := .agg #[.int .i64 f.k, .int .i64 f.fl, .int .i64 f.st, .string f.b]) (by simp [results, Tryd.results38, go_sem, *]) rfl ?_
  exact ⟨f, fz, rfl, by repeat' (first | (with_reducible exact hbw) | (with_reducible refine Below.setCell ?_ ?_ _) | (with_reducible refine Below.alloc ?_ ?_ _) | (with_reducible refine Below.drew ?_) | (with_reducible refine bo_drewN _ ?_) | omega | (simp; done) | (simp; omega))⟩
theorem drawShown (a : Option Addr) (len cap : Nat) (w : World) (hl : len ≤ 4096) (hcode : CodeAt w a len w.heap.size) :
    Calls Tryd.prog 9 #[.slice a len cap] w fun e w' => ∃ f : Fr, f.b.size ≤ 1100 ∧ e = .returned (.agg #[.int .i64 f.k, .int .i64 f.fl, .int .i64 f.st, .string f.b]) ∧ Below w.heap.size w w' := by
  go_enter Tryd.func9, Tryd.ntmps9
  go_wp2_with fail
  obtain ⟨V, hV⟩ : ∃ V, w.alloc (.cells #[.int .i64 0, .int .i64 0, .int .i64 0, .string ⟨#[]⟩] 29) = V := ⟨_, rfl⟩
  have R2 : RowIs V w.heap.size 29 [.int .i64 0, .int .i64 0, .int .i64 0, .string ⟨#[]⟩] := by rw [← hV]; exact rowIs_new w _ _
  have hbV : Below w.heap.size w V := by rw [← hV]; exact (Below.refl _ _).alloc (Nat.le_refl _) _
  rw [hV]
  clear hV
  refine (drawFrameOk a len cap _ hl (hcode.behind hbV)).mono ?_; rintro x w1 ⟨f, fz, rfl, hb1⟩
  replace R2 := R2.new hb1
  have hbw := bchain hbV hb1
  clear hb1 hbV
  have x0 := RowIs.cell (j := 0) R2 rfl; have x1 := RowIs.cell (j := 1) R2 rfl; have x2 := RowIs.cell (j := 2) R2 rfl; have x3 := RowIs.cell (j := 3) R2 rfl; have x9 := fun j => RowIs.frozen R2 j
  have xlt := R2.lt
  go_wp2_with fail
  refine bodyPost_ret (v := .agg #[.int .i64 f.k, .int .i64 f.fl, .int .i64 f.st, .string f.b]) (by simp [results, Tryd.results9, go_sem, *]) rfl ?_
  exact ⟨f, fz, rfl, by repeat' (first | (with_reducible exact hbw) | (with_reducible refine Below.setCell ?_ ?_ _) | (with_reducible refine Below.alloc ?_ ?_ _) | (with_reducible refine Below.drew ?_) | (with_reducible refine bo_drewN _ ?_) | omega | (simp; done) | (simp; omega))⟩
theorem drawPayload (a : Option Addr) (len cap : Nat) (w : World) (hl : len ≤ 4096) (hcode : CodeAt w a len w.heap.size) :
    Calls Tryd.prog 11 #[.slice a len cap] w fun e w' => ∃ f : Fr, f.b.size ≤ 1100 ∧ e = .returned (.agg #[.int .i64 f.k, .int .i64 f.fl, .int .i64 f.st, .string f.b]) ∧ Below w.heap.size w w' := by
  go_enter Tryd.func11, Tryd.ntmps11
  go_wp2_with fail
  obtain ⟨V, hV⟩ : ∃ V, w.alloc (.cells #[.int .i64 0, .int .i64 0, .int .i64 0, .string ⟨#[]⟩] 29) = V := ⟨_, rfl⟩
  have R2 : RowIs V w.heap.size 29 [.int .i64 0, .int .i64 0, .int .i64 0, .string ⟨#[]⟩] := by rw [← hV]; exact rowIs_new w _ _
  have hbV : Below w.heap.size w V := by rw [← hV]; exact (Below.refl _ _).alloc (Nat.le_refl _) _
  rw [hV]
  clear hV
  refine (drawFrameOk a len cap _ hl (hcode.behind hbV)).mono ?_; rintro x w1 ⟨f, fz, rfl, hb1⟩
  replace R2 := R2.new hb1
  have hbw := bchain hbV hb1
  clear hb1 hbV
  have x0 := RowIs.cell (j := 0) R2 rfl; have x1 := RowIs.cell (j := 1) R2 rfl; have x2 := RowIs.cell (j := 2) R2 rfl; have x3 := RowIs.cell (j := 3) R2 rfl; have x9 := fun j => RowIs.frozen R2 j
  have xlt := R2.lt
  go_wp2_with fail
  refine bodyPost_ret (v := .agg #[.int .i64 f.k, .int .i64 f.fl, .int .i64 f.st, .string f.b]) (by simp [results, Tryd.results11, go_sem, *]) rfl ?_
  exact ⟨f, fz, rfl, by repeat' (first | (with_reducible exact hbw) | (with_reducible refine Below.setCell ?_ ?_ _) | (with_reducible refine Below.alloc ?_ ?_ _) | (with_reducible refine Below.drew ?_) | (with_reducible refine bo_drewN _ ?_) | omega | (simp; done) | (simp; omega))⟩
theorem shw_size (f : Fr) : (shwV f).size ≤ 7 + f.b.size := by
  unfold shwV
  split
  · rw [ba_size_append, hdV_size]; omega
  · exact Nat.zero_le _
set_option maxHeartbeats 1000000 in
theorem drawFrames (a : Option Addr) (len cap : Nat) (w : World) (hl : len ≤ 4096) (hcode : CodeAt w a len w.heap.size) :
    Calls Tryd.prog 7 #[.slice a len cap] w fun e w' => ∃ s : ByteArray, s.size ≤ 200 ∧ e = .returned (.string s) ∧ Below w.heap.size w w' := by
  go_enter Tryd.func7, Tryd.ntmps7
  go_wp2_with fail
  refine (new1 a len cap _ hl hcode).mono ?_; rintro x w1 ⟨g, rfl, hg, hc1, hb1⟩
  go_wp2_with fail
  refine (below1 g _ 5 _ hc1 (by omega)).mono ?_; rintro e w2 ⟨x, x0, x1, _, rfl, hc2, hm2⟩
  have x5 := x1 (by omega)
  have hgw := hc1.lt
  have hbw : Below w.heap.size w w2 := hb1.trans (hm2.below hg hb1.size)
  clear x1 hm2
  go_wp2_with fail
  go_loopw [4, 5] (fun v n wr => ∃ (m : Nat) (t : ByteArray), n = .int .i64 m ∧ v = .string t ∧ t.size + m * 27 ≤ 120 ∧ Cur wr g w.heap.size ∧ Below w.heap.size w wr) (fun _ n _ => (intOf n).toNat)
  case atStart =>
    obtain ⟨m, rfl⟩ : ∃ m : Nat, x = m := ⟨x.toNat, by omega⟩
    exact ⟨m, ⟨#[]⟩, rfl, rfl, by simp [ByteArray.size]; omega, hc2, hbw⟩
  case round =>
    obtain ⟨m, t, rfl, rfl, hmt, hcr, hbr⟩ := hrel
    have hsr := hbr.size
    by_cases hm : 0 < m
    · obtain ⟨m', rfl⟩ : ∃ m', m = m' + 1 := ⟨m - 1, by omega⟩
      go_wp2_with fail
      refine (draw7 g _ _ hcr).mono ?_; rintro e w3 ⟨f, fz, rfl, hc3, hm3⟩
      replace hbr := hbr.trans (hm3.below hg (by omega))
      go_wp2_with fail
      refine (specShown f.k f.fl f.st f.b _ (by unfold maxLen; omega)).mono ?_; rintro e w4 ⟨rfl, hb4⟩
      have hss : (shwV ⟨f.k, f.fl, f.st, f.b⟩).size ≤ 27 := by have := shw_size ⟨f.k, f.fl, f.st, f.b⟩; dsimp only at this; omega
      obtain ⟨S, hS⟩ : ∃ S, shwV ⟨f.k, f.fl, f.st, f.b⟩ = S := ⟨_, rfl⟩
      rw [hS] at hss ⊢
      replace hbr := bchain hbr hb4
      have hc4 := hc3.below hb4
      have s1 : ¬ 9223372036854775807 < t.size + S.size := by omega
      clear hS hm3 hb4 hc3
      go_wp2_with fail
      go_roundw
      case rel => exact ⟨m', _, by go_num, rfl, by rw [ba_size_append]; omega, hc4, hbr⟩
      case measure => simp [intOf]
    · obtain rfl : m = 0 := by omega
      go_wp2_with fail
      refine (once1 g _ 2 _ hcr (by omega)).mono ?_; rintro e w3 ⟨v, rfl, hc3, hm3⟩
      replace hbr := hbr.trans (hm3.below hg (by omega))
      have hs3 := hbr.size
      clear hm3
      cases v
      · go_wp2_with fail
        go_ret
        exact ⟨t, by omega, rfl, hbr⟩
      · go_wp2_with fail
        refine (bend1 g _ t ⟨#[0, 1, 7, 255]⟩ _ hc3 (by omega) (by decide) (by decide)).mono ?_; rintro e w4 ⟨t', tz, rfl, hc4, hm4⟩
        replace hbr := hbr.trans (hm4.below hg (by omega))
        clear hm4 hc4
        go_wp2_with fail
        go_ret
        exact ⟨t', by omega, rfl, hbr⟩
set_option maxHeartbeats 1000000 in
theorem drawNumber (a : Option Addr) (len cap : Nat) (w : World) (hl : len ≤ 4096) (hcode : CodeAt w a len w.heap.size) :
    Calls Tryd.prog 19 #[.slice a len cap] w fun e w' => ∃ s : ByteArray, s.size ≤ 5 ∧ e = .returned (.string s) ∧ Below w.heap.size w w' := by
  go_enter Tryd.func19, Tryd.ntmps19
  go_wp2_with fail
  refine (new1 a len cap _ hl hcode).mono ?_; rintro x w1 ⟨g, rfl, hg, hc1, hb1⟩
  go_wp2_with fail
  refine (below1 g _ 6 _ hc1 (by omega)).mono ?_; rintro e w2 ⟨x, x0, x1, _, rfl, hc2, hm2⟩
  have x5 := x1 (by omega)
  have hbw : Below w.heap.size w w2 := hb1.trans (hm2.below hg hb1.size)
  clear x1 hm2
  go_wp2_with fail
  go_loopw [4, 5] (fun v n wr => ∃ (m : Nat) (t : ByteArray), n = .int .i64 m ∧ v = .string t ∧ t.size + m ≤ 5 ∧ Cur wr g w.heap.size ∧ Below w.heap.size w wr) (fun _ n _ => (intOf n).toNat)
  case atStart =>
    obtain ⟨m, rfl⟩ : ∃ m : Nat, x = m := ⟨x.toNat, by omega⟩
    exact ⟨m, ⟨#[]⟩, rfl, rfl, by simp [ByteArray.size]; omega, hc2, hbw⟩
  case round =>
    obtain ⟨m, t, rfl, rfl, hmt, hcr, hbr⟩ := hrel
    have hsr := hbr.size
    by_cases hm : 0 < m
    · obtain ⟨m', rfl⟩ : ∃ m', m = m' + 1 := ⟨m - 1, by omega⟩
      go_wp2_with fail
      refine (byte1 g _ _ hcr).mono ?_; rintro e w3 ⟨y, y0, y1, rfl, hc3, hm3⟩
      replace hbr := hbr.trans (hm3.below hg (by omega))
      have hcv := row_string (l := [y]) (ownsRow_one w3 5 (.int .u8 y)) (by intro z hz; simp at hz; omega)
      have wy : IntKind.u8.wrap y = y := by rw [IntKind.wrap_u8]; omega
      have hss : (strOf [y]).size = 1 := rfl
      obtain ⟨S, hS⟩ : ∃ S, strOf [y] = S := ⟨_, rfl⟩
      rw [hS] at hss hcv
      have HSS := hide hss
      have s1 : ¬ 9223372036854775807 < t.size + S.size := by omega
      replace hbr := bo_alloc hbr (.cells #[.int .u8 y] 5)
      have hc4 := hc3.alloc (.cells #[.int .u8 y] 5)
      clear hS hm3 hc3 hss
      go_wp2_with fail
      go_roundw
      case rel => exact ⟨m', _, by go_num, rfl, by rw [ba_size_append, HSS.out]; omega, hc4, hbr⟩
      case measure => simp [intOf]
    · obtain rfl : m = 0 := by omega
      go_wp2_with fail
      go_ret
      exact ⟨t, by omega, rfl, hbr⟩
set_option maxHeartbeats 1000000 in
theorem drawBytes (a : Option Addr) (len cap : Nat) (w : World) (hl : len ≤ 4096) (hcode : CodeAt w a len w.heap.size) :
    Calls Tryd.prog 20 #[.slice a len cap] w fun e w' => ∃ n c : Int, e = .returned (.tuple #[.int .i64 n, .int .i64 c]) ∧ Below w.heap.size w w' := by
  go_enter Tryd.func20, Tryd.ntmps20
  go_wp2_with fail
  refine (new1 a len cap _ hl hcode).mono ?_; rintro x w1 ⟨g, rfl, hg, hc1, hb1⟩
  go_wp2_with fail
  refine (from1 g _ (-1) 8 _ hc1 (by omega) (by omega) (by omega)).mono ?_; rintro e w2 ⟨c, c0, c1, rfl, hc2, hm2⟩
  have hbw : Below w.heap.size w w2 := hb1.trans (hm2.below hg hb1.size)
  have hs2 := hbw.size
  have hg2 := hc2.lt
  clear hm2 hb1 hc1
  obtain ⟨VA, hVA⟩ : ∃ V, w2.alloc (.cells #[.int .i64 (-1), .int .i64 0, .int .i64 255, .int .i64 256, .int .i64 65535, .int .i64 65536, .int .i64 16777215, .int .i64 16777216, .int .i64 4294967295, .int .i64 4294967296] 2) = V := ⟨_, rfl⟩
  have RA : RowIs VA w2.heap.size 2 [.int .i64 (-1), .int .i64 0, .int .i64 255, .int .i64 256, .int .i64 65535, .int .i64 65536, .int .i64 16777215, .int .i64 16777216, .int .i64 4294967295, .int .i64 4294967296] := by rw [← hVA]; exact rowIs_new w2 _ _
  have hbA : Below w2.heap.size w2 VA := by rw [← hVA]; exact (Below.refl _ _).alloc (Nat.le_refl _) _
  go_wp2_with fail
  clear hVA
  replace hbw := bchain hbw hbA
  replace hc2 := hc2.below hbA
  refine (below1 g _ 10 _ hc2 (by omega)).mono ?_; rintro e w3 ⟨q, q0, q1, _, rfl, hc3, hm3⟩
  have q10 := q1 (by omega)
  replace RA := RA.moves hm3 (by omega)
  replace hbw := hbw.trans (hm3.below hg (by have := hbA.size; omega))
  obtain ⟨qn, rfl⟩ : ∃ n : Nat, q = n := ⟨q.toNat, by omega⟩
  obtain ⟨n, hn⟩ : ∃ n : Int, w3.cell? ⟨w2.heap.size, qn, none⟩ = some (.int .i64 n) := by
    have : qn = 0 ∨ qn = 1 ∨ qn = 2 ∨ qn = 3 ∨ qn = 4 ∨ qn = 5 ∨ qn = 6 ∨ qn = 7 ∨ qn = 8 ∨ qn = 9 := by omega
    rcases this with rfl | rfl | rfl | rfl | rfl | rfl | rfl | rfl | rfl | rfl <;> exact ⟨_, RA.cell rfl⟩
  have hlA := RA.lt
  clear q1 hm3 hc3 hc2 hbA RA
  go_wp2_with fail
  go_ret2
  exact ⟨n, c, rfl, hbw⟩
end Go.Proofs.YtelcnojmfkoboaaDoor
