/- A Tunnel that is drawn, and what the law of tunnels draws. -/
import Derived.Test.YthkjjnnmnacgcaaTunSpec3
import Derived.Test.YthkjjnnmnacgcaaDrawPipe2
import Derived.Test.YthkjjnnmnacgcaaCurTurn
import Derived.Test.YthkjjnnmnacgcaaOpenCode
import Derived.Deep.RegionHeld3
import Derived.Deep.Cut
import Derived.Deep.DeepCutAuto

namespace Go.Proofs.Ythkjjnnmnacgcaa
open Go.RowKit
set_option maxRecDepth 100000
set_option linter.unusedSimpArgs false
set_option linter.unusedVariables false
theorem Moves.setRowNew {g : Nat} {a b : World} (h : Moves g a b) (p : Nat) (hp : a.heap.size ≤ p) (cs : Array Value) : Moves g a (b.setRow p cs) :=
  ⟨h.os, h.tape, h.output, by rw [setRow_size]; exact h.size, fun k hk hne => by rw [setRow_other _ _ _ _ (by omega)]; exact h.block k hk hne⟩
theorem Cur.setRowUp {w : World} {g B : Nat} (h : Cur w g B) (p : Nat) (hp : g < p) (cs : Array Value) : Cur (w.setRow p cs) g B :=
  h.kept ⟨rfl, rfl, rfl, by rw [setRow_size]; exact Nat.le_refl _, fun k hk => by rw [setRow_other _ _ _ _ (by omega)]⟩
set_option maxHeartbeats 2000000 in
theorem draw16 (g B : Nat) (w : World) (hc : Cur w g B) :
    Calls Try.prog 28 #[.pointer (some ⟨g, 0, none⟩)] w fun e w' => ∃ t : TuD, t.up.b.size ≤ 100 ∧ t.dn.b.size ≤ 100 ∧ e = .returned (tuv t) ∧ Cur w' g B ∧ Moves g w w' := by
  have hgw := hc.lt
  go_enter Try.func28, Try.ntmps28
  have RY := rowIs_new w 27 [.int .i64 0, .string ⟨#[]⟩, .bool false, .bool false, .int .i64 0, .string ⟨#[]⟩, .bool false, .bool false, .int .i64 0, .int .i64 0]
  have hm : Moves g w (w.alloc (.cells #[.int .i64 0, .string ⟨#[]⟩, .bool false, .bool false, .int .i64 0, .string ⟨#[]⟩, .bool false, .bool false, .int .i64 0, .int .i64 0] 27)) := (Moves.refl g w).alloc _
  replace hc := hc.alloc (.cells #[.int .i64 0, .string ⟨#[]⟩, .bool false, .bool false, .int .i64 0, .string ⟨#[]⟩, .bool false, .bool false, .int .i64 0, .int .i64 0] 27)
  go_wp2_with fail
  refine (drawAnyPp g B _ hc).mono ?_; rintro x w1 ⟨r, b, e, k, hb, rfl, hcx, hmx⟩
  replace RY := RY.moves hmx (by omega)
  replace hm := hm.trans hmx
  replace hc := hcx
  clear hmx hcx
  go_wp2_with fail
  refine (drawAnyPp g B _ hc).mono ?_; rintro x w2 ⟨r2, b2, e2, k2, hb2, rfl, hcx, hmx⟩
  replace RY := RY.moves hmx (by omega)
  replace hm := hm.trans hmx
  replace hc := hcx
  clear hmx hcx
  go_wp2_with fail
  refine (below1 g B 9 _ hc (by omega)).mono ?_; rintro x w3 ⟨wt, t0, t1, _, rfl, hcx, hmx⟩
  replace RY := RY.moves hmx (by omega)
  replace hm := hm.trans hmx
  replace hc := hcx
  clear hmx hcx
  go_wp2_with fail
  refine (below1 g B 9 _ hc (by omega)).mono ?_; rintro x w4 ⟨cm, c0, c1, _, rfl, hcx, hmx⟩
  replace RY := RY.moves hmx (by omega)
  replace hm := hm.trans hmx
  replace hc := hcx
  clear hmx hcx
  go_upto_region 2 with (refine wpList_store_row (by rfl) 27 _ _ (by rfl) w4.heap.size [.int .i64 r, .string b, .bool e, .bool k, .int .i64 r2, .string b2, .bool e2, .bool k2, .int .i64 wt, .int .i64 cm] (by rfl) (by rfl) 27 [.int .i64 0, .string ⟨#[]⟩, .bool false, .bool false, .int .i64 0, .string ⟨#[]⟩, .bool false, .bool false, .int .i64 0, .int .i64 0] (rowIs_new w4 27 [.int .i64 0, .string ⟨#[]⟩, .bool false, .bool false, .int .i64 0, .string ⟨#[]⟩, .bool false, .bool false, .int .i64 0, .int .i64 0]) (by kernel_rfl) rfl (by intro u hu; simp at hu; rcases hu with rfl | rfl | rfl | rfl | rfl | rfl | rfl | rfl | rfl | rfl <;> rfl) ?_)
  obtain ⟨gRB, hgRB⟩ : ∃ q, q = w4.heap.size := ⟨_, rfl⟩
  have hltRYRB : w.heap.size < gRB := by have := RY.lt; omega
  have hggRB : g < gRB := by have := hc.lt; omega
  have hleRB : w.heap.size ≤ gRB := by have := hm.size; omega
  have RB : RowIs ((w4.alloc (.cells #[.int .i64 0, .string ⟨#[]⟩, .bool false, .bool false, .int .i64 0, .string ⟨#[]⟩, .bool false, .bool false, .int .i64 0, .int .i64 0] 27)).setRow w4.heap.size #[.int .i64 r, .string b, .bool e, .bool k, .int .i64 r2, .string b2, .bool e2, .bool k2, .int .i64 wt, .int .i64 cm]) w4.heap.size 27 [.int .i64 r, .string b, .bool e, .bool k, .int .i64 r2, .string b2, .bool e2, .bool k2, .int .i64 wt, .int .i64 cm] := rowIs_setRow (cs' := [.int .i64 r, .string b, .bool e, .bool k, .int .i64 r2, .string b2, .bool e2, .bool k2, .int .i64 wt, .int .i64 cm]) (rowIs_new w4 27 [.int .i64 0, .string ⟨#[]⟩, .bool false, .bool false, .int .i64 0, .string ⟨#[]⟩, .bool false, .bool false, .int .i64 0, .int .i64 0])
  have hbV : Below w4.heap.size w4 ((w4.alloc (.cells #[.int .i64 0, .string ⟨#[]⟩, .bool false, .bool false, .int .i64 0, .string ⟨#[]⟩, .bool false, .bool false, .int .i64 0, .int .i64 0] 27)).setRow w4.heap.size #[.int .i64 r, .string b, .bool e, .bool k, .int .i64 r2, .string b2, .bool e2, .bool k2, .int .i64 wt, .int .i64 cm]) := below_setRow ((Below.refl _ _).alloc (Nat.le_refl _) _) (Nat.le_refl _) #[.int .i64 r, .string b, .bool e, .bool k, .int .i64 r2, .string b2, .bool e2, .bool k2, .int .i64 wt, .int .i64 cm]
  replace RY := RY.new hbV
  replace hm := hm.trans (Moves.of_below hbV)
  replace hc := hc.below hbV
  clear hbV
  rw [← hgRB] at RB
  try rw [← hgRB]
  try rw [← hgRB] at *
  generalize hV : (w4.alloc (.cells #[.int .i64 0, .string ⟨#[]⟩, .bool false, .bool false, .int .i64 0, .string ⟨#[]⟩, .bool false, .bool false, .int .i64 0, .int .i64 0] 27)).setRow gRB #[.int .i64 r, .string b, .bool e, .bool k, .int .i64 r2, .string b2, .bool e2, .bool k2, .int .i64 wt, .int .i64 cm] = V5 at *
  clear hV hgRB
  go_wp2_with fail
  refine (once1 g B 14 _ hc (by omega)).mono ?_; rintro x w6 ⟨bb, rfl, hcx, hmx⟩
  replace RY := RY.moves hmx (by omega)
  replace RB := RB.moves hmx (by omega)
  replace hm := hm.trans hmx
  replace hc := hcx
  clear hmx hcx
  cases bb
  · skip
    go_wp2_with (first | (refine wpList_load_row (by rfl) 27 _ (by rfl) gRB (by rfl) [.int .i64 r, .string b, .bool e, .bool k, .int .i64 r2, .string b2, .bool e2, .bool k2, .int .i64 wt, .int .i64 cm] _ 27 RB Try.underlying27 rfl (by kernel_rfl) ?_) | (refine wpList_store_row (by rfl) 27 _ _ (by rfl) w.heap.size [.int .i64 r, .string b, .bool e, .bool k, .int .i64 r2, .string b2, .bool e2, .bool k2, .int .i64 wt, .int .i64 cm] (by rfl) (by rfl) 27 [.int .i64 0, .string ⟨#[]⟩, .bool false, .bool false, .int .i64 0, .string ⟨#[]⟩, .bool false, .bool false, .int .i64 0, .int .i64 0] RY (by kernel_rfl) rfl (by intro u hu; simp at hu; rcases hu with rfl | rfl | rfl | rfl | rfl | rfl | rfl | rfl | rfl | rfl <;> rfl) ?_))
    have NY : RowIs (w6.setRow w.heap.size #[.int .i64 r, .string b, .bool e, .bool k, .int .i64 r2, .string b2, .bool e2, .bool k2, .int .i64 wt, .int .i64 cm]) w.heap.size 27 [.int .i64 r, .string b, .bool e, .bool k, .int .i64 r2, .string b2, .bool e2, .bool k2, .int .i64 wt, .int .i64 cm] := rowIs_setRow (cs' := [.int .i64 r, .string b, .bool e, .bool k, .int .i64 r2, .string b2, .bool e2, .bool k2, .int .i64 wt, .int .i64 cm]) RY
    replace hm := hm.setRowNew w.heap.size (show w.heap.size ≤ w.heap.size by omega) #[.int .i64 r, .string b, .bool e, .bool k, .int .i64 r2, .string b2, .bool e2, .bool k2, .int .i64 wt, .int .i64 cm]
    replace hc := hc.setRowUp w.heap.size (show g < w.heap.size by omega) #[.int .i64 r, .string b, .bool e, .bool k, .int .i64 r2, .string b2, .bool e2, .bool k2, .int .i64 wt, .int .i64 cm]
    clear RY
    generalize hV : w6.setRow w.heap.size #[.int .i64 r, .string b, .bool e, .bool k, .int .i64 r2, .string b2, .bool e2, .bool k2, .int .i64 wt, .int .i64 cm] = V7 at *
    clear hV
    have RY := NY
    clear NY
    have y0 := RowIs.cell (j := 0) RY rfl
    have y1 := RowIs.cell (j := 1) RY rfl
    have y2 := RowIs.cell (j := 2) RY rfl
    have y3 := RowIs.cell (j := 3) RY rfl
    have y4 := RowIs.cell (j := 4) RY rfl
    have y5 := RowIs.cell (j := 5) RY rfl
    have y6 := RowIs.cell (j := 6) RY rfl
    have y7 := RowIs.cell (j := 7) RY rfl
    have y8 := RowIs.cell (j := 8) RY rfl
    have y9 := RowIs.cell (j := 9) RY rfl
    have yf := fun j => RowIs.frozen RY j
    have yl := RY.lt
    refine bodyPost_ret (v := .agg #[.int .i64 r, .string b, .bool e, .bool k, .int .i64 r2, .string b2, .bool e2, .bool k2, .int .i64 wt, .int .i64 cm]) (by simp [results, Try.results28, go_sem, *]) rfl ?_
    exact ⟨⟨⟨r, b, e, k⟩, ⟨r2, b2, e2, k2⟩, wt, cm⟩, hb, hb2, rfl, hc, hm⟩
  obtain ⟨VA, hVA⟩ : ∃ V, w6.alloc (.cells #[.int .i64 (-1), .int .i64 1000000, .int .i64 1000001, .int .i64 999999] 2) = V := ⟨_, rfl⟩
  have RA : RowIs VA w6.heap.size 2 [.int .i64 (-1), .int .i64 1000000, .int .i64 1000001, .int .i64 999999] := by rw [← hVA]; exact rowIs_new w6 _ _
  have hbA : Below w6.heap.size w6 VA := by rw [← hVA]; exact (Below.refl _ _).alloc (Nat.le_refl _) _
  have hlA := hc.lt
  have hlB := RB.lt
  replace RB := RB.new hbA
  replace RY := RY.new hbA
  replace hm := hm.trans (Moves.of_below hbA)
  replace hc := hc.below hbA
  go_wp2_with fail
  (try rw [hVA])
  clear hVA hbA
  generalize w6.heap.size = gA at *
  refine (below1 g B 4 _ hc (by omega)).mono ?_; rintro x w9 ⟨q, q0, q1, _, rfl, hcx, hmx⟩
  have q6 := q1 (by omega)
  replace RA := RA.moves hmx (by omega)
  replace RY := RY.moves hmx (by omega)
  replace RB := RB.moves hmx (by omega)
  replace hm := hm.trans hmx
  replace hc := hcx
  clear hmx hcx
  obtain ⟨qn, rfl⟩ : ∃ n : Nat, q = n := ⟨q.toNat, by omega⟩
  obtain ⟨z, hz⟩ : ∃ z : Int, w9.cell? ⟨gA, qn, none⟩ = some (.int .i64 z) := by
    have : qn = 0 ∨ qn = 1 ∨ qn = 2 ∨ qn = 3 := by omega
    rcases this with rfl | rfl | rfl | rfl <;> exact ⟨_, RA.cell rfl⟩
  have hlA2 := RA.lt
  clear q1 RA
  have z8 := RowIs.cell (j := 8) RB rfl
  have zf := fun j => RowIs.frozen RB j
  have zl := RB.lt
  go_upto_region 4 with fail
  clear z8 zf zl hz hlA2 hlA hlB
  have NRY := RY.far ⟨gRB, 8, none⟩ (.int .i64 z) (show gRB ≠ w.heap.size by omega)
  have NRB : RowIs (w9.setCell ⟨gRB, 8, none⟩ (.int .i64 z)) gRB 27 [.int .i64 r, .string b, .bool e, .bool k, .int .i64 r2, .string b2, .bool e2, .bool k2, .int .i64 z, .int .i64 cm] := RB.set 8 (.int .i64 z)
  replace hm := hm.setNew ⟨gRB, 8, none⟩ (show w.heap.size ≤ gRB by omega) (.int .i64 z)
  replace hc := hc.set ⟨gRB, 8, none⟩ (.int .i64 z) (show g < gRB by omega)
  generalize hV : w9.setCell ⟨gRB, 8, none⟩ (.int .i64 z) = V10 at *
  clear hV
  clear RY
  have RY := NRY
  clear NRY
  clear RB
  have RB := NRB
  clear NRB
  go_wp2_with (first | (refine wpList_load_row (by rfl) 27 _ (by rfl) gRB (by rfl) [.int .i64 r, .string b, .bool e, .bool k, .int .i64 r2, .string b2, .bool e2, .bool k2, .int .i64 z, .int .i64 cm] _ 27 RB Try.underlying27 rfl (by kernel_rfl) ?_) | (refine wpList_store_row (by rfl) 27 _ _ (by rfl) w.heap.size [.int .i64 r, .string b, .bool e, .bool k, .int .i64 r2, .string b2, .bool e2, .bool k2, .int .i64 z, .int .i64 cm] (by rfl) (by rfl) 27 [.int .i64 0, .string ⟨#[]⟩, .bool false, .bool false, .int .i64 0, .string ⟨#[]⟩, .bool false, .bool false, .int .i64 0, .int .i64 0] RY (by kernel_rfl) rfl (by intro u hu; simp at hu; rcases hu with rfl | rfl | rfl | rfl | rfl | rfl | rfl | rfl | rfl | rfl <;> rfl) ?_))
  have NY : RowIs (V10.setRow w.heap.size #[.int .i64 r, .string b, .bool e, .bool k, .int .i64 r2, .string b2, .bool e2, .bool k2, .int .i64 z, .int .i64 cm]) w.heap.size 27 [.int .i64 r, .string b, .bool e, .bool k, .int .i64 r2, .string b2, .bool e2, .bool k2, .int .i64 z, .int .i64 cm] := rowIs_setRow (cs' := [.int .i64 r, .string b, .bool e, .bool k, .int .i64 r2, .string b2, .bool e2, .bool k2, .int .i64 z, .int .i64 cm]) RY
  replace hm := hm.setRowNew w.heap.size (show w.heap.size ≤ w.heap.size by omega) #[.int .i64 r, .string b, .bool e, .bool k, .int .i64 r2, .string b2, .bool e2, .bool k2, .int .i64 z, .int .i64 cm]
  replace hc := hc.setRowUp w.heap.size (show g < w.heap.size by omega) #[.int .i64 r, .string b, .bool e, .bool k, .int .i64 r2, .string b2, .bool e2, .bool k2, .int .i64 z, .int .i64 cm]
  clear RY
  generalize hV : V10.setRow w.heap.size #[.int .i64 r, .string b, .bool e, .bool k, .int .i64 r2, .string b2, .bool e2, .bool k2, .int .i64 z, .int .i64 cm] = V11 at *
  clear hV
  have RY := NY
  clear NY
  have y0 := RowIs.cell (j := 0) RY rfl
  have y1 := RowIs.cell (j := 1) RY rfl
  have y2 := RowIs.cell (j := 2) RY rfl
  have y3 := RowIs.cell (j := 3) RY rfl
  have y4 := RowIs.cell (j := 4) RY rfl
  have y5 := RowIs.cell (j := 5) RY rfl
  have y6 := RowIs.cell (j := 6) RY rfl
  have y7 := RowIs.cell (j := 7) RY rfl
  have y8 := RowIs.cell (j := 8) RY rfl
  have y9 := RowIs.cell (j := 9) RY rfl
  have yf := fun j => RowIs.frozen RY j
  have yl := RY.lt
  refine bodyPost_ret (v := .agg #[.int .i64 r, .string b, .bool e, .bool k, .int .i64 r2, .string b2, .bool e2, .bool k2, .int .i64 z, .int .i64 cm]) (by simp [results, Try.results28, go_sem, *]) rfl ?_
  exact ⟨⟨⟨r, b, e, k⟩, ⟨r2, b2, e2, k2⟩, z, cm⟩, hb, hb2, rfl, hc, hm⟩
set_option maxHeartbeats 2000000 in
theorem drawOver (a : Option Addr) (len cap : Nat) (w : World) (hl : len ≤ 4096) (hcode : CodeAt w a len w.heap.size) :
    Calls Try.prog 12 #[.slice a len cap] w fun e w' => ∃ t : TuD, t.up.b.size ≤ 100 ∧ t.dn.b.size ≤ 100 ∧ e = .returned (tuv t) ∧ Below w.heap.size w w' := by
  go_enter Try.func12, Try.ntmps12
  have RY := rowIs_new w 27 [.int .i64 0, .string ⟨#[]⟩, .bool false, .bool false, .int .i64 0, .string ⟨#[]⟩, .bool false, .bool false, .int .i64 0, .int .i64 0]
  have HB : Below w.heap.size w (w.alloc (.cells #[.int .i64 0, .string ⟨#[]⟩, .bool false, .bool false, .int .i64 0, .string ⟨#[]⟩, .bool false, .bool false, .int .i64 0, .int .i64 0] 27)) := (Below.refl _ _).alloc (Nat.le_refl _) _
  have hcode2 := hcode.behind HB
  go_wp2_with fail
  refine (new1 a len cap _ hl hcode2).mono ?_; rintro x w1 ⟨g, rfl, hg, hc, hb1⟩
  simp at hg hc
  have hgw : w.heap.size ≤ g := by omega
  replace RY := RY.new hb1
  replace HB := bchain HB hb1
  clear hb1 hcode2
  go_wp2_with fail
  refine (draw16 g _ _ hc).mono ?_; rintro x w2 ⟨⟨⟨r, b, e, k⟩, ⟨r2, b2, e2, k2⟩, wt, cm⟩, hu, hd, rfl, hcx, hmx⟩
  replace RY := RY.moves hmx (by omega)
  replace HB := HB.trans (hmx.below hgw HB.size)
  replace hc := hcx
  clear hmx hcx
  dsimp only [tuv] at *
  go_upto_region 3 with (refine wpList_store_row (by rfl) 27 _ _ (by rfl) w2.heap.size [.int .i64 r, .string b, .bool e, .bool k, .int .i64 r2, .string b2, .bool e2, .bool k2, .int .i64 wt, .int .i64 cm] (by rfl) (by rfl) 27 [.int .i64 0, .string ⟨#[]⟩, .bool false, .bool false, .int .i64 0, .string ⟨#[]⟩, .bool false, .bool false, .int .i64 0, .int .i64 0] (rowIs_new w2 27 [.int .i64 0, .string ⟨#[]⟩, .bool false, .bool false, .int .i64 0, .string ⟨#[]⟩, .bool false, .bool false, .int .i64 0, .int .i64 0]) (by kernel_rfl) rfl (by intro u hu; simp at hu; rcases hu with rfl | rfl | rfl | rfl | rfl | rfl | rfl | rfl | rfl | rfl <;> rfl) ?_)
  obtain ⟨gRB, hgRB⟩ : ∃ q, q = w2.heap.size := ⟨_, rfl⟩
  have hltRYRB : w.heap.size < gRB := by have := RY.lt; omega
  have hggRB : g < gRB := by have := hc.lt; omega
  have hleRB : w.heap.size ≤ gRB := by have := HB.size; omega
  have RB : RowIs ((w2.alloc (.cells #[.int .i64 0, .string ⟨#[]⟩, .bool false, .bool false, .int .i64 0, .string ⟨#[]⟩, .bool false, .bool false, .int .i64 0, .int .i64 0] 27)).setRow w2.heap.size #[.int .i64 r, .string b, .bool e, .bool k, .int .i64 r2, .string b2, .bool e2, .bool k2, .int .i64 wt, .int .i64 cm]) w2.heap.size 27 [.int .i64 r, .string b, .bool e, .bool k, .int .i64 r2, .string b2, .bool e2, .bool k2, .int .i64 wt, .int .i64 cm] := rowIs_setRow (cs' := [.int .i64 r, .string b, .bool e, .bool k, .int .i64 r2, .string b2, .bool e2, .bool k2, .int .i64 wt, .int .i64 cm]) (rowIs_new w2 27 [.int .i64 0, .string ⟨#[]⟩, .bool false, .bool false, .int .i64 0, .string ⟨#[]⟩, .bool false, .bool false, .int .i64 0, .int .i64 0])
  have hbV : Below w2.heap.size w2 ((w2.alloc (.cells #[.int .i64 0, .string ⟨#[]⟩, .bool false, .bool false, .int .i64 0, .string ⟨#[]⟩, .bool false, .bool false, .int .i64 0, .int .i64 0] 27)).setRow w2.heap.size #[.int .i64 r, .string b, .bool e, .bool k, .int .i64 r2, .string b2, .bool e2, .bool k2, .int .i64 wt, .int .i64 cm]) := below_setRow ((Below.refl _ _).alloc (Nat.le_refl _) _) (Nat.le_refl _) #[.int .i64 r, .string b, .bool e, .bool k, .int .i64 r2, .string b2, .bool e2, .bool k2, .int .i64 wt, .int .i64 cm]
  replace RY := RY.new hbV
  replace HB := bchain HB hbV
  replace hc := hc.below hbV
  clear hbV
  rw [← hgRB] at RB
  try rw [← hgRB]
  try rw [← hgRB] at *
  generalize hV : (w2.alloc (.cells #[.int .i64 0, .string ⟨#[]⟩, .bool false, .bool false, .int .i64 0, .string ⟨#[]⟩, .bool false, .bool false, .int .i64 0, .int .i64 0] 27)).setRow gRB #[.int .i64 r, .string b, .bool e, .bool k, .int .i64 r2, .string b2, .bool e2, .bool k2, .int .i64 wt, .int .i64 cm] = V3 at *
  clear hV hgRB
  go_wp2_with fail
  refine (once1 g _ 3 _ hc (by omega)).mono ?_; rintro x w4 ⟨bb, rfl, hcx, hmx⟩
  replace RY := RY.moves hmx (by omega)
  replace RB := RB.moves hmx (by omega)
  replace HB := HB.trans (hmx.below hgw HB.size)
  replace hc := hcx
  clear hmx hcx
  cases bb
  · skip
    go_wp2_with (first | (refine wpList_load_row (by rfl) 27 _ (by rfl) gRB (by rfl) [.int .i64 r, .string b, .bool e, .bool k, .int .i64 r2, .string b2, .bool e2, .bool k2, .int .i64 wt, .int .i64 cm] _ 27 RB Try.underlying27 rfl (by kernel_rfl) ?_) | (refine wpList_store_row (by rfl) 27 _ _ (by rfl) w.heap.size [.int .i64 r, .string b, .bool e, .bool k, .int .i64 r2, .string b2, .bool e2, .bool k2, .int .i64 wt, .int .i64 cm] (by rfl) (by rfl) 27 [.int .i64 0, .string ⟨#[]⟩, .bool false, .bool false, .int .i64 0, .string ⟨#[]⟩, .bool false, .bool false, .int .i64 0, .int .i64 0] RY (by kernel_rfl) rfl (by intro u hu; simp at hu; rcases hu with rfl | rfl | rfl | rfl | rfl | rfl | rfl | rfl | rfl | rfl <;> rfl) ?_))
    have NY : RowIs (w4.setRow w.heap.size #[.int .i64 r, .string b, .bool e, .bool k, .int .i64 r2, .string b2, .bool e2, .bool k2, .int .i64 wt, .int .i64 cm]) w.heap.size 27 [.int .i64 r, .string b, .bool e, .bool k, .int .i64 r2, .string b2, .bool e2, .bool k2, .int .i64 wt, .int .i64 cm] := rowIs_setRow (cs' := [.int .i64 r, .string b, .bool e, .bool k, .int .i64 r2, .string b2, .bool e2, .bool k2, .int .i64 wt, .int .i64 cm]) RY
    replace HB := below_setRow HB (show w.heap.size ≤ w.heap.size by omega) #[.int .i64 r, .string b, .bool e, .bool k, .int .i64 r2, .string b2, .bool e2, .bool k2, .int .i64 wt, .int .i64 cm]
    clear RY
    generalize hV : w4.setRow w.heap.size #[.int .i64 r, .string b, .bool e, .bool k, .int .i64 r2, .string b2, .bool e2, .bool k2, .int .i64 wt, .int .i64 cm] = V5 at *
    clear hV
    have RY := NY
    clear NY
    have y0 := RowIs.cell (j := 0) RY rfl
    have y1 := RowIs.cell (j := 1) RY rfl
    have y2 := RowIs.cell (j := 2) RY rfl
    have y3 := RowIs.cell (j := 3) RY rfl
    have y4 := RowIs.cell (j := 4) RY rfl
    have y5 := RowIs.cell (j := 5) RY rfl
    have y6 := RowIs.cell (j := 6) RY rfl
    have y7 := RowIs.cell (j := 7) RY rfl
    have y8 := RowIs.cell (j := 8) RY rfl
    have y9 := RowIs.cell (j := 9) RY rfl
    have yf := fun j => RowIs.frozen RY j
    have yl := RY.lt
    refine bodyPost_ret (v := .agg #[.int .i64 r, .string b, .bool e, .bool k, .int .i64 r2, .string b2, .bool e2, .bool k2, .int .i64 wt, .int .i64 cm]) (by simp [results, Try.results12, go_sem, *]) rfl ?_
    exact ⟨⟨⟨r, b, e, k⟩, ⟨r2, b2, e2, k2⟩, wt, cm⟩, hu, hd, rfl, HB⟩
  have z1 := RowIs.cell (j := 1) RB rfl
  have z2 := RowIs.cell (j := 2) RB rfl
  have z5 := RowIs.cell (j := 5) RB rfl
  have z6 := RowIs.cell (j := 6) RB rfl
  have zf := fun j => RowIs.frozen RB j
  have zl := RB.lt
  go_upto_region 8 with fail
  clear z1 z2 z5 z6 zf zl
  have NRY := RY.far ⟨gRB, 2, none⟩ (.bool true) (show gRB ≠ w.heap.size by omega)
  have NRB : RowIs (w4.setCell ⟨gRB, 2, none⟩ (.bool true)) gRB 27 [.int .i64 r, .string b, .bool true, .bool k, .int .i64 r2, .string b2, .bool e2, .bool k2, .int .i64 wt, .int .i64 cm] := RB.set 2 (.bool true)
  replace HB := HB.setCell (p := ⟨gRB, 2, none⟩) (show w.heap.size ≤ gRB by omega) (.bool true)
  replace hc := hc.set ⟨gRB, 2, none⟩ (.bool true) (show g < gRB by omega)
  generalize hV : w4.setCell ⟨gRB, 2, none⟩ (.bool true) = V5 at *
  clear hV
  clear RY
  have RY := NRY
  clear NRY
  clear RB
  have RB := NRB
  clear NRB
  have NRY := RY.far ⟨gRB, 1, none⟩ (.string ⟨#[]⟩) (show gRB ≠ w.heap.size by omega)
  have NRB : RowIs (V5.setCell ⟨gRB, 1, none⟩ (.string ⟨#[]⟩)) gRB 27 [.int .i64 r, .string ⟨#[]⟩, .bool true, .bool k, .int .i64 r2, .string b2, .bool e2, .bool k2, .int .i64 wt, .int .i64 cm] := RB.set 1 (.string ⟨#[]⟩)
  replace HB := HB.setCell (p := ⟨gRB, 1, none⟩) (show w.heap.size ≤ gRB by omega) (.string ⟨#[]⟩)
  replace hc := hc.set ⟨gRB, 1, none⟩ (.string ⟨#[]⟩) (show g < gRB by omega)
  generalize hV : V5.setCell ⟨gRB, 1, none⟩ (.string ⟨#[]⟩) = V6 at *
  clear hV
  clear RY
  have RY := NRY
  clear NRY
  clear RB
  have RB := NRB
  clear NRB
  have NRY := RY.far ⟨gRB, 6, none⟩ (.bool true) (show gRB ≠ w.heap.size by omega)
  have NRB : RowIs (V6.setCell ⟨gRB, 6, none⟩ (.bool true)) gRB 27 [.int .i64 r, .string ⟨#[]⟩, .bool true, .bool k, .int .i64 r2, .string b2, .bool true, .bool k2, .int .i64 wt, .int .i64 cm] := RB.set 6 (.bool true)
  replace HB := HB.setCell (p := ⟨gRB, 6, none⟩) (show w.heap.size ≤ gRB by omega) (.bool true)
  replace hc := hc.set ⟨gRB, 6, none⟩ (.bool true) (show g < gRB by omega)
  generalize hV : V6.setCell ⟨gRB, 6, none⟩ (.bool true) = V7 at *
  clear hV
  clear RY
  have RY := NRY
  clear NRY
  clear RB
  have RB := NRB
  clear NRB
  have NRY := RY.far ⟨gRB, 5, none⟩ (.string ⟨#[]⟩) (show gRB ≠ w.heap.size by omega)
  have NRB : RowIs (V7.setCell ⟨gRB, 5, none⟩ (.string ⟨#[]⟩)) gRB 27 [.int .i64 r, .string ⟨#[]⟩, .bool true, .bool k, .int .i64 r2, .string ⟨#[]⟩, .bool true, .bool k2, .int .i64 wt, .int .i64 cm] := RB.set 5 (.string ⟨#[]⟩)
  replace HB := HB.setCell (p := ⟨gRB, 5, none⟩) (show w.heap.size ≤ gRB by omega) (.string ⟨#[]⟩)
  replace hc := hc.set ⟨gRB, 5, none⟩ (.string ⟨#[]⟩) (show g < gRB by omega)
  generalize hV : V7.setCell ⟨gRB, 5, none⟩ (.string ⟨#[]⟩) = V8 at *
  clear hV
  clear RY
  have RY := NRY
  clear NRY
  clear RB
  have RB := NRB
  clear NRB
  go_wp2_with (first | (refine wpList_load_row (by rfl) 27 _ (by rfl) gRB (by rfl) [.int .i64 r, .string ⟨#[]⟩, .bool true, .bool k, .int .i64 r2, .string ⟨#[]⟩, .bool true, .bool k2, .int .i64 wt, .int .i64 cm] _ 27 RB Try.underlying27 rfl (by kernel_rfl) ?_) | (refine wpList_store_row (by rfl) 27 _ _ (by rfl) w.heap.size [.int .i64 r, .string ⟨#[]⟩, .bool true, .bool k, .int .i64 r2, .string ⟨#[]⟩, .bool true, .bool k2, .int .i64 wt, .int .i64 cm] (by rfl) (by rfl) 27 [.int .i64 0, .string ⟨#[]⟩, .bool false, .bool false, .int .i64 0, .string ⟨#[]⟩, .bool false, .bool false, .int .i64 0, .int .i64 0] RY (by kernel_rfl) rfl (by intro u hu; simp at hu; rcases hu with rfl | rfl | rfl | rfl | rfl | rfl | rfl | rfl | rfl | rfl <;> rfl) ?_))
  have NY : RowIs (V8.setRow w.heap.size #[.int .i64 r, .string ⟨#[]⟩, .bool true, .bool k, .int .i64 r2, .string ⟨#[]⟩, .bool true, .bool k2, .int .i64 wt, .int .i64 cm]) w.heap.size 27 [.int .i64 r, .string ⟨#[]⟩, .bool true, .bool k, .int .i64 r2, .string ⟨#[]⟩, .bool true, .bool k2, .int .i64 wt, .int .i64 cm] := rowIs_setRow (cs' := [.int .i64 r, .string ⟨#[]⟩, .bool true, .bool k, .int .i64 r2, .string ⟨#[]⟩, .bool true, .bool k2, .int .i64 wt, .int .i64 cm]) RY
  replace HB := below_setRow HB (show w.heap.size ≤ w.heap.size by omega) #[.int .i64 r, .string ⟨#[]⟩, .bool true, .bool k, .int .i64 r2, .string ⟨#[]⟩, .bool true, .bool k2, .int .i64 wt, .int .i64 cm]
  clear RY
  generalize hV : V8.setRow w.heap.size #[.int .i64 r, .string ⟨#[]⟩, .bool true, .bool k, .int .i64 r2, .string ⟨#[]⟩, .bool true, .bool k2, .int .i64 wt, .int .i64 cm] = V9 at *
  clear hV
  have RY := NY
  clear NY
  have y0 := RowIs.cell (j := 0) RY rfl
  have y1 := RowIs.cell (j := 1) RY rfl
  have y2 := RowIs.cell (j := 2) RY rfl
  have y3 := RowIs.cell (j := 3) RY rfl
  have y4 := RowIs.cell (j := 4) RY rfl
  have y5 := RowIs.cell (j := 5) RY rfl
  have y6 := RowIs.cell (j := 6) RY rfl
  have y7 := RowIs.cell (j := 7) RY rfl
  have y8 := RowIs.cell (j := 8) RY rfl
  have y9 := RowIs.cell (j := 9) RY rfl
  have yf := fun j => RowIs.frozen RY j
  have yl := RY.lt
  refine bodyPost_ret (v := .agg #[.int .i64 r, .string ⟨#[]⟩, .bool true, .bool k, .int .i64 r2, .string ⟨#[]⟩, .bool true, .bool k2, .int .i64 wt, .int .i64 cm]) (by simp [results, Try.results12, go_sem, *]) rfl ?_
  exact ⟨⟨⟨r, ⟨#[]⟩, true, k⟩, ⟨r2, ⟨#[]⟩, true, k2⟩, wt, cm⟩, (by show ByteArray.size ⟨#[]⟩ ≤ 100; decide), (by show ByteArray.size ⟨#[]⟩ ≤ 100; decide), rfl, HB⟩
set_option maxHeartbeats 2000000 in
theorem drawIn16 (a : Option Addr) (len cap : Nat) (w : World) (hl : len ≤ 4096) (hcode : CodeAt w a len w.heap.size) :
    Calls Try.prog 6 #[.slice a len cap] w fun e w' => ∃ (t : TuD) (s : ByteArray) (fin : Bool), t.up.b.size ≤ 100 ∧ t.dn.b.size ≤ 100 ∧ s.size ≤ 6 ∧ e = .returned (.tuple #[tuv t, .string s, .bool fin]) ∧ Below w.heap.size w w' := by
  go_enter Try.func6, Try.ntmps6
  have RY := rowIs_new w 27 [.int .i64 0, .string ⟨#[]⟩, .bool false, .bool false, .int .i64 0, .string ⟨#[]⟩, .bool false, .bool false, .int .i64 0, .int .i64 0]
  have HB : Below w.heap.size w (w.alloc (.cells #[.int .i64 0, .string ⟨#[]⟩, .bool false, .bool false, .int .i64 0, .string ⟨#[]⟩, .bool false, .bool false, .int .i64 0, .int .i64 0] 27)) := (Below.refl _ _).alloc (Nat.le_refl _) _
  have hcode2 := hcode.behind HB
  go_wp2_with fail
  refine (new1 a len cap _ hl hcode2).mono ?_; rintro x w1 ⟨g, rfl, hg, hc, hb1⟩
  simp at hg hc
  have hgw : w.heap.size ≤ g := by omega
  replace RY := RY.new hb1
  replace HB := bchain HB hb1
  clear hb1 hcode2
  go_wp2_with fail
  refine (draw16 g _ _ hc).mono ?_; rintro x w2 ⟨⟨⟨r, b, e, k⟩, ⟨r2, b2, e2, k2⟩, wt, cm⟩, hu, hd, rfl, hcx, hmx⟩
  replace RY := RY.moves hmx (by omega)
  replace HB := HB.trans (hmx.below hgw HB.size)
  replace hc := hcx
  clear hmx hcx
  dsimp only [tuv] at *
  go_upto_region 3 with (refine wpList_store_row (by rfl) 27 _ _ (by rfl) w2.heap.size [.int .i64 r, .string b, .bool e, .bool k, .int .i64 r2, .string b2, .bool e2, .bool k2, .int .i64 wt, .int .i64 cm] (by rfl) (by rfl) 27 [.int .i64 0, .string ⟨#[]⟩, .bool false, .bool false, .int .i64 0, .string ⟨#[]⟩, .bool false, .bool false, .int .i64 0, .int .i64 0] (rowIs_new w2 27 [.int .i64 0, .string ⟨#[]⟩, .bool false, .bool false, .int .i64 0, .string ⟨#[]⟩, .bool false, .bool false, .int .i64 0, .int .i64 0]) (by kernel_rfl) rfl (by intro u hu; simp at hu; rcases hu with rfl | rfl | rfl | rfl | rfl | rfl | rfl | rfl | rfl | rfl <;> rfl) ?_)
  obtain ⟨gRB, hgRB⟩ : ∃ q, q = w2.heap.size := ⟨_, rfl⟩
  have hltRYRB : w.heap.size < gRB := by have := RY.lt; omega
  have hggRB : g < gRB := by have := hc.lt; omega
  have hleRB : w.heap.size ≤ gRB := by have := HB.size; omega
  have RB : RowIs ((w2.alloc (.cells #[.int .i64 0, .string ⟨#[]⟩, .bool false, .bool false, .int .i64 0, .string ⟨#[]⟩, .bool false, .bool false, .int .i64 0, .int .i64 0] 27)).setRow w2.heap.size #[.int .i64 r, .string b, .bool e, .bool k, .int .i64 r2, .string b2, .bool e2, .bool k2, .int .i64 wt, .int .i64 cm]) w2.heap.size 27 [.int .i64 r, .string b, .bool e, .bool k, .int .i64 r2, .string b2, .bool e2, .bool k2, .int .i64 wt, .int .i64 cm] := rowIs_setRow (cs' := [.int .i64 r, .string b, .bool e, .bool k, .int .i64 r2, .string b2, .bool e2, .bool k2, .int .i64 wt, .int .i64 cm]) (rowIs_new w2 27 [.int .i64 0, .string ⟨#[]⟩, .bool false, .bool false, .int .i64 0, .string ⟨#[]⟩, .bool false, .bool false, .int .i64 0, .int .i64 0])
  have hbV : Below w2.heap.size w2 ((w2.alloc (.cells #[.int .i64 0, .string ⟨#[]⟩, .bool false, .bool false, .int .i64 0, .string ⟨#[]⟩, .bool false, .bool false, .int .i64 0, .int .i64 0] 27)).setRow w2.heap.size #[.int .i64 r, .string b, .bool e, .bool k, .int .i64 r2, .string b2, .bool e2, .bool k2, .int .i64 wt, .int .i64 cm]) := below_setRow ((Below.refl _ _).alloc (Nat.le_refl _) _) (Nat.le_refl _) #[.int .i64 r, .string b, .bool e, .bool k, .int .i64 r2, .string b2, .bool e2, .bool k2, .int .i64 wt, .int .i64 cm]
  replace RY := RY.new hbV
  replace HB := bchain HB hbV
  replace hc := hc.below hbV
  clear hbV
  rw [← hgRB] at RB
  try rw [← hgRB]
  try rw [← hgRB] at *
  generalize hV : (w2.alloc (.cells #[.int .i64 0, .string ⟨#[]⟩, .bool false, .bool false, .int .i64 0, .string ⟨#[]⟩, .bool false, .bool false, .int .i64 0, .int .i64 0] 27)).setRow gRB #[.int .i64 r, .string b, .bool e, .bool k, .int .i64 r2, .string b2, .bool e2, .bool k2, .int .i64 wt, .int .i64 cm] = V3 at *
  clear hV hgRB
  go_wp2_with fail
  refine (text1 g _ 6 _ hc (by omega) (by omega)).mono ?_; rintro x w4 ⟨s, hs, rfl, hcx, hmx⟩
  replace RY := RY.moves hmx (by omega)
  replace RB := RB.moves hmx (by omega)
  replace HB := HB.trans (hmx.below hgw HB.size)
  replace hc := hcx
  clear hmx hcx
  go_upto_region 4 with fail
  go_wp2_with fail
  refine wp_region_held_drew (S := (fun u => RowIs u gRB 27 [.int .i64 r, .string b, .bool e, .bool k, .int .i64 r2, .string b2, .bool e2, .bool k2, .int .i64 wt, .int .i64 cm])) (by kernel_rfl) (show RowIs (World.drew w4) gRB 27 [.int .i64 r, .string b, .bool e, .bool k, .int .i64 r2, .string b2, .bool e2, .bool k2, .int .i64 wt, .int .i64 cm] from RB) (fun hS => ?_)
  replace RY : RowIs (World.drew w4) w.heap.size 27 [.int .i64 0, .string ⟨#[]⟩, .bool false, .bool false, .int .i64 0, .string ⟨#[]⟩, .bool false, .bool false, .int .i64 0, .int .i64 0] := RY
  replace hc := hc.drew
  replace HB := HB.drew
  clear RB
  generalize World.drew w4 = u0 at *
  refine wpAnyH_take (i := 0) (v := .agg #[.int .i64 r, .string b, .bool e, .bool k, .int .i64 r2, .string b2, .bool e2, .bool k2, .int .i64 wt, .int .i64 cm]) rfl (by kernel_rfl) (by kernel_rfl) (by kernel_rfl) (fun _ _ _ h => h) (Or.inl ⟨by kernel_rfl, ?ld⟩) hS ?_; case ld => (intro uu hu; have l0 := RowIs.cell (j := 0) hu rfl; have l1 := RowIs.cell (j := 1) hu rfl; have l2 := RowIs.cell (j := 2) hu rfl; have l3 := RowIs.cell (j := 3) hu rfl; have l4 := RowIs.cell (j := 4) hu rfl; have l5 := RowIs.cell (j := 5) hu rfl; have l6 := RowIs.cell (j := 6) hu rfl; have l7 := RowIs.cell (j := 7) hu rfl; have l8 := RowIs.cell (j := 8) hu rfl; have l9 := RowIs.cell (j := 9) hu rfl; have ll := hu.lt; clear hu; go_simp)
  try simp only [Act.put, List.getElem_toArray, List.getElem_cons_succ, List.getElem_cons_zero, List.setIfInBounds_toArray, List.set_cons_zero, List.set_cons_succ]
  refine wpAnyH_take (i := 1) (v := ?_) rfl (by kernel_rfl) (by kernel_rfl) (by kernel_rfl) (fun _ _ _ h => h) (Or.inl ⟨by kernel_rfl, ?_⟩) hS ?_; rotate_left; focus (intro uu hu; clear hu; go_simp; try with_reducible rfl)
  try simp only [Act.put, List.getElem_toArray, List.getElem_cons_succ, List.getElem_cons_zero, List.setIfInBounds_toArray, List.set_cons_zero, List.set_cons_succ]
  refine wpAnyH_take (i := 2) (v := ?_) rfl (by kernel_rfl) (by kernel_rfl) (by kernel_rfl) (fun _ _ _ h => h) (Or.inl ⟨by kernel_rfl, ?_⟩) hS ?_; rotate_left; focus (intro uu hu; clear hu; go_simp; try with_reducible rfl)
  try simp only [Act.put, List.getElem_toArray, List.getElem_cons_succ, List.getElem_cons_zero, List.setIfInBounds_toArray, List.set_cons_zero, List.set_cons_succ]
  refine wpAnyH_ready (rs := [3]) (by kernel_rfl) (by simp) ?_; refine AllReadyH.cons rfl (fun K hK => ?_) AllReadyH.nil; rw [if_pos (by kernel_rfl)]; go_simp
  refine (once1 g _ 3 _ hc (by omega)).mono ?_; rintro x u1 ⟨fin, rfl, hcx, hmx⟩
  replace RY := RY.moves hmx (by omega)
  replace HB := HB.trans (hmx.below hgw HB.size)
  have hS1 := hS.moves hmx (by omega)
  clear hcx hmx hc
  refine hK.out _ _ hS1 (fun hS => ?_)
  clear hK K hS1
  try simp only [Act.put, List.getElem_toArray, List.getElem_cons_succ, List.getElem_cons_zero, List.setIfInBounds_toArray, List.set_cons_zero, List.set_cons_succ]
  refine wpAnyH_ready (rs := [4]) (by kernel_rfl) (by simp) ?_; refine AllReadyH.cons rfl (fun K hK => ?_) AllReadyH.nil; rw [if_pos (by kernel_rfl)]
  refine wp_store_row 27 (.tmp 2) (.tmp 14) rfl w.heap.size #[.int .i64 r, .string b, .bool e, .bool k, .int .i64 r2, .string b2, .bool e2, .bool k2, .int .i64 wt, .int .i64 cm] rfl rfl 27 #[.int .i64 0, .string ⟨#[]⟩, .bool false, .bool false, .int .i64 0, .string ⟨#[]⟩, .bool false, .bool false, .int .i64 0, .int .i64 0] RY (by kernel_rfl) rfl (by simp [Value.oneCell']) ?_
  have NY : RowIs (u1.setRow w.heap.size #[.int .i64 r, .string b, .bool e, .bool k, .int .i64 r2, .string b2, .bool e2, .bool k2, .int .i64 wt, .int .i64 cm]) w.heap.size 27 [.int .i64 r, .string b, .bool e, .bool k, .int .i64 r2, .string b2, .bool e2, .bool k2, .int .i64 wt, .int .i64 cm] := rowIs_setRow (cs' := [.int .i64 r, .string b, .bool e, .bool k, .int .i64 r2, .string b2, .bool e2, .bool k2, .int .i64 wt, .int .i64 cm]) RY
  replace HB := below_setRow HB (Nat.le_refl _) #[.int .i64 r, .string b, .bool e, .bool k, .int .i64 r2, .string b2, .bool e2, .bool k2, .int .i64 wt, .int .i64 cm]
  have hS2 := hS.kept (setRow_other u1 w.heap.size #[.int .i64 r, .string b, .bool e, .bool k, .int .i64 r2, .string b2, .bool e2, .bool k2, .int .i64 wt, .int .i64 cm] gRB (by omega))
  clear RY
  generalize hV : u1.setRow w.heap.size #[.int .i64 r, .string b, .bool e, .bool k, .int .i64 r2, .string b2, .bool e2, .bool k2, .int .i64 wt, .int .i64 cm] = V9 at *
  clear hV
  refine hK.out _ _ hS2 (fun hS => ?_)
  clear hK K hS2
  try simp only [Act.put, List.getElem_toArray, List.getElem_cons_succ, List.getElem_cons_zero, List.setIfInBounds_toArray, List.set_cons_zero, List.set_cons_succ]
  refine wpAnyH_take (i := 5) (v := ?_) rfl (by kernel_rfl) (by kernel_rfl) (by kernel_rfl) (fun _ _ _ h => h) (Or.inl ⟨by kernel_rfl, ?_⟩) hS ?_; rotate_left; focus (intro uu hu; clear hu; go_simp; try with_reducible rfl)
  try simp only [Act.put, List.getElem_toArray, List.getElem_cons_succ, List.getElem_cons_zero, List.setIfInBounds_toArray, List.set_cons_zero, List.set_cons_succ]
  refine wpAnyH_take (i := 6) (v := ?_) rfl (by kernel_rfl) (by kernel_rfl) (by kernel_rfl) (fun _ _ _ h => h) (Or.inl ⟨by kernel_rfl, ?_⟩) hS ?_; rotate_left; focus (intro uu hu; clear hu; go_simp; try with_reducible rfl)
  try simp only [Act.put, List.getElem_toArray, List.getElem_cons_succ, List.getElem_cons_zero, List.setIfInBounds_toArray, List.set_cons_zero, List.set_cons_succ]
  refine wpAnyH_done (by kernel_rfl) ?_ _
  clear hS
  have RY := NY
  go_wp2_with fail
  have y0 := RowIs.cell (j := 0) RY rfl
  have y1 := RowIs.cell (j := 1) RY rfl
  have y2 := RowIs.cell (j := 2) RY rfl
  have y3 := RowIs.cell (j := 3) RY rfl
  have y4 := RowIs.cell (j := 4) RY rfl
  have y5 := RowIs.cell (j := 5) RY rfl
  have y6 := RowIs.cell (j := 6) RY rfl
  have y7 := RowIs.cell (j := 7) RY rfl
  have y8 := RowIs.cell (j := 8) RY rfl
  have y9 := RowIs.cell (j := 9) RY rfl
  have yf := fun j => RowIs.frozen RY j
  have yl := RY.lt
  refine bodyPost_ret (v := .tuple #[.agg #[.int .i64 r, .string b, .bool e, .bool k, .int .i64 r2, .string b2, .bool e2, .bool k2, .int .i64 wt, .int .i64 cm], .string s, .bool fin]) (by simp [results, Try.results6, go_sem, *]) rfl ?_
  exact ⟨⟨⟨r, b, e, k⟩, ⟨r2, b2, e2, k2⟩, wt, cm⟩, s, fin, hu, hd, by omega, rfl, HB⟩
set_option maxHeartbeats 2000000 in
theorem drawOut16 (a : Option Addr) (len cap : Nat) (w : World) (hl : len ≤ 4096) (hcode : CodeAt w a len w.heap.size) :
    Calls Try.prog 8 #[.slice a len cap] w fun e w' => ∃ (t : TuD) (n : Int), t.up.b.size ≤ 100 ∧ t.dn.b.size ≤ 100 ∧ e = .returned (.tuple #[tuv t, .int .i64 n]) ∧ Below w.heap.size w w' := by
  go_enter Try.func8, Try.ntmps8
  have RY := rowIs_new w 27 [.int .i64 0, .string ⟨#[]⟩, .bool false, .bool false, .int .i64 0, .string ⟨#[]⟩, .bool false, .bool false, .int .i64 0, .int .i64 0]
  have HB : Below w.heap.size w (w.alloc (.cells #[.int .i64 0, .string ⟨#[]⟩, .bool false, .bool false, .int .i64 0, .string ⟨#[]⟩, .bool false, .bool false, .int .i64 0, .int .i64 0] 27)) := (Below.refl _ _).alloc (Nat.le_refl _) _
  have hcode2 := hcode.behind HB
  go_wp2_with fail
  refine (new1 a len cap _ hl hcode2).mono ?_; rintro x w1 ⟨g, rfl, hg, hc, hb1⟩
  simp at hg hc
  have hgw : w.heap.size ≤ g := by omega
  replace RY := RY.new hb1
  replace HB := bchain HB hb1
  clear hb1 hcode2
  go_wp2_with fail
  refine (draw16 g _ _ hc).mono ?_; rintro x w2 ⟨⟨⟨r, b, e, k⟩, ⟨r2, b2, e2, k2⟩, wt, cm⟩, hu, hd, rfl, hcx, hmx⟩
  replace RY := RY.moves hmx (by omega)
  replace HB := HB.trans (hmx.below hgw HB.size)
  replace hc := hcx
  clear hmx hcx
  dsimp only [tuv] at *
  go_upto_region 3 with (refine wpList_store_row (by rfl) 27 _ _ (by rfl) w2.heap.size [.int .i64 r, .string b, .bool e, .bool k, .int .i64 r2, .string b2, .bool e2, .bool k2, .int .i64 wt, .int .i64 cm] (by rfl) (by rfl) 27 [.int .i64 0, .string ⟨#[]⟩, .bool false, .bool false, .int .i64 0, .string ⟨#[]⟩, .bool false, .bool false, .int .i64 0, .int .i64 0] (rowIs_new w2 27 [.int .i64 0, .string ⟨#[]⟩, .bool false, .bool false, .int .i64 0, .string ⟨#[]⟩, .bool false, .bool false, .int .i64 0, .int .i64 0]) (by kernel_rfl) rfl (by intro u hu; simp at hu; rcases hu with rfl | rfl | rfl | rfl | rfl | rfl | rfl | rfl | rfl | rfl <;> rfl) ?_)
  obtain ⟨gRB, hgRB⟩ : ∃ q, q = w2.heap.size := ⟨_, rfl⟩
  have hltRYRB : w.heap.size < gRB := by have := RY.lt; omega
  have hggRB : g < gRB := by have := hc.lt; omega
  have hleRB : w.heap.size ≤ gRB := by have := HB.size; omega
  have RB : RowIs ((w2.alloc (.cells #[.int .i64 0, .string ⟨#[]⟩, .bool false, .bool false, .int .i64 0, .string ⟨#[]⟩, .bool false, .bool false, .int .i64 0, .int .i64 0] 27)).setRow w2.heap.size #[.int .i64 r, .string b, .bool e, .bool k, .int .i64 r2, .string b2, .bool e2, .bool k2, .int .i64 wt, .int .i64 cm]) w2.heap.size 27 [.int .i64 r, .string b, .bool e, .bool k, .int .i64 r2, .string b2, .bool e2, .bool k2, .int .i64 wt, .int .i64 cm] := rowIs_setRow (cs' := [.int .i64 r, .string b, .bool e, .bool k, .int .i64 r2, .string b2, .bool e2, .bool k2, .int .i64 wt, .int .i64 cm]) (rowIs_new w2 27 [.int .i64 0, .string ⟨#[]⟩, .bool false, .bool false, .int .i64 0, .string ⟨#[]⟩, .bool false, .bool false, .int .i64 0, .int .i64 0])
  have hbV : Below w2.heap.size w2 ((w2.alloc (.cells #[.int .i64 0, .string ⟨#[]⟩, .bool false, .bool false, .int .i64 0, .string ⟨#[]⟩, .bool false, .bool false, .int .i64 0, .int .i64 0] 27)).setRow w2.heap.size #[.int .i64 r, .string b, .bool e, .bool k, .int .i64 r2, .string b2, .bool e2, .bool k2, .int .i64 wt, .int .i64 cm]) := below_setRow ((Below.refl _ _).alloc (Nat.le_refl _) _) (Nat.le_refl _) #[.int .i64 r, .string b, .bool e, .bool k, .int .i64 r2, .string b2, .bool e2, .bool k2, .int .i64 wt, .int .i64 cm]
  replace RY := RY.new hbV
  replace HB := bchain HB hbV
  replace hc := hc.below hbV
  clear hbV
  rw [← hgRB] at RB
  try rw [← hgRB]
  try rw [← hgRB] at *
  generalize hV : (w2.alloc (.cells #[.int .i64 0, .string ⟨#[]⟩, .bool false, .bool false, .int .i64 0, .string ⟨#[]⟩, .bool false, .bool false, .int .i64 0, .int .i64 0] 27)).setRow gRB #[.int .i64 r, .string b, .bool e, .bool k, .int .i64 r2, .string b2, .bool e2, .bool k2, .int .i64 wt, .int .i64 cm] = V3 at *
  clear hV hgRB
  skip
  go_wp2_with fail
  refine wp_region_held_drew (S := (fun u => RowIs u gRB 27 [.int .i64 r, .string b, .bool e, .bool k, .int .i64 r2, .string b2, .bool e2, .bool k2, .int .i64 wt, .int .i64 cm])) (by kernel_rfl) (show RowIs (World.drew V3) gRB 27 [.int .i64 r, .string b, .bool e, .bool k, .int .i64 r2, .string b2, .bool e2, .bool k2, .int .i64 wt, .int .i64 cm] from RB) (fun hS => ?_)
  replace RY : RowIs (World.drew V3) w.heap.size 27 [.int .i64 0, .string ⟨#[]⟩, .bool false, .bool false, .int .i64 0, .string ⟨#[]⟩, .bool false, .bool false, .int .i64 0, .int .i64 0] := RY
  replace hc := hc.drew
  replace HB := HB.drew
  clear RB
  generalize World.drew V3 = u0 at *
  refine wpAnyH_take (i := 0) (v := .agg #[.int .i64 r, .string b, .bool e, .bool k, .int .i64 r2, .string b2, .bool e2, .bool k2, .int .i64 wt, .int .i64 cm]) rfl (by kernel_rfl) (by kernel_rfl) (by kernel_rfl) (fun _ _ _ h => h) (Or.inl ⟨by kernel_rfl, ?ld⟩) hS ?_; case ld => (intro uu hu; have l0 := RowIs.cell (j := 0) hu rfl; have l1 := RowIs.cell (j := 1) hu rfl; have l2 := RowIs.cell (j := 2) hu rfl; have l3 := RowIs.cell (j := 3) hu rfl; have l4 := RowIs.cell (j := 4) hu rfl; have l5 := RowIs.cell (j := 5) hu rfl; have l6 := RowIs.cell (j := 6) hu rfl; have l7 := RowIs.cell (j := 7) hu rfl; have l8 := RowIs.cell (j := 8) hu rfl; have l9 := RowIs.cell (j := 9) hu rfl; have ll := hu.lt; clear hu; go_simp)
  try simp only [Act.put, List.getElem_toArray, List.getElem_cons_succ, List.getElem_cons_zero, List.setIfInBounds_toArray, List.set_cons_zero, List.set_cons_succ]
  refine wpAnyH_take (i := 1) (v := ?_) rfl (by kernel_rfl) (by kernel_rfl) (by kernel_rfl) (fun _ _ _ h => h) (Or.inl ⟨by kernel_rfl, ?_⟩) hS ?_; rotate_left; focus (intro uu hu; clear hu; go_simp; try with_reducible rfl)
  try simp only [Act.put, List.getElem_toArray, List.getElem_cons_succ, List.getElem_cons_zero, List.setIfInBounds_toArray, List.set_cons_zero, List.set_cons_succ]
  refine wpAnyH_ready (rs := [2]) (by kernel_rfl) (by simp) ?_; refine AllReadyH.cons rfl (fun K hK => ?_) AllReadyH.nil; rw [if_pos (by kernel_rfl)]; go_simp
  refine (from1 g _ (-1) 9 _ hc (by omega) (by omega) (by omega)).mono ?_; rintro x u1 ⟨n, n0, n1, rfl, hcx, hmx⟩
  replace RY := RY.moves hmx (by omega)
  replace HB := HB.trans (hmx.below hgw HB.size)
  have hS1 := hS.moves hmx (by omega)
  clear hcx hmx hc
  refine hK.out _ _ hS1 (fun hS => ?_)
  clear hK K hS1
  try simp only [Act.put, List.getElem_toArray, List.getElem_cons_succ, List.getElem_cons_zero, List.setIfInBounds_toArray, List.set_cons_zero, List.set_cons_succ]
  refine wpAnyH_ready (rs := [3]) (by kernel_rfl) (by simp) ?_; refine AllReadyH.cons rfl (fun K hK => ?_) AllReadyH.nil; rw [if_pos (by kernel_rfl)]
  refine wp_store_row 27 (.tmp 2) (.tmp 10) rfl w.heap.size #[.int .i64 r, .string b, .bool e, .bool k, .int .i64 r2, .string b2, .bool e2, .bool k2, .int .i64 wt, .int .i64 cm] rfl rfl 27 #[.int .i64 0, .string ⟨#[]⟩, .bool false, .bool false, .int .i64 0, .string ⟨#[]⟩, .bool false, .bool false, .int .i64 0, .int .i64 0] RY (by kernel_rfl) rfl (by simp [Value.oneCell']) ?_
  have NY : RowIs (u1.setRow w.heap.size #[.int .i64 r, .string b, .bool e, .bool k, .int .i64 r2, .string b2, .bool e2, .bool k2, .int .i64 wt, .int .i64 cm]) w.heap.size 27 [.int .i64 r, .string b, .bool e, .bool k, .int .i64 r2, .string b2, .bool e2, .bool k2, .int .i64 wt, .int .i64 cm] := rowIs_setRow (cs' := [.int .i64 r, .string b, .bool e, .bool k, .int .i64 r2, .string b2, .bool e2, .bool k2, .int .i64 wt, .int .i64 cm]) RY
  replace HB := below_setRow HB (Nat.le_refl _) #[.int .i64 r, .string b, .bool e, .bool k, .int .i64 r2, .string b2, .bool e2, .bool k2, .int .i64 wt, .int .i64 cm]
  have hS2 := hS.kept (setRow_other u1 w.heap.size #[.int .i64 r, .string b, .bool e, .bool k, .int .i64 r2, .string b2, .bool e2, .bool k2, .int .i64 wt, .int .i64 cm] gRB (by omega))
  clear RY
  generalize hV : u1.setRow w.heap.size #[.int .i64 r, .string b, .bool e, .bool k, .int .i64 r2, .string b2, .bool e2, .bool k2, .int .i64 wt, .int .i64 cm] = V9 at *
  clear hV
  refine hK.out _ _ hS2 (fun hS => ?_)
  clear hK K hS2
  try simp only [Act.put, List.getElem_toArray, List.getElem_cons_succ, List.getElem_cons_zero, List.setIfInBounds_toArray, List.set_cons_zero, List.set_cons_succ]
  refine wpAnyH_take (i := 4) (v := ?_) rfl (by kernel_rfl) (by kernel_rfl) (by kernel_rfl) (fun _ _ _ h => h) (Or.inl ⟨by kernel_rfl, ?_⟩) hS ?_; rotate_left; focus (intro uu hu; clear hu; go_simp; try with_reducible rfl)
  try simp only [Act.put, List.getElem_toArray, List.getElem_cons_succ, List.getElem_cons_zero, List.setIfInBounds_toArray, List.set_cons_zero, List.set_cons_succ]
  refine wpAnyH_done (by kernel_rfl) ?_ _
  clear hS
  have RY := NY
  go_wp2_with fail
  have y0 := RowIs.cell (j := 0) RY rfl
  have y1 := RowIs.cell (j := 1) RY rfl
  have y2 := RowIs.cell (j := 2) RY rfl
  have y3 := RowIs.cell (j := 3) RY rfl
  have y4 := RowIs.cell (j := 4) RY rfl
  have y5 := RowIs.cell (j := 5) RY rfl
  have y6 := RowIs.cell (j := 6) RY rfl
  have y7 := RowIs.cell (j := 7) RY rfl
  have y8 := RowIs.cell (j := 8) RY rfl
  have y9 := RowIs.cell (j := 9) RY rfl
  have yf := fun j => RowIs.frozen RY j
  have yl := RY.lt
  refine bodyPost_ret (v := .tuple #[.agg #[.int .i64 r, .string b, .bool e, .bool k, .int .i64 r2, .string b2, .bool e2, .bool k2, .int .i64 wt, .int .i64 cm], .int .i64 n]) (by simp [results, Try.results8, go_sem, *]) rfl ?_
  exact ⟨⟨⟨r, b, e, k⟩, ⟨r2, b2, e2, k2⟩, wt, cm⟩, n, hu, hd, rfl, HB⟩
set_option maxHeartbeats 2000000 in
theorem drawBack16 (a : Option Addr) (len cap : Nat) (w : World) (hl : len ≤ 4096) (hcode : CodeAt w a len w.heap.size) :
    Calls Try.prog 10 #[.slice a len cap] w fun e w' => ∃ (t : TuD) (s : ByteArray) (fin : Bool), t.up.b.size ≤ 100 ∧ t.dn.b.size ≤ 100 ∧ s.size ≤ 6 ∧ e = .returned (.tuple #[tuv t, .string s, .bool fin]) ∧ Below w.heap.size w w' := by
  go_enter Try.func10, Try.ntmps10
  have RY := rowIs_new w 27 [.int .i64 0, .string ⟨#[]⟩, .bool false, .bool false, .int .i64 0, .string ⟨#[]⟩, .bool false, .bool false, .int .i64 0, .int .i64 0]
  have HB : Below w.heap.size w (w.alloc (.cells #[.int .i64 0, .string ⟨#[]⟩, .bool false, .bool false, .int .i64 0, .string ⟨#[]⟩, .bool false, .bool false, .int .i64 0, .int .i64 0] 27)) := (Below.refl _ _).alloc (Nat.le_refl _) _
  have hcode2 := hcode.behind HB
  go_wp2_with fail
  refine (drawIn16 a len cap _ hl hcode2).mono ?_; rintro x w1 ⟨⟨⟨r, b, e, k⟩, ⟨r2, b2, e2, k2⟩, wt, cm⟩, s, fin, hu, hd, hs, rfl, hb1⟩
  dsimp only [tuv] at *
  replace RY := RY.new hb1
  replace HB := bchain HB hb1
  clear hb1 hcode2
  go_wp2_with (refine wpList_store_row (by rfl) 27 _ _ (by rfl) w.heap.size [.int .i64 r, .string b, .bool e, .bool k, .int .i64 r2, .string b2, .bool e2, .bool k2, .int .i64 wt, .int .i64 cm] (by rfl) (by rfl) 27 [.int .i64 0, .string ⟨#[]⟩, .bool false, .bool false, .int .i64 0, .string ⟨#[]⟩, .bool false, .bool false, .int .i64 0, .int .i64 0] RY (by kernel_rfl) rfl (by intro u hu; simp at hu; rcases hu with rfl | rfl | rfl | rfl | rfl | rfl | rfl | rfl | rfl | rfl <;> rfl) ?_)
  have NY : RowIs (w1.setRow w.heap.size #[.int .i64 r, .string b, .bool e, .bool k, .int .i64 r2, .string b2, .bool e2, .bool k2, .int .i64 wt, .int .i64 cm]) w.heap.size 27 [.int .i64 r, .string b, .bool e, .bool k, .int .i64 r2, .string b2, .bool e2, .bool k2, .int .i64 wt, .int .i64 cm] := rowIs_setRow (cs' := [.int .i64 r, .string b, .bool e, .bool k, .int .i64 r2, .string b2, .bool e2, .bool k2, .int .i64 wt, .int .i64 cm]) RY
  replace HB := below_setRow HB (Nat.le_refl _) #[.int .i64 r, .string b, .bool e, .bool k, .int .i64 r2, .string b2, .bool e2, .bool k2, .int .i64 wt, .int .i64 cm]
  clear RY
  generalize hV : w1.setRow w.heap.size #[.int .i64 r, .string b, .bool e, .bool k, .int .i64 r2, .string b2, .bool e2, .bool k2, .int .i64 wt, .int .i64 cm] = V9 at *
  clear hV
  have RY := NY
  have y0 := RowIs.cell (j := 0) RY rfl
  have y1 := RowIs.cell (j := 1) RY rfl
  have y2 := RowIs.cell (j := 2) RY rfl
  have y3 := RowIs.cell (j := 3) RY rfl
  have y4 := RowIs.cell (j := 4) RY rfl
  have y5 := RowIs.cell (j := 5) RY rfl
  have y6 := RowIs.cell (j := 6) RY rfl
  have y7 := RowIs.cell (j := 7) RY rfl
  have y8 := RowIs.cell (j := 8) RY rfl
  have y9 := RowIs.cell (j := 9) RY rfl
  have yf := fun j => RowIs.frozen RY j
  have yl := RY.lt
  refine bodyPost_ret (v := .tuple #[.agg #[.int .i64 r, .string b, .bool e, .bool k, .int .i64 r2, .string b2, .bool e2, .bool k2, .int .i64 wt, .int .i64 cm], .string s, .bool fin]) (by simp [results, Try.results10, go_sem, *]) rfl ?_
  exact ⟨⟨⟨r, b, e, k⟩, ⟨r2, b2, e2, k2⟩, wt, cm⟩, s, fin, hu, hd, hs, rfl, HB⟩
theorem drawNewTunnel (a : Option Addr) (len cap : Nat) (w : World) (hl : len ≤ 4096) (hcode : CodeAt w a len w.heap.size) :
    Calls Try.prog 13 #[.slice a len cap] w fun x w' => ∃ r : Int, x = .returned (.int .i64 r) ∧ Below w.heap.size w w' := by
  go_enter Try.func13, Try.ntmps13
  go_wp2_with fail
  refine (drawNew a len cap _ hl hcode).mono ?_; rintro x w1 ⟨r, rfl, hb⟩
  go_wp2_with fail
  go_ret
  exact ⟨r, rfl, hb⟩
end Go.Proofs.Ythkjjnnmnacgcaa
