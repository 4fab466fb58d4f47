/- What the laws of windows draw: numbers. -/
import Derived.Test.YtalngkcmhoebmaaCurTurn
import Derived.Test.YtalngkcmhoebmaaRowIs
import Derived.Test.YtalngkcmhoebmaaOpenCode

namespace Go.Proofs.Ytalngkcmhoebmaa
open Go.RowKit
set_option maxRecDepth 100000
set_option linter.unusedSimpArgs false
set_option linter.unusedVariables false
set_option maxHeartbeats 1000000 in
theorem draw8 (g B : Nat) (w : World) (hc : Cur w g B) :
    Calls Try.prog 23 #[.pointer (some ⟨g, 0, none⟩)] w fun e w' => ∃ z : Int, e = .returned (.int .i64 z) ∧ Cur w' g B ∧ Moves g w w' := by
  have hgw := hc.lt
  go_enter Try.func23, Try.ntmps23
  go_wp2_with fail
  refine (once1 g B 6 _ hc (by omega)).mono ?_; rintro e w1 ⟨v, rfl, hc1, hm1⟩
  cases v
  · go_wp2_with fail
    refine (from1 g B (-50) 200 _ hc1 (by omega) (by omega) (by omega)).mono ?_; rintro e w2 ⟨z, _, _, rfl, hc2, hm2⟩
    go_wp2_with fail
    go_ret
    exact ⟨z, rfl, hc2, hm1.trans hm2⟩
  · have hg1 := hc1.lt
    go_wp2_with fail
    obtain ⟨VA, hVA⟩ : ∃ V, w1.alloc (.cells #[.int .i64 (-16777215), .int .i64 16777215, .int .i64 16777216, .int .i64 (-16777216), .int .i64 0, .int .i64 4611686018427387904] 2) = V := ⟨_, rfl⟩
    have RA : RowIs VA w1.heap.size 2 [.int .i64 (-16777215), .int .i64 16777215, .int .i64 16777216, .int .i64 (-16777216), .int .i64 0, .int .i64 4611686018427387904] := by rw [← hVA]; exact rowIs_new w1 _ _
    have hbA : Below w1.heap.size w1 VA := by rw [← hVA]; exact (Below.refl _ _).alloc (Nat.le_refl _) _
    rw [hVA]
    clear hVA
    refine (below1 g B 6 _ (hc1.below hbA) (by omega)).mono ?_; rintro e w2 ⟨q, q0, q1, _, rfl, hc2, hm2⟩
    have q6 := q1 (by omega)
    replace RA := RA.moves hm2 (by omega)
    obtain ⟨qn, rfl⟩ : ∃ n : Nat, q = n := ⟨q.toNat, by omega⟩
    obtain ⟨z, hz⟩ : ∃ z : Int, w2.cell? ⟨w1.heap.size, qn, none⟩ = some (.int .i64 z) := by
      have : qn = 0 ∨ qn = 1 ∨ qn = 2 ∨ qn = 3 ∨ qn = 4 ∨ qn = 5 := by omega
      rcases this with rfl | rfl | rfl | rfl | rfl | rfl <;> exact ⟨_, RA.cell rfl⟩
    have hlA := RA.lt
    have hmm := (hm1.trans (Moves.of_below hbA)).trans hm2
    clear q1 RA hbA hm2 hm1
    go_wp2_with fail
    go_ret
    exact ⟨z, rfl, hc2, hmm⟩
theorem drawGranted (a : Option Addr) (len cap : Nat) (w : World) (hl : len ≤ 4096) (hcode : CodeAt w a len w.heap.size) :
    Calls Try.prog 10 #[.slice a len cap] w fun e w' => ∃ x n : Int, e = .returned (.tuple #[.int .i64 x, .int .i64 n]) ∧ Below w.heap.size w w' := by
  go_enter Try.func10, Try.ntmps10
  go_wp2_with fail
  refine (new1 a len cap _ hl hcode).mono ?_; rintro x w1 ⟨g, rfl, hg, hc1, hb1⟩
  go_wp2_with fail
  refine (draw8 g _ _ hc1).mono ?_; rintro e w2 ⟨x, rfl, hc2, hm2⟩
  go_wp2_with fail
  refine (draw8 g _ _ hc2).mono ?_; rintro e w3 ⟨n, rfl, hc3, hm3⟩
  have hbw : Below w.heap.size w w3 := hb1.trans ((hm2.trans hm3).below hg hb1.size)
  go_wp2_with fail
  go_ret2
  exact ⟨x, n, rfl, hbw⟩
theorem drawUsed (a : Option Addr) (len cap : Nat) (w : World) (hl : len ≤ 4096) (hcode : CodeAt w a len w.heap.size) :
    Calls Try.prog 12 #[.slice a len cap] w fun e w' => ∃ x n : Int, e = .returned (.tuple #[.int .i64 x, .int .i64 n]) ∧ Below w.heap.size w w' := by
  go_enter Try.func12, Try.ntmps12
  go_wp2_with fail
  refine (drawGranted a len cap _ hl hcode).mono ?_; rintro e w1 ⟨x, n, rfl, hb1⟩
  go_wp2_with fail
  go_ret2
  exact ⟨x, n, rfl, hb1⟩
theorem drawMoved (a : Option Addr) (len cap : Nat) (w : World) (hl : len ≤ 4096) (hcode : CodeAt w a len w.heap.size) :
    Calls Try.prog 14 #[.slice a len cap] w fun e w' => ∃ x o f : Int, e = .returned (.tuple #[.int .i64 x, .int .i64 o, .int .i64 f]) ∧ Below w.heap.size w w' := by
  go_enter Try.func14, Try.ntmps14
  go_wp2_with fail
  refine (new1 a len cap _ hl hcode).mono ?_; rintro x w1 ⟨g, rfl, hg, hc1, hb1⟩
  go_wp2_with fail
  refine (draw8 g _ _ hc1).mono ?_; rintro e w2 ⟨x, rfl, hc2, hm2⟩
  go_wp2_with fail
  refine (draw8 g _ _ hc2).mono ?_; rintro e w3 ⟨o, rfl, hc3, hm3⟩
  go_wp2_with fail
  refine (draw8 g _ _ hc3).mono ?_; rintro e w4 ⟨f, rfl, hc4, hm4⟩
  have hbw : Below w.heap.size w w4 := hb1.trans (((hm2.trans hm3).trans hm4).below hg hb1.size)
  go_wp2_with fail
  go_ret3
  exact ⟨x, o, f, rfl, hbw⟩
theorem drawFits (a : Option Addr) (len cap : Nat) (w : World) (hl : len ≤ 4096) (hcode : CodeAt w a len w.heap.size) :
    Calls Try.prog 19 #[.slice a len cap] w fun e w' => ∃ x o f : Int, e = .returned (.tuple #[.int .i64 x, .int .i64 o, .int .i64 f]) ∧ Below w.heap.size w w' := by
  go_enter Try.func19, Try.ntmps19
  go_wp2_with fail
  refine (drawMoved a len cap _ hl hcode).mono ?_; rintro e w1 ⟨x, o, f, rfl, hb1⟩
  go_wp2_with fail
  go_ret3
  exact ⟨x, o, f, rfl, hb1⟩
end Go.Proofs.Ytalngkcmhoebmaa
