/- The law's own picking of a number out of the code. -/
import Derived.Test.YtdplpkobpoiioaaCur
import Derived.Test.YtdplpkobpoiioaaHeapRows
import Derived.Handy
namespace Go.Proofs.Ytdplpkobpoiioaa
open Go.RowKit
set_option linter.unusedSimpArgs false
set_option linter.unusedVariables false

set_option maxHeartbeats 1000000 in
theorem lawPick (a : Option Addr) (len cap : Nat) (seed n : Int) (B : Nat) (w : World) (hl : len ≤ 4096) (hcode : CodeAt w a len B) (s0 : 0 ≤ seed) (s1 : seed ≤ 1000) (n0 : 1 ≤ n) (n1 : n ≤ 1000) :
    Calls Try.prog 25 #[.slice a len cap, .int .i64 seed, .int .i64 n] w fun e w' => ∃ x : Int, 0 ≤ x ∧ x < n ∧ e = .returned (.int .i64 x) ∧ w' = w := by
  have HC := hide hcode
  clear hcode
  go_enter Try.func25, Try.ntmps25
  go_wp2_with fail
  go_loop [7, 8] (fun k i => ∃ (j : Nat) (z : Int), i = .int .i64 j ∧ k = .int .i64 z ∧ j ≤ len ∧ 0 ≤ z ∧ z ≤ 100000000) (fun _ i => len - (intOf i).toNat)
  case atStart => exact ⟨0, _, rfl, rfl, Nat.zero_le _, by omega, by omega⟩
  case round =>
    obtain ⟨j, z, rfl, rfl, hj, z0, z1⟩ := hrel
    by_cases hlt : j < len
    · obtain ⟨b, o, q, rfl, hb, q0, q1, hq⟩ := HC.out j hlt
      have hjI : (j : Int) < len := by omega
      go_wp2_with fail
      go_round
      case rel => exact ⟨j + 1, (z * 173 + q + seed) % 1000003, by go_num, by go_num, by omega, by omega, by omega⟩
      case measure => simp [intOf]; omega
    · have hmod := Int.emod_lt_of_pos z (show (0 : Int) < n by omega)
      have hmod0 := Int.emod_nonneg z (show n ≠ 0 by omega)
      have hjI : ¬ (j : Int) < len := by omega
      have hnz : ¬ n = 0 := by omega
      go_wp2_with fail
      go_ret
      exact ⟨z % n, hmod0, hmod, rfl, rfl⟩
end Go.Proofs.Ytdplpkobpoiioaa
