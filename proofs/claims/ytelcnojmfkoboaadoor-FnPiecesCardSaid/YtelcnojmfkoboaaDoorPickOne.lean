/- A small number picked of the bytes. -/
import Derived.Test.YtelcnojmfkoboaaDoorCur
import Derived.Test.YtelcnojmfkoboaaDoorOpenCode
import Derived.Test.YtelcnojmfkoboaaDoorHeapRows

namespace Go.Proofs.YtelcnojmfkoboaaDoor
open Go.RowKit
set_option maxRecDepth 100000
set_option linter.unusedSimpArgs false
set_option linter.unusedVariables false

set_option maxHeartbeats 1000000 in
theorem pick1 (a : Option Addr) (len cap : Nat) (seed n : Int) (B : Nat) (w : World) (hl : len ≤ 4096) (hcode : CodeAt w a len B) (hs0 : 0 ≤ seed) (hs1 : seed ≤ 1000) (hn0 : 0 < n) (hn1 : n ≤ 10000000) :
    Calls Tryd.prog 25 #[.slice a len cap, .int .i64 seed, .int .i64 n] w fun x w' => ∃ z : Int, 0 ≤ z ∧ z < n ∧ x = .returned (.int .i64 z) ∧ w' = w := by
  have HC := hide hcode
  clear hcode
  go_enter Tryd.func25, Tryd.ntmps25
  go_wp2_with fail
  go_loopw [7, 8] (fun k i wr => ∃ (j : Nat) (z : Int), i = .int .i64 j ∧ k = .int .i64 z ∧ 0 ≤ z ∧ z ≤ 10000000 ∧ j ≤ len ∧ wr = w) (fun _ i _ => len - (intOf i).toNat)
  case atStart => exact ⟨0, _, rfl, rfl, by omega, by omega, Nat.zero_le _, rfl⟩
  case round =>
    obtain ⟨j, z, rfl, rfl, z0, z1, hj, rfl⟩ := hrel
    by_cases hlt : j < len
    · obtain ⟨b, o, c, rfl, hb, c0, c1, hc⟩ := HC.out j hlt
      have hm := emod_lt_of (x := z * 173 + c + seed) (n := 1000003) (by omega) (by omega)
      go_wp2_with fail
      exact ⟨⟨j + 1, _, by go_num, rfl, by omega, by omega, by omega, trivial⟩, by simp [intOf]; omega⟩
    · have hm := emod_lt_of (x := z) (n := n) z0 hn0
      go_wp2_with fail
      go_ret
      exact ⟨_, hm.1, hm.2, rfl, rfl⟩
end Go.Proofs.YtelcnojmfkoboaaDoor
