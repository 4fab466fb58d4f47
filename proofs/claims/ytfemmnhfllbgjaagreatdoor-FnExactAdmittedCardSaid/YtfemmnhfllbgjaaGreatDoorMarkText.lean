/- The marks that the laws write into texts. -/
import Derived.Test.YtfemmnhfllbgjaaGreatDoorStrOf
import Derived.WalkKit
import Derived.ProofKit
import Derived.Handy

namespace Go.Proofs.YtfemmnhfllbgjaaGreatDoor
open Go.RowKit
set_option maxRecDepth 100000
set_option linter.unusedSimpArgs false
set_option linter.unusedVariables false

def mtF : Nat → Nat → ByteArray → ByteArray
  | 0, _, acc => acc
  | n + 1, k, acc => if k = 0 then acc else mtF n (k / 10) (strOf [48 + ((k % 10 : Nat) : Int)] ++ acc)
theorem mtF_zero (n : Nat) (acc : ByteArray) : mtF n 0 acc = acc := by cases n <;> simp [mtF]
theorem mtF_step {n k : Nat} (h : 0 < k) (hn : k ≤ n) (acc : ByteArray) : ∃ n', k / 10 ≤ n' ∧ mtF n k acc = mtF n' (k / 10) (strOf [48 + ((k % 10 : Nat) : Int)] ++ acc) := by
  cases n with
  | zero => omega
  | succ n => exact ⟨n, by omega, by simp [mtF, Nat.pos_iff_ne_zero.1 h]⟩
/-- What markText answers at k. -/
def mtx (k : Nat) : ByteArray := if k = 0 then ⟨#[109, 48]⟩ else ⟨#[109]⟩ ++ mtF k k ⟨#[]⟩

end Go.Proofs.YtfemmnhfllbgjaaGreatDoor
