/- Rows of int64: copied, held against each other, marked, read again, counted. -/
import Derived.Test.YtfemmnhfllbgjaaGreatDoorHeapRows
import Derived.Test.YtfemmnhfllbgjaaGreatDoorMade
import Derived.WalkKit
import Derived.ProofKit
import Derived.OpenShut
import Derived.Lib.SmallJoins
import Derived.Handy

namespace Go.Proofs.YtfemmnhfllbgjaaGreatDoor
open Go.RowKit
set_option maxRecDepth 100000
set_option linter.unusedSimpArgs false
set_option linter.unusedVariables false

def iv (L : List Int) : List Value := L.map (Value.int .i64)
theorem iv_len (L : List Int) : (iv L).length = L.length := by simp [iv]
theorem iv_get (L : List Int) (k : Nat) (h : k < L.length) : (iv L)[k]? = some (.int .i64 L[k]) := by simp [iv, h]

/-- n marks, from k on. -/
def mk (k : Int) (n : Nat) : List Value := (List.range n).map fun (j : Nat) => Value.int .i64 (k + j)
theorem mk_len (k : Int) (n : Nat) : (mk k n).length = n := by simp [mk]
theorem mk_get (k : Int) (n j : Nat) (h : j < n) : (mk k n)[j]? = some (.int .i64 (k + j)) := by simp [mk, h]

end Go.Proofs.YtfemmnhfllbgjaaGreatDoor
