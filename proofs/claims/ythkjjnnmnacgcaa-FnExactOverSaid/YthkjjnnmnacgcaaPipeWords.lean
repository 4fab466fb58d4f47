/- Pipes in plain words that the chapters above them want. -/
import Derived.Test.YthkjjnnmnacgcaaPipe
namespace Go.Proofs.Ythkjjnnmnacgcaa
open Go.RowKit
set_option maxRecDepth 100000
set_option linter.unusedVariables false
def newB (r : Int) : Bool := decide (1 ≤ r ∧ r ≤ 2000)
def comes (r : Int) (b s : ByteArray) : Nat := (min (s.size : Int) (r - b.size)).toNat
end Go.Proofs.Ythkjjnnmnacgcaa
