/- Unpacked: what it answers, in plain words, and the program's walk by labels. -/
import Derived.Test.YtkhclhnejnpkeaaGreatQWtG6
import Derived.Test.YtkhclhnejnpkeaaGreatQWtG3
import Derived.RangeFuncNested
import Derived.RangeFuncBound
import Derived.RangeFuncCalls
import Derived.RangeFuncLeaves
import Derived.Shelf.Abstract
import Derived.Shelf.RegionOpen
import Derived.WalkKit
import Derived.OwnWalkIn
import Derived.TacticsInMore
import Derived.LoopNIn
import Derived.LoopIn
import Derived.Maps.AppendAt
import Derived.Handy
import Derived.Test.YtkhclhnejnpkeaaGreatQWtG2
import Derived.RangeFuncBox
import Derived.Lib.SmallJoins
import Derived.Laws.AppendOwn
import Derived.Laws.IdiomStrings
import Derived.Lib.BufferRead
import Derived.Lib.EndianBits
import Derived.Test.YtkhclhnejnpkeaaGreatQWtBase
import Derived.OrdersIn
import Derived.TacticsIn
import Derived.Laws.BitsLemmas
import Derived.Scope
import Derived.WalkMore
import Derived.Test.YtkhclhnejnpkeaaGreatRows
namespace Go.Proofs.YtkhclhnejnpkeaaGreat
open Go.RowKit
set_option maxRecDepth 100000
set_option linter.unusedSimpArgs false
set_option linter.unusedVariables false

def okUB (r : List Int × Nat × Int) : Bool := decide (r.2.1 < 8 ∧ r.2.2 = tw r.2.1 - 1)
theorem okUB_iff (r : List Int × Nat × Int) : okUB r = true ↔ okEnd r := by simp [okUB, okEnd]
/-- How a text of bytes is read. -/
def rawV (s : ByteArray) : Option (List Int × Nat × Int) := rawF (enF 0 (bys s)) 0 0 (bys s)
/-- What Unpacked answers. -/
def unV (s : ByteArray) : ByteArray × Bool := if s.size ≤ 125 then (match rawV s with
  | some r => if okUB r = true then (strOf (r.1.map sch), true) else (⟨#[]⟩, false)
  | none => (⟨#[]⟩, false)) else (⟨#[]⟩, false)

end Go.Proofs.YtkhclhnejnpkeaaGreat
