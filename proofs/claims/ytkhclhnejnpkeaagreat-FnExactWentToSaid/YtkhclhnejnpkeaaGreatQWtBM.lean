/- Several small texts of one level, one behind the other. -/
import Derived.Test.YtkhclhnejnpkeaaGreatQWtG5
import Derived.Test.YtkhclhnejnpkeaaGreatQWtG3
import Derived.Test.YtkhclhnejnpkeaaGreatQWtLitUnpack2
import Derived.Handy
import Derived.Test.YtkhclhnejnpkeaaGreatQWtG4
import Derived.Lib.SmallJoins
import Derived.Lib.EndianBits
import Derived.RangeFuncNested
import Derived.RangeFuncBound
import Derived.RangeFuncCalls
import Derived.RangeFuncLeaves
import Derived.Shelf.Abstract
import Derived.Shelf.RegionOpen
import Derived.WalkKit
import Derived.OwnWalkIn
import Derived.TacticsInMore
import Derived.LoopNIn
import Derived.LoopIn
import Derived.Maps.AppendAt
import Derived.Test.YtkhclhnejnpkeaaGreatQWtG2
import Derived.RangeFuncBox
import Derived.Laws.AppendOwn
import Derived.Laws.IdiomStrings
import Derived.Lib.BufferRead
import Derived.Test.YtkhclhnejnpkeaaGreatQWtBase
import Derived.OrdersIn
import Derived.TacticsIn
import Derived.Laws.MakeOwn
import Derived.ProofKit
import Derived.OpenShut
import Derived.ShutString
import Derived.ChangeOld
import Derived.Below
import Derived.Deep.DeepCutAuto
import Derived.Test.YtkhclhnejnpkeaaGreatQWtG12
import Derived.Test.YtkhclhnejnpkeaaGreatQWtG6
import Derived.Test.YtkhclhnejnpkeaaGreatQWtLookup
/- Blocks in plain words: what a list of Fields is encoded as, what a block is decoded as, and that the one undoes the other, with one table at both ends. -/
namespace Go.Proofs.YtkhclhnejnpkeaaGreat
open Go.RowKit
set_option maxRecDepth 100000
set_option linter.unusedSimpArgs false
set_option linter.unusedVariables false

/-- The first byte, as a number; -1: there is none. -/
def b0 (s : ByteArray) : Int := match bys s with | [] => -1 | x :: _ => x
def okFs (l : List Fd) : Bool := l.all okF && decide (l.length ≤ 20)
end Go.Proofs.YtkhclhnejnpkeaaGreat
/- What the program's Decoded does, in plain words: a Field is read, written again, and held against the bytes; it comes to the same. -/
namespace Go.Proofs.YtkhclhnejnpkeaaGreat
open Go.RowKit
set_option maxRecDepth 100000
set_option linter.unusedSimpArgs false
set_option linter.unusedVariables false

/-- A shape: a row, a row's Name and a Value, both, or none. -/
abbrev BShp := Int ⊕ (Int × ByteArray) ⊕ (ByteArray × ByteArray) ⊕ Unit
abbrev BShp.row (n : Int) : BShp := Sum.inl n
abbrev BShp.name (n : Int) (v : ByteArray) : BShp := Sum.inr (Sum.inl (n, v))
abbrev BShp.none : BShp := Sum.inr (Sum.inr (Sum.inr ()))
end Go.Proofs.YtkhclhnejnpkeaaGreat
