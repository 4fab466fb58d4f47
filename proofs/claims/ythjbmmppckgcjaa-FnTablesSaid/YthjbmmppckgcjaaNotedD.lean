/- What Noted and Resized make of a Table, in plain words. -/
import Derived.Test.YthjbmmppckgcjaaSpecTable
import Derived.Test.YthjbmmppckgcjaaRowIs
import Derived.Test.YthjbmmppckgcjaaRingMath
namespace Go.Proofs.Ythjbmmppckgcjaa
/-- What Noted makes of a Table of this Room and these Rows. -/
def notedD (room : Int) (L : List Fd) (f : Fd) : (Int × List Fd) × Bool := if okT room L then (if okF f then ((room, shr room (f :: L)), true) else ((room, L), false)) else ((0, []), false)
/-- What Resized makes of it. -/
def resizedD (room : Int) (L : List Fd) (r : Int) : (Int × List Fd) × Bool := if okT room L then (if inB r 0 1000 then ((r, shr r L), true) else ((room, L), false)) else ((0, []), false)
theorem own_nil (w : World) (base : Nat) (e : TypeId) : w.ownsRow base e 2 (.slice none 0 0) 0 (fv []) := ⟨rfl, .inl ⟨rfl, rfl⟩⟩
end Go.Proofs.Ythjbmmppckgcjaa
