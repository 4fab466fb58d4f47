/- Lemmas. -/
import Derived.Test.YtlpbnkideaojeaaGreatDoorRows
import Derived.Handy
import Derived.BigQuiet
namespace Go.Proofs.YtlpbnkideaojeaaGreatDoor
open Go.RowKit
set_option maxRecDepth 100000
theorem ah {w a b : World} (h1 : Below w.heap.size w a) (h2 : Below a.heap.size a b) : Below w.heap.size w b := h1.trans (h2.mono h1.size)
theorem aA {w a : World} (h : Below w.heap.size w a) (o : Obj) : Below w.heap.size w (a.alloc o) := h.alloc h.size o
theorem ay {B : Nat} {a w : World} (n : Nat) (h : Below B a w) : Below B a (w.drewN n) := ⟨h.os, h.tape, h.output, h.size, h.block⟩
end Go.Proofs.YtlpbnkideaojeaaGreatDoor
namespace Go.Proofs.YtlpbnkideaojeaaGreatDoor
open Go
section
variable {P : Program} {a : Act} {w : World} {Q : Exit → Act → World → Prop}
def three {α : Type} (x0 x1 x2 y : α) : Nat → α
 | 0 => x0
 | 1 => x1
 | 2 => x2
 | _ => y
end
end Go.Proofs.YtlpbnkideaojeaaGreatDoor
