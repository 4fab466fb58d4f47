/- Regions that draw their order and hold calls that make memory: one walk in the order of the text serves them all. -/
import Derived.Test.YtelcnojmfkoboaaDoorBase
import Derived.Handy
import Derived.Deep.QuietTactic
import Derived.BigQuiet
namespace Go.Proofs.YtelcnojmfkoboaaDoor
open Go.RowKit
set_option maxRecDepth 100000
set_option linter.unusedVariables false

/-- A world behind V: of what was in V nothing has turned. -/
structure Later (V : World) where
  w : World
  b : Below V.heap.size V w
theorem later_calls {P : Program} {f : FuncId} {args : Array Value} {V : World} {x : Later V} {v : Value} (h : Calls P f args x.w fun e w' => e = .returned v ∧ Below x.w.heap.size x.w w') :
    Calls P f args x.w fun e w'' => e = .returned v ∧ ∃ y : Later V, w'' = y.w := h.mono fun _ w' h => ⟨h.1, ⟨w', bchain x.b h.2⟩, rfl⟩
theorem later_same {P : Program} {f : FuncId} {args : Array Value} {V : World} {x : Later V} {v : Value} (h : Calls P f args x.w fun e w' => e = .returned v ∧ w' = x.w) :
    Calls P f args x.w fun e w'' => e = .returned v ∧ ∃ y : Later V, w'' = y.w := h.mono fun _ w' h => ⟨h.1, x, h.2⟩
/-- A region that draws its order, whose operations read and whose callees may make memory: one walk in the text's order serves every order. -/
theorem region_later {P : Program} {id : Nat} {Q : Exit → Act → World → Prop} {a : Act} {w : World} {l : List Oper} (hm : P.follows .mixedOrders = true) (hB : Region.lexB .any l.toArray = true)
    (h : wpQuiet P l.toArray (fun w' => ∃ x : Later w, w' = x.w) (fun a' => ∀ w', (∃ x : Later w, w' = x.w) → Q .normal a' w') l a) : (Code.region id l.toArray true).wp P Q a w :=
  wp_region_quiet (C := fun w' => ∃ x : Later w, w' = x.w) hm hB ⟨⟨w.drewN 1, bo_drewN 1 (Below.refl _ _)⟩, rfl⟩ (by simpa using h)

end Go.Proofs.YtelcnojmfkoboaaDoor
