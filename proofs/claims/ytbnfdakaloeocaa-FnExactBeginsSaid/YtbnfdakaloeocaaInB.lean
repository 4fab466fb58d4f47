/- What is in range: the program's word for it and the model's. -/
import Derived.Test.YtbnfdakaloeocaaBase
import Derived.Handy
import Derived.Lib.SmallJoins
namespace Go.Proofs.Ytbnfdakaloeocaa
open Go.RowKit
set_option maxRecDepth 100000
set_option linter.unusedSimpArgs false
set_option linter.unusedVariables false

/-- Is x from lo to hi? -/
def inB (x lo hi : Int) : Bool := decide (lo ≤ x ∧ x ≤ hi)
theorem inB_true {x lo hi : Int} (h : inB x lo hi = true) : lo ≤ x ∧ x ≤ hi := of_decide_eq_true h
theorem inB_of {x lo hi : Int} (h : lo ≤ x) (h' : x ≤ hi) : inB x lo hi = true := decide_eq_true ⟨h, h'⟩
theorem inB_not {x lo hi : Int} (h : ¬ (lo ≤ x ∧ x ≤ hi)) : inB x lo hi = false := decide_eq_false h
theorem inB_false {x lo hi : Int} (h : inB x lo hi = false) : ¬ (lo ≤ x ∧ x ≤ hi) := of_decide_eq_false h


end Go.Proofs.Ytbnfdakaloeocaa
