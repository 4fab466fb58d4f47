/- Chapter 7's heads: may a frame begin so? The program's words for it and the model's. -/
import Derived.Test.YtbnfdakaloeocaaFrNum

namespace Go.Proofs.Ytbnfdakaloeocaa
open Go.RowKit
set_option maxRecDepth 100000
set_option linter.unusedSimpArgs false
set_option linter.unusedVariables false
def padB (k fl : Int) : Bool := decide (k = 1) && decide (2 ≤ fl)

end Go.Proofs.Ytbnfdakaloeocaa
