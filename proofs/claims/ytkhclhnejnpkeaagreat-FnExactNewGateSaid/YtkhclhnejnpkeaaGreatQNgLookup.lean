/- Lookup of the program and of the model, in plain words. -/
import Derived.Test.YtkhclhnejnpkeaaGreatQNgG12
import Derived.Test.YtkhclhnejnpkeaaGreatQNgG6
import Derived.Test.YtkhclhnejnpkeaaGreatQNgG3
import Derived.Laws.StructEq
import Derived.Deep.Cut
namespace Go.Proofs.YtkhclhnejnpkeaaGreat
open Go.RowKit
set_option maxRecDepth 100000
set_option linter.unusedSimpArgs false
set_option linter.unusedVariables false
/-- Is a row alike? Has it this Name? -/
def alike (f r : Fd) : Bool := (r.n.toList == f.n.toList) && (r.v.toList == f.v.toList)
end Go.Proofs.YtkhclhnejnpkeaaGreat
