/- The lesser and the greater of two, as the model has them. -/
import Derived.Test.YtbnfdakaloeocaaDoorBase
import Derived.Handy
import Derived.Lib.SmallJoins
namespace Go.Proofs.YtbnfdakaloeocaaDoor
open Go.RowKit
set_option maxRecDepth 100000
set_option linter.unusedSimpArgs false
set_option linter.unusedVariables false
end Go.Proofs.YtbnfdakaloeocaaDoor
