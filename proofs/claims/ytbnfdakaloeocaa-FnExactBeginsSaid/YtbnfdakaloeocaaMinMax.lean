/- The lesser and the greater of two, as the model has them. -/
import Derived.Test.YtbnfdakaloeocaaBase
import Derived.Handy
import Derived.Lib.SmallJoins
namespace Go.Proofs.Ytbnfdakaloeocaa
open Go.RowKit
set_option maxRecDepth 100000
set_option linter.unusedSimpArgs false
set_option linter.unusedVariables false
end Go.Proofs.Ytbnfdakaloeocaa
