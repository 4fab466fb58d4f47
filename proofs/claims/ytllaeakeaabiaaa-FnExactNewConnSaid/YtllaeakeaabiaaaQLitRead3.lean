/- ReadLiteral: the model's walk. -/
import Derived.Test.YtllaeakeaabiaaaQLR
import Derived.Handy
namespace Go.Proofs.Ytllaeakeaabiaaa
open Go.RowKit
set_option maxRecDepth 100000
set_option linter.unusedSimpArgs false
set_option linter.unusedVariables false

end Go.Proofs.Ytllaeakeaabiaaa
