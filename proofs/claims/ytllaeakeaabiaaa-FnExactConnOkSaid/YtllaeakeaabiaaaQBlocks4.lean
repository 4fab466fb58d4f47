/- What a block has of a Field, and the table behind it. -/
import Derived.Test.YtllaeakeaabiaaaQBlk
namespace Go.Proofs.Ytllaeakeaabiaaa
open Go.RowKit
set_option maxRecDepth 100000
set_option linter.unusedSimpArgs false
set_option linter.unusedVariables false

end Go.Proofs.Ytllaeakeaabiaaa
