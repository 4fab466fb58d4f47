/- Packed: the program's. -/
import Derived.Test.YtllaeakeaabiaaaQLitPack
import Derived.Test.YtllaeakeaabiaaaQG3
import Derived.Handy
namespace Go.Proofs.Ytllaeakeaabiaaa
open Go.RowKit
set_option maxRecDepth 100000
set_option linter.unusedSimpArgs false
set_option linter.unusedVariables false

end Go.Proofs.Ytllaeakeaabiaaa
