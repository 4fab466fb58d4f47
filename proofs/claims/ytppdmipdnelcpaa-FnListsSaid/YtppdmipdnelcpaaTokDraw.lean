/- What the laws of tokens draw: digits, texts of a few. -/
import Derived.Test.YtppdmipdnelcpaaTokSpec4
import Derived.Test.YtppdmipdnelcpaaCurTurn
import Derived.Test.YtppdmipdnelcpaaOpenCode

namespace Go.Proofs.Ytppdmipdnelcpaa
open Go.RowKit
set_option maxRecDepth 100000
set_option linter.unusedSimpArgs false
set_option linter.unusedVariables false
end Go.Proofs.Ytppdmipdnelcpaa
