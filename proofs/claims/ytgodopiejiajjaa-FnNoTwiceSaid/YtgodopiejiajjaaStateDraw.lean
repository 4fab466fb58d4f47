/- What the laws of states draw: states, events, rows of events. -/
import Derived.Test.YtgodopiejiajjaaCurTurn
import Derived.Test.YtgodopiejiajjaaRowIs
import Derived.Test.YtgodopiejiajjaaOpenCode
import Derived.Test.YtgodopiejiajjaaStateSpec
import Derived.Test.YtgodopiejiajjaaAppRows
import Derived.Test.YtgodopiejiajjaaRowNew

namespace Go.Proofs.Ytgodopiejiajjaa
open Go.RowKit
set_option maxRecDepth 100000
set_option linter.unusedSimpArgs false
set_option linter.unusedVariables false
end Go.Proofs.Ytgodopiejiajjaa
