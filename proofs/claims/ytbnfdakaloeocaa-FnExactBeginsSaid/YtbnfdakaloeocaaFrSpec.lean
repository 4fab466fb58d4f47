/- Chapter 7: the model's Frames. -/
import Derived.Test.YtbnfdakaloeocaaFrRead0
import Derived.Test.YtbnfdakaloeocaaFrameRows
import Derived.Test.YtbnfdakaloeocaaAppRows
import Derived.Test.YtbnfdakaloeocaaRowIs
import Derived.Deep.DeepCutAuto
import Derived.Deep.RegionWith
import Derived.Deep.RegionHeld3

namespace Go.Proofs.Ytbnfdakaloeocaa
open Go.RowKit
set_option maxRecDepth 100000
set_option linter.unusedSimpArgs false
set_option linter.unusedVariables false
end Go.Proofs.Ytbnfdakaloeocaa
