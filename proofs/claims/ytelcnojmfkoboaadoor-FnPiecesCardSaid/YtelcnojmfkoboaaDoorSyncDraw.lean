/- What FnSync picks: a small number of the bytes, and its digits. -/
import Derived.Test.YtelcnojmfkoboaaDoorPickOne
import Derived.Test.YtelcnojmfkoboaaDoorCur
import Derived.Test.YtelcnojmfkoboaaDoorStrOf
import Derived.Test.YtelcnojmfkoboaaDoorOpenCode
import Derived.Test.YtelcnojmfkoboaaDoorByteMath
import Derived.Test.YtelcnojmfkoboaaDoorHeapRows

namespace Go.Proofs.YtelcnojmfkoboaaDoor
open Go.RowKit
set_option maxRecDepth 100000
set_option linter.unusedSimpArgs false
set_option linter.unusedVariables false

end Go.Proofs.YtelcnojmfkoboaaDoor
