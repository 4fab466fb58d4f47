/- Chapter 14's program: the mac, tokens made, read and signed, places listed. -/
import Derived.Test.YtnadephjbglcfaaDoorBase
import Derived.Test.YtnadephjbglcfaaDoorTokMacs
import Derived.Test.YtnadephjbglcfaaDoorTokRead
namespace Go.Proofs.YtnadephjbglcfaaDoor
open Go.RowKit
set_option maxRecDepth 100000
end Go.Proofs.YtnadephjbglcfaaDoor
