/- Chapter 14's program: the mac, tokens made, read and signed, places listed. -/
import Derived.Test.YtbikmedbmnfdbaaTokListed
namespace Go.Proofs.Ytbikmedbmnfdbaa
open Go.RowKit
set_option maxRecDepth 100000
end Go.Proofs.Ytbikmedbmnfdbaa
