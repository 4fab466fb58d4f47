/- Chapter 14's program: the mac, tokens made, read and signed, places listed. -/
import Derived.Test.YtolpfnoialmlbaaDoorTokMacs
import Derived.Test.YtolpfnoialmlbaaDoorTokRead
namespace Go.Proofs.YtolpfnoialmlbaaDoor
open Go.RowKit
set_option maxRecDepth 100000
end Go.Proofs.YtolpfnoialmlbaaDoor
