/- Chapter 14's program: the mac, tokens made, read and signed, places listed. -/
import Derived.Test.YtbikmedbmnfdbaaGreatDoorTokMacs
import Derived.Test.YtbikmedbmnfdbaaGreatDoorTokRead
import Derived.Test.YtbikmedbmnfdbaaGreatDoorTokListed
namespace Go.Proofs.YtbikmedbmnfdbaaGreatDoor
open Go.RowKit
set_option maxRecDepth 100000
end Go.Proofs.YtbikmedbmnfdbaaGreatDoor
