/- Chapter 14's program: the mac, tokens made, read and signed, places listed. -/
import Derived.Test.YtnadephjbglcfaaGreatDoorBase
import Derived.Test.YtnadephjbglcfaaGreatDoorTokMacs
import Derived.Test.YtnadephjbglcfaaGreatDoorTokRead
namespace Go.Proofs.YtnadephjbglcfaaGreatDoor
open Go.RowKit
set_option maxRecDepth 100000
end Go.Proofs.YtnadephjbglcfaaGreatDoor
