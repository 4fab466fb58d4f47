/- Chapter 14's program: the mac, tokens made, read and signed, places listed. -/
import Derived.Test.YtfemmnhfllbgjaaGreatDoorBase
import Derived.Test.YtfemmnhfllbgjaaGreatDoorTokMacs
import Derived.Test.YtfemmnhfllbgjaaGreatDoorTokRead
import Derived.Test.YtfemmnhfllbgjaaGreatDoorTokListed
namespace Go.Proofs.YtfemmnhfllbgjaaGreatDoor
open Go.RowKit
set_option maxRecDepth 100000
end Go.Proofs.YtfemmnhfllbgjaaGreatDoor
