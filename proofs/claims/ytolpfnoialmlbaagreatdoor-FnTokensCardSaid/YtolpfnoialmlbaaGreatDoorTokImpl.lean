/- Chapter 14's program: the mac, tokens made, read and signed, places listed. -/
import Derived.Test.YtolpfnoialmlbaaGreatDoorTokMacs
import Derived.Test.YtolpfnoialmlbaaGreatDoorTokRead
namespace Go.Proofs.YtolpfnoialmlbaaGreatDoor
open Go.RowKit
set_option maxRecDepth 100000
end Go.Proofs.YtolpfnoialmlbaaGreatDoor
