/- Chapter 14's program: the mac, tokens made, read and signed, places listed. -/
import Derived.Test.YtolpfnoialmlbaaTokMacs
namespace Go.Proofs.Ytolpfnoialmlbaa
open Go.RowKit
set_option maxRecDepth 100000
end Go.Proofs.Ytolpfnoialmlbaa
