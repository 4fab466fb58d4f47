/- The library's strings.Clone at this program: it hands back the same bytes. Laid off the shelf's own contract. -/
import Derived.Shelf.LaysM
import Derived.Shelf.Strconv.Clone
import Derived.Test.YtbnfdakaloeocaaBase
import Derived.Handy
namespace Go.Proofs.Ytbnfdakaloeocaa
open Go.Shelf Go.RowKit
end Go.Proofs.Ytbnfdakaloeocaa
