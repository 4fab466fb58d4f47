/- The library's strconv.FormatInt, strconv.ParseInt and strings.SplitN at this program: where the shelf's contracts find their bodies. -/
import Derived.Shelf.Lays
import Derived.Shelf.LaysC
import Derived.Shelf.LaysM
import Derived.Test.YtbikmedbmnfdbaaBase
import Derived.Handy
namespace Go.Proofs.Ytbikmedbmnfdbaa
open Go.Shelf Go.RowKit
end Go.Proofs.Ytbikmedbmnfdbaa
