/- The program's Given. -/
import Derived.Test.YtfmeinkhdgbgjaaGreatQTkLinkGot
import Derived.Test.YtfmeinkhdgbgjaaGreatQTkG16
import Derived.Test.YtfmeinkhdgbgjaaGreatQTkG3
import Derived.Test.YtfmeinkhdgbgjaaGreatQTkG2
import Derived.Test.YtfmeinkhdgbgjaaGreatQTkConnSpec4
import Derived.Test.YtfmeinkhdgbgjaaGreatQTkG5
import Derived.Test.YtfmeinkhdgbgjaaGreatQTkG4
import Derived.Handy
import Derived.Deep.RegionHeld3
import Derived.Deep.Cut
import Derived.Deep.DeepCutAuto
import Derived.Deep.QuietTactic
namespace Go.Proofs.YtfmeinkhdgbgjaaGreat
open Go.RowKit
set_option maxRecDepth 100000
set_option linter.unusedSimpArgs false
set_option linter.unusedVariables false
theorem state_is {r : RegistryD} {id : Int} {k : Nat} (h : atE r.es id = some k) (hk : k < r.es.length) : stateD r id = r.es[k].state := by unfold stateD; rw [h]; simp [hk]
end Go.Proofs.YtfmeinkhdgbgjaaGreat
