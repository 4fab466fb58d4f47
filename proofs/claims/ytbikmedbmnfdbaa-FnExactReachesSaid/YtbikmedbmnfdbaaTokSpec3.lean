/- Chapter 14's model: a text parted at its points, tokens made, read and signed. -/
import Derived.Test.YtbikmedbmnfdbaaTokSpec2
import Derived.Test.YtbikmedbmnfdbaaAppRows
import Derived.Test.YtbikmedbmnfdbaaRowNew
import Derived.Deep.DeepMust

namespace Go.Proofs.Ytbikmedbmnfdbaa
open Go.RowKit
set_option maxRecDepth 100000
set_option linter.unusedSimpArgs false
set_option linter.unusedVariables false
def splitV (s : ByteArray) : List ByteArray := (splitL (bys s)).map strOf
def sv14 (L : List (List Int)) : List Value := L.map fun l => Value.string (strOf l)
theorem sv14_app (A B : List (List Int)) : sv14 (A ++ B) = sv14 A ++ sv14 B := by simp [sv14]
theorem sv14_len (A : List (List Int)) : (sv14 A).length = A.length := by simp [sv14]
theorem sv14_one (A : List (List Int)) : ∀ u ∈ sv14 A, u.oneCell' = true := by
  intro u hu
  obtain ⟨x, _, rfl⟩ := List.mem_map.1 hu
  rfl
theorem piece_is (s : ByteArray) (f k : Nat) : strOf (((bys s).drop f).take (k - f)) = s.extract f k := by
  refine bys_inj ?_
  rw [bys_strOf (fun x hx => bys_range s x (List.mem_of_mem_drop (List.mem_of_mem_take hx))), bys_extract, List.drop_take]
end Go.Proofs.Ytbikmedbmnfdbaa
