/- Chapter 7's Shown and Payload, of the program and of the model. -/
import Derived.Test.YtbnfdakaloeocaaFrOk
import Derived.Test.YtbnfdakaloeocaaClone

namespace Go.Proofs.Ytbnfdakaloeocaa
open Go.RowKit
set_option maxRecDepth 100000
set_option linter.unusedSimpArgs false
set_option linter.unusedVariables false
theorem bysV_of {n : Int} {c : Nat} (hc1 : 1 ≤ c) (hc : c ≤ 4) (h0 : 0 ≤ n) (h1 : n < 256 ^ c) : bysV n c = bytV c n := by
  unfold bysV
  rw [Int.toNat_natCast, if_pos ⟨decide_eq_true ⟨by omega, by omega⟩, decide_eq_true ⟨h0, by omega⟩⟩]
theorem bytV_one (n : Int) : bytV 1 n = strOf [n % 256] := rfl
theorem strOf_two (a b : Int) : strOf [a] ++ strOf [b] = strOf [a, b] := bys_inj (by unfold strOf; rw [bys_append]; rfl)
/-- The head as the program writes it, part by part. -/
theorem hdV_parts {k fl st : Int} {b : ByteArray} (h : hdOk k fl st b.size = true) : bytV 2 b.size ++ bytV 1 k ++ bytV 1 fl ++ bytV 3 st ++ b = hdV ⟨k, fl, st, b⟩ ++ b := by
  obtain ⟨p1, p2, p3, p4, p5, p6, p7, p8⟩ := hd_parts h
  have e1 : k % 256 = k := by omega
  have e2 : fl % 256 = fl := by omega
  unfold hdV
  dsimp only
  rw [bytV_one, bytV_one, e1, e2, ba_append_assoc (bytV 2 _), strOf_two, ba_append_assoc (bytV 2 _)]

end Go.Proofs.Ytbnfdakaloeocaa
