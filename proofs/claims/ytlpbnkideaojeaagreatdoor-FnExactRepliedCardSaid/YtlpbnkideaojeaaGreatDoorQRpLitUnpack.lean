/- Lemmas. -/
import Derived.Test.YtlpbnkideaojeaaGreatDoorQRpLitPack2
namespace Go.Proofs.YtlpbnkideaojeaaGreatDoor
open Go.RowKit
set_option maxRecDepth 100000
set_option linter.unusedSimpArgs false
set_option linter.unusedVariables false
def uJ (r : List Int × Nat × Int) : Bool := decide (r.2.1 < 8 ∧ r.2.2 = tw r.2.1 - 1)
theorem NV (r : List Int × Nat × Int) : uJ r = true ↔ qI r := by simp [uJ, qI]
def sD (s : ByteArray) : Option (List Int × Nat × Int) := gQ (nY 0 (cB s)) 0 0 (cB s)
def yG (s : ByteArray) : ByteArray × Bool := if s.size ≤ 125 then (match sD s with
 | some r => if uJ r = true then (strOf (r.1.map oV), true) else (⟨#[]⟩, false)
 | none => (⟨#[]⟩, false)) else (⟨#[]⟩, false)
theorem X4 {l : List Int} (h : ∀ x ∈ l, 0 ≤ x ∧ x ≤ 30) : ∀ x ∈ l.map oV, 0 ≤ x ∧ x ≤ 255 := by
 intro x hx
 obtain ⟨y, hy, rfl⟩ := List.mem_map.1 hx
 exact Yd (h y hy).1 (h y hy).2
end Go.Proofs.YtlpbnkideaojeaaGreatDoor
