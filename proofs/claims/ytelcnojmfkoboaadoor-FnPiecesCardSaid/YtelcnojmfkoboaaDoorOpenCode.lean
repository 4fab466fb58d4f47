/- The bytes that a property law is given: what their slice is, and when there are too many. For every chapter's property laws. -/
import Derived.Test.YtelcnojmfkoboaaDoorCur
import Derived.WalkKit
import Derived.ProofKit
import Derived.OpenShut
import Derived.ShutString
import Derived.ChangeOld
import Derived.Below
import Derived.Lib.SmallJoins
import Derived.Handy
namespace Go.Proofs.YtelcnojmfkoboaaDoor
open Go.RowKit
set_option maxRecDepth 100000
set_option linter.unusedVariables false
set_option linter.unusedSimpArgs false

theorem big1 (a : Option Addr) (len cap : Nat) (w : World) : Calls Tryd.prog 6 #[.slice a len cap] w fun x w' => x = .returned (.bool (decide ((4096 : Int) < len))) ∧ w' = w := by
  go_enter Tryd.func6, Tryd.ntmps6
  go_wp2
  go_ret
  exact ⟨rfl, rfl⟩
theorem CodeAt.wider {w : World} {a : Option Addr} {len B B' : Nat} (h : CodeAt w a len B) (hb : B ≤ B') : CodeAt w a len B' := fun j hj => by
  obtain ⟨b, o, z, h1, h2, h3⟩ := h j hj
  exact ⟨b, o, z, h1, by omega, h3⟩
theorem CodeAt.behind {w w' : World} {a : Option Addr} {len : Nat} (h : CodeAt w a len w.heap.size) (hb : Below w.heap.size w w') : CodeAt w' a len w'.heap.size := (h.kept hb).wider hb.size

open Go.ChangeShapes Go.WideShapes Go.ChangeAt Go.Joins
open Go.ChangeMaps (open_string shut_string)

theorem open_code {H : Type} {enc : TypeId × Value → H} {W : World} {a : Option Addr} {len cap : Nat} {d : DataW H} {p : List MemPlace}
    (h : DataW.Trod enc Tryd.prog W 0 (fun _ => true) true 22 (.slice a len cap) d p) : len ≤ maxLen ∧ CodeAt W a len W.heap.size := by
  obtain ⟨fuel, hf⟩ := h
  rcases open_ints Tryd.underlying22 Tryd.underlying5 (by kernel_rfl) hf with ⟨hcs, _⟩ | ⟨x, l, c, zs, hcs, _, hl, hm, hz, _, hcell, hwz⟩
  · simp [Value.cells] at hcs
    obtain ⟨rfl, rfl, rfl⟩ := hcs
    exact ⟨Nat.zero_le _, fun j hj => by omega⟩
  · simp [Value.cells] at hcs
    obtain ⟨rfl, rfl, rfl⟩ := hcs
    have hz' : zs.length = cap := by simpa using hz
    refine ⟨by omega, fun j hj => ?_⟩
    obtain ⟨b, o, sp⟩ := x
    have hc0 := hcell 0 (by omega)
    have hsp : sp = none := by simpa [Addr.add] using World.cell?_spot hc0
    subst hsp
    have hc := hcell j (by omega)
    have hr := range_u8 hwz j
    have hc' : W.cell? ⟨b, o + j, none⟩ = some (.int .u8 (zs.getD j 0)) := by
      by_cases h0 : j = 0
      · subst h0; simpa [Addr.add] using hc
      · simpa [Addr.add, h0] using hc
    refine ⟨b, o, zs.getD j 0, rfl, World.block_lt_of_cell? W _ hc', ?_, ?_, hc'⟩
    · rw [List.getD_eq_getElem?_getD]; exact hr.1
    · rw [List.getD_eq_getElem?_getD]; exact hr.2
end Go.Proofs.YtelcnojmfkoboaaDoor
