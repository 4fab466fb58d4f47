/- A row that is owned, with one more behind an append. -/
import Derived.Test.YtfemmnhfllbgjaaGreatDoorShape2
namespace Go.Proofs.YtfemmnhfllbgjaaGreatDoor
open Go.RowKit
set_option maxRecDepth 100000
set_option linter.unusedSimpArgs false
set_option linter.unusedVariables false
/-- A row that is owned, opened for an append: its cells, and what the append leaves. -/
theorem OwX.grow {D : Type} {E : Shp D} {w : World} {lo mid : Nat} {v : Value} {L : List D} (h : OwX E w lo mid v L) (hmid : mid ≤ w.heap.size) (hlm : lo ≤ mid) : ∃ xs, w.ownsRow 0 E.ty E.size v L.length xs ∧
    ∀ (w1 : World) (v' : Value) (cs : List Value) (x : D), OwE E w mid w.heap.size cs x → w1.ownsRow 0 E.ty E.size v' (L.length + 1) (xs ++ cs) → w.grownBy w1 v.ownBlock → (v'.ownBlock = v.ownBlock ∨ v'.ownBlock = some w.heap.size) → OwX E w1 lo w1.heap.size v' (L ++ [x]) := by
  obtain ⟨bs, ⟨ts, hL, ho, hE, rfl⟩, hn, hb⟩ := h
  have hlen : L.length = ts.length := by rw [hL]; simp
  refine ⟨ts.flatMap (·.1), by rw [hlen]; exact ho, fun w1 v' cs x hx ho' hg hat => ?_⟩
  exact OwX.app (mid := mid) (hi := w.heap.size) hL ho hE hn hb hmid (by omega) hx hlm (by rw [← hlen]; exact ho') hg hat
end Go.Proofs.YtfemmnhfllbgjaaGreatDoor
