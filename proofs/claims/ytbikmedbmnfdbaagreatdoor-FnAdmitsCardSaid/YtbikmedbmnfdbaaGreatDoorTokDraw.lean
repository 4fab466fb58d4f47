/- What the laws of tokens draw: digits, texts of a few. -/
import Derived.Test.YtbikmedbmnfdbaaGreatDoorTokSpec4
import Derived.Test.YtbikmedbmnfdbaaGreatDoorCurTurn
import Derived.Test.YtbikmedbmnfdbaaGreatDoorOpenCode

namespace Go.Proofs.YtbikmedbmnfdbaaGreatDoor
open Go.RowKit
set_option maxRecDepth 100000
set_option linter.unusedSimpArgs false
set_option linter.unusedVariables false
set_option maxHeartbeats 1000000 in
theorem drawName14 (g B : Nat) (w : World) (hc : Cur w g B) :
    Calls Tryz.prog 31 #[.pointer (some ⟨g, 0, none⟩)] w fun e w' => ∃ z : ByteArray, z.size ≤ 100 ∧ e = .returned (.string z) ∧ Cur w' g B ∧ Moves g w w' := by
  have hgw := hc.lt
  go_enter Tryz.func31, Tryz.ntmps31
  go_wp2_with fail
  refine (once1 g B 14 _ hc (by omega)).mono ?_; rintro e w1 ⟨v, rfl, hc1, hm1⟩
  have hg1 := hc1.lt
  cases v
  · go_wp2_with fail
    obtain ⟨VA, hVA⟩ : ∃ V, w1.alloc (.cells #[.string ⟨#[97, 110, 110, 97]⟩, .string ⟨#[98, 101, 114, 116]⟩] 9) = V := ⟨_, rfl⟩
    have RA : RowIs VA w1.heap.size 9 [.string ⟨#[97, 110, 110, 97]⟩, .string ⟨#[98, 101, 114, 116]⟩] := by rw [← hVA]; exact rowIs_new w1 _ _
    have hbA : Below w1.heap.size w1 VA := by rw [← hVA]; exact (Below.refl _ _).alloc (Nat.le_refl _) _
    rw [hVA]
    clear hVA
    refine (below1 g B 2 _ (hc1.below hbA) (by omega)).mono ?_; rintro e w2 ⟨q, q0, q1, _, rfl, hc2, hm2⟩
    have q6 := q1 (by omega)
    replace RA := RA.moves hm2 (by omega)
    obtain ⟨qn, rfl⟩ : ∃ n : Nat, q = n := ⟨q.toNat, by omega⟩
    obtain ⟨z, hz0, hz⟩ : ∃ z : ByteArray, z.size ≤ 100 ∧ w2.cell? ⟨w1.heap.size, qn, none⟩ = some (.string z) := by
      have : qn = 0 ∨ qn = 1 := by omega
      rcases this with rfl | rfl <;> exact ⟨_, by decide, RA.cell rfl⟩
    have hlA := RA.lt
    have hmm := (hm1.trans (Moves.of_below hbA)).trans hm2
    clear q1 RA hbA hm2 hm1
    go_wp2_with fail
    go_ret
    exact ⟨z, hz0, rfl, hc2, hmm⟩
  · go_wp2_with fail
    obtain ⟨VA, hVA⟩ : ∃ V, w1.alloc (.cells #[.string ⟨#[]⟩, .string ⟨#[65]⟩, .string ⟨#[97, 98, 99, 100, 101, 102, 103, 104, 105, 106, 107, 108, 109, 110, 111, 112, 113, 114, 115, 116]⟩, .string ⟨#[97, 98, 99, 100, 101, 102, 103, 104, 105, 106, 107, 108, 109, 110, 111, 112, 113, 114, 115, 116, 117]⟩, .string ⟨#[100, 111, 114, 97]⟩] 9) = V := ⟨_, rfl⟩
    have RA : RowIs VA w1.heap.size 9 [.string ⟨#[]⟩, .string ⟨#[65]⟩, .string ⟨#[97, 98, 99, 100, 101, 102, 103, 104, 105, 106, 107, 108, 109, 110, 111, 112, 113, 114, 115, 116]⟩, .string ⟨#[97, 98, 99, 100, 101, 102, 103, 104, 105, 106, 107, 108, 109, 110, 111, 112, 113, 114, 115, 116, 117]⟩, .string ⟨#[100, 111, 114, 97]⟩] := by rw [← hVA]; exact rowIs_new w1 _ _
    have hbA : Below w1.heap.size w1 VA := by rw [← hVA]; exact (Below.refl _ _).alloc (Nat.le_refl _) _
    rw [hVA]
    clear hVA
    refine (below1 g B 5 _ (hc1.below hbA) (by omega)).mono ?_; rintro e w2 ⟨q, q0, q1, _, rfl, hc2, hm2⟩
    have q6 := q1 (by omega)
    replace RA := RA.moves hm2 (by omega)
    obtain ⟨qn, rfl⟩ : ∃ n : Nat, q = n := ⟨q.toNat, by omega⟩
    obtain ⟨z, hz0, hz⟩ : ∃ z : ByteArray, z.size ≤ 100 ∧ w2.cell? ⟨w1.heap.size, qn, none⟩ = some (.string z) := by
      have : qn = 0 ∨ qn = 1 ∨ qn = 2 ∨ qn = 3 ∨ qn = 4 := by omega
      rcases this with rfl | rfl | rfl | rfl | rfl <;> exact ⟨_, by decide, RA.cell rfl⟩
    have hlA := RA.lt
    have hmm := (hm1.trans (Moves.of_below hbA)).trans hm2
    clear q1 RA hbA hm2 hm1
    go_wp2_with fail
    go_ret
    exact ⟨z, hz0, rfl, hc2, hmm⟩
end Go.Proofs.YtbikmedbmnfdbaaGreatDoor
