/- A row of int64 that came in, as a value and what it reads as. -/
import Derived.Test.YtllignhfkkeinaaInts
import Derived.Test.YtllignhfkkeinaaOpenRows
namespace Go.Proofs.Ytllignhfkkeinaa
open Go.RowKit
set_option maxRecDepth 100000
set_option linter.unusedSimpArgs false
set_option linter.unusedVariables false

theorem iv_flat (L : List Int) : L.flatMap (fun z => [Value.int .i64 z]) = iv L := by
  induction L with
  | nil => rfl
  | cons a L ih => simp [iv] at ih ⊢; exact ih

open Go.ChangeShapes Go.WideShapes Go.ChangeAt Go.Joins in
theorem open_int64s {H : Type} {enc : TypeId × Value → H} {W : World} {base : Nat} {spare : Nat → Bool} {held : Bool} {fuel : Nat} {v : Value} {x : DataW H × List MemPlace} (h : DataW.trod enc Try.prog W base spare held fuel 24 [v] = some x) : ∃ L : List Int, Reads W v L.length 1 (iv L) := by
  obtain ⟨L, hL, _⟩ := open_rows (α := Int) 0 (fun z => [Value.int .i64 z]) 1 (fun _ => rfl) (fun _ => True) Try.underlying24 (by kernel_rfl) (by decide) (fun cs n y hy => by
    obtain ⟨z, rfl, _⟩ := DataW.trod_int Try.underlying2 hy
    exact ⟨z, rfl, trivial⟩) h
  rw [iv_flat] at hL
  exact ⟨L, hL⟩

open Go.ChangeShapes Go.WideShapes Go.ChangeAt Go.Joins in
theorem open_int64r {H : Type} {enc : TypeId × Value → H} {W : World} {base : Nat} {spare : Nat → Bool} {held : Bool} {fuel : Nat} {v : Value} {x : DataW H × List MemPlace} (h : DataW.trod enc Try.prog W base spare held fuel 24 [v] = some x) : ∃ L : List Int, Reads W v L.length 1 (iv L) ∧ ∀ j (hj : j < L.length), -9223372036854775808 ≤ L[j] ∧ L[j] ≤ 9223372036854775807 := by
  obtain ⟨L, hL, hP⟩ := open_rows (α := Int) 0 (fun z => [Value.int .i64 z]) 1 (fun _ => rfl) (fun z => -9223372036854775808 ≤ z ∧ z ≤ 9223372036854775807) Try.underlying24 (by kernel_rfl) (by decide) (fun cs n y hy => by
    obtain ⟨z, rfl, _, hw⟩ := DataW.trod_int Try.underlying2 hy
    exact ⟨z, rfl, by have e1 : IntKind.i64.min = -9223372036854775808 := rfl; have e2 : IntKind.i64.max = 9223372036854775807 := rfl; simp [Lit.wf] at hw; omega⟩) h
  rw [iv_flat] at hL
  exact ⟨L, hL, fun j hj => hP _ (List.getElem_mem hj)⟩
end Go.Proofs.Ytllignhfkkeinaa
