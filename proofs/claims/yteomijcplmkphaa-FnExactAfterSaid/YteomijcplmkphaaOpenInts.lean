/- A row of int64 that came in, as a value and what it reads as. -/
import Derived.Test.YteomijcplmkphaaInts
import Derived.Test.YteomijcplmkphaaOpenRows
namespace Go.Proofs.Yteomijcplmkphaa
open Go.RowKit
set_option maxRecDepth 100000
set_option linter.unusedSimpArgs false
set_option linter.unusedVariables false

theorem iv_flat (L : List Int) : L.flatMap (fun z => [Value.int .i64 z]) = iv L := by
  induction L with
  | nil => rfl
  | cons a L ih => simp [iv] at ih ⊢; exact ih

open Go.ChangeShapes Go.WideShapes Go.ChangeAt Go.Joins in
theorem open_int64s {H : Type} {enc : TypeId × Value → H} {W : World} {base : Nat} {spare : Nat → Bool} {held : Bool} {fuel : Nat} {v : Value} {x : DataW H × List MemPlace} (h : DataW.trod enc Try.prog W base spare held fuel 28 [v] = some x) : ∃ L : List Int, Reads W v L.length 1 (iv L) := by
  obtain ⟨L, hL, _⟩ := open_rows (α := Int) 0 (fun z => [Value.int .i64 z]) 1 (fun _ => rfl) (fun _ => True) Try.underlying28 (by kernel_rfl) (by decide) (fun cs n y hy => by
    obtain ⟨z, rfl, _⟩ := DataW.trod_int Try.underlying2 hy
    exact ⟨z, rfl, trivial⟩) h
  rw [iv_flat] at hL
  exact ⟨L, hL⟩
end Go.Proofs.Yteomijcplmkphaa
