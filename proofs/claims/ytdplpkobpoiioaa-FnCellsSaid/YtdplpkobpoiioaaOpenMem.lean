/- A Memory of the laws that came in, as a value and what it reads as. -/
import Derived.Test.YtdplpkobpoiioaaMem
import Derived.Test.YtdplpkobpoiioaaOpenRows
namespace Go.Proofs.Ytdplpkobpoiioaa
open Go.RowKit
set_option linter.unusedSimpArgs false
set_option linter.unusedVariables false

theorem iv_flat (L : List Int) : L.flatMap (fun z => [Value.int .i64 z]) = iv L := by
  induction L with
  | nil => rfl
  | cons a L ih => simp [iv] at ih ⊢; exact ih

open Go.ChangeShapes Go.WideShapes Go.ChangeAt Go.Joins in
theorem open_int64s {H : Type} {enc : TypeId × Value → H} {W : World} {base : Nat} {spare : Nat → Bool} {held : Bool} {fuel : Nat} {v : Value} {x : DataW H × List MemPlace} (h : DataW.trod enc Try.prog W base spare held fuel 24 [v] = some x) : ∃ L : List Int, Reads W v L.length 1 (iv L) := by
  obtain ⟨L, hL, _⟩ := open_rows (α := Int) 0 (fun z => [Value.int .i64 z]) 1 (fun _ => rfl) (fun _ => True) Try.underlying24 (by kernel_rfl) (by decide) (fun cs n y hy => by
    obtain ⟨z, rfl, _⟩ := DataW.trod_int Try.underlying2 hy
    exact ⟨z, rfl, trivial⟩) h
  rw [iv_flat] at hL
  exact ⟨L, hL⟩

open Go.ChangeShapes Go.WideShapes Go.ChangeAt Go.Joins in
theorem open_Memory {H : Type} {enc : TypeId × Value → H} {W : World} {base : Nat} {v : Value} {d : DataW H} {p : List MemPlace} (hv : Value.okWide Try.prog W .any base 47 v)
    (h : DataW.Trod enc Try.prog W 0 (fun _ => true) true 47 v d p) : ∃ m : Mm, v = .agg #[m.cv, m.tv] ∧ ReadM W m := by
  obtain ⟨c0, c1, y0, y1, n, rfl, _, _, hy0, hy1⟩ := open_agg2 Try.underlying47 (by kernel_rfl) (by kernel_rfl) hv h
  obtain ⟨L, hL⟩ := open_int64s hy0
  obtain ⟨T, hT, hTs⟩ := open_rows (α := Th) ⟨.bool false, [], 0, 0, 0⟩ Th.cs 4 tcs_len (fun t => Reads W t.sv t.st.length 3 (sv t.st)) Try.underlying45 (by kernel_rfl) (by decide) (fun cs n y hy => by
    obtain ⟨a0, a1, a2, a3, z0, z1, z2, z3, n', rfl, h0, h1, h2, h3⟩ := cells4 Try.underlying83 (by kernel_rfl) (by kernel_rfl) hy
    obtain ⟨S, hS, _⟩ := open_rows (α := St) ⟨0, 0, 0⟩ St.cs 3 cs_len (fun _ => True) Try.underlying81 (by kernel_rfl) (by decide) (fun cs n y hy => by
      obtain ⟨a0, a1, a2, z0, z1, z2, n', rfl, h0, h1, h2⟩ := cells3 Try.underlying93 (by kernel_rfl) (by kernel_rfl) hy
      obtain ⟨i0, e0, _⟩ := DataW.trod_int Try.underlying2 h0
      obtain ⟨i1, e1, _⟩ := DataW.trod_int Try.underlying2 h1
      obtain ⟨i2, e2, _⟩ := DataW.trod_int Try.underlying2 h2
      simp only [List.cons.injEq, and_true] at e0 e1 e2
      subst e0 e1 e2
      exact ⟨⟨i0, i1, i2⟩, rfl, trivial⟩) h0
    obtain ⟨i1, e1, _⟩ := DataW.trod_int Try.underlying2 h1
    obtain ⟨i2, e2, _⟩ := DataW.trod_int Try.underlying2 h2
    obtain ⟨i3, e3, _⟩ := DataW.trod_int Try.underlying2 h3
    simp only [List.cons.injEq, and_true] at e1 e2 e3
    subst e1 e2 e3
    exact ⟨⟨a0, S, i1, i2, i3⟩, rfl, hS⟩) hy1
  exact ⟨⟨c0, L, c1, T⟩, rfl, ⟨hL, ⟨hT, hTs⟩⟩⟩
end Go.Proofs.Ytdplpkobpoiioaa
