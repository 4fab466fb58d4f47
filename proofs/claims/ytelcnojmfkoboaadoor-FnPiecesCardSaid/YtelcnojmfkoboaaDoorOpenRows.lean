/- A slice that came in, of elements of whatever make, read as a list. -/
import Derived.Test.YtelcnojmfkoboaaDoorHeapRows
import Derived.OpenShut
import Derived.ChangeOld
import Derived.Lib.SmallJoins
namespace Go.Proofs.YtelcnojmfkoboaaDoor
open Go.RowKit
set_option maxRecDepth 100000
set_option linter.unusedSimpArgs false
set_option linter.unusedVariables false

open Go.ChangeShapes Go.WideShapes Go.ChangeAt Go.Joins Go.Deep in
theorem open_rows {α : Type} (x0 : α) (f : α → List Value) (size : Nat) (hf : ∀ x, (f x).length = size) (R : α → Prop) {H : Type} {enc : TypeId × Value → H} {W : World} {base : Nat} {spare : Nat → Bool} {held : Bool} {t e : TypeId} {fuel : Nat} {v : Value} {x : DataW H × List MemPlace}
    (ht : Tryd.prog.underlying t = some (.slice e)) (hs : Tryd.prog.cellsOf e = size) (hpos : 0 < size)
    (hel : ∀ cs n y, DataW.trod enc Tryd.prog W base spare held n e cs = some y → ∃ x : α, cs = f x ∧ R x)
    (h : DataW.trod enc Tryd.prog W base spare held fuel t [v] = some x) : ∃ L : List α, Reads W v L.length size (L.flatMap f) ∧ ∀ x ∈ L, R x := by
  have hinh : Inhabited α := ⟨x0⟩
  rcases Deep.open_slice ht h with ⟨hcs, _⟩ | ⟨a, len, cap, m, n, D, Pl, hcs, hb, hl, hm, hmm, _, hx⟩
  · simp only [List.cons.injEq, and_true] at hcs
    subst hcs
    exact ⟨[], ⟨by simp, none, 0, rfl, Nat.le_refl _, Nat.zero_le _, fun h => absurd h (by simp)⟩, fun x hx => by cases hx⟩
  · simp only [List.cons.injEq, and_true] at hcs
    subst hcs
    have hlm : len ≤ m := by rw [hmm]; split <;> omega
    obtain ⟨X, hX⟩ := Deep.choose_lt (α := α) (n := len) (p := fun i x => W.cells? base (a.add (i * size)) size = some (f x) ∧ R x) (fun i hi => by
      obtain ⟨cs', h1, h2⟩ := hx i (by omega)
      rw [hs] at h1
      obtain ⟨x, rfl, hr⟩ := hel cs' _ _ h2
      exact ⟨x, h1, hr⟩)
    have hlen : ((List.range len).map X).length = len := by simp
    have hget : ∀ i (hi : i < len), ((List.range len).map X)[i]'(by simpa using hi) = X i := fun i hi => by simp
    refine ⟨(List.range len).map X, ⟨by rw [flat_length f size hf], some a, cap, by rw [hlen], by rw [hlen]; exact hl, hm, fun hn => ?_⟩, fun x hx => ?_⟩
    · rw [hlen] at hn
      obtain ⟨b, o, sp⟩ := a
      have h0 := (hX 0 hn).1
      have hc0 := (World.cells?_some h0).2.2 0 hpos
      have hsome : (f (X 0))[0]? = some ((f (X 0))[0]'(by rw [hf]; exact hpos)) := List.getElem?_eq_getElem _
      rw [hsome] at hc0
      have hsp : sp = none := by
        cases sp with
        | none => rfl
        | some q => simp [Addr.add, World.cell?] at hc0; split at hc0 <;> simp at hc0
      subst hsp
      have hadd : ∀ i r, ((⟨b, o, none⟩ : Addr).add i).add r = ⟨b, o + (i + r), none⟩ := fun i r => by rw [Deep.add_add]; unfold Addr.add; split <;> simp_all
      refine ⟨b, o, rfl, ?_, fun j u hu => ?_⟩
      · have := hadd (0 * size) 0
        rw [this] at hc0
        exact World.block_lt_of_cell? W _ hc0
      · have hj : j < len * size := by
          have := (List.getElem?_eq_some_iff.1 hu).1
          rw [flat_length f size hf, hlen] at this
          exact this
        have hi : j / size < len := by rw [Nat.div_lt_iff_lt_mul hpos]; exact hj
        have hr : j % size < size := Nat.mod_lt _ hpos
        have hjj : j / size * size + j % size = j := by have := Nat.div_add_mod j size; rw [Nat.mul_comm] at this; exact this
        rw [← hjj, flat_get f size hf _ _ (by rw [hlen]; exact hi) _ hr, hget _ hi] at hu
        have hc := (World.cells?_some (hX _ hi).1).2.2 _ hr
        rw [hadd, hu, hjj] at hc
        exact hc
    · obtain ⟨i, hi, rfl⟩ := List.mem_map.1 hx
      exact (hX i (by simpa using hi)).2

open Go.ChangeShapes Go.WideShapes Go.ChangeAt Go.Joins Go.Deep in
theorem cells3 {H : Type} {enc : TypeId × Value → H} {W : World} {base : Nat} {spare : Nat → Bool} {held : Bool} {t : TypeId} {f0 f1 f2 : Field} {fuel : Nat} {cs : List Value} {x : DataW H × List MemPlace} (hs : Tryd.prog.underlying t = some (.struct #[f0, f1, f2])) (hone : oneCellFields Tryd.prog #[f0, f1, f2] = true) (hC : Tryd.prog.cellsOf t = 3)
    (h : DataW.trod enc Tryd.prog W base spare held fuel t cs = some x) :
    ∃ (c0 c1 c2 : Value) (y0 y1 y2 : DataW H × List MemPlace) (n : Nat), cs = [c0, c1, c2] ∧ DataW.trod enc Tryd.prog W base spare held n f0.type [c0] = some y0 ∧ DataW.trod enc Tryd.prog W base spare held n f1.type [c1] = some y1 ∧ DataW.trod enc Tryd.prog W base spare held n f2.type [c2] = some y2 := by
  obtain ⟨y0, y1, y2, n, hx, hl, h0, h1, h2⟩ := trod_struct3 hs h
  obtain ⟨o0, k0⟩ := hone_of hone 0 f0 rfl
  obtain ⟨o1, k1⟩ := hone_of hone 1 f1 rfl
  obtain ⟨o2, k2⟩ := hone_of hone 2 f2 rfl
  rw [hC] at hl
  match cs, hl with
  | [c0, c1, c2], _ => exact ⟨c0, c1, c2, y0, y1, y2, n, rfl, by simpa [o0, k0] using h0, by simpa [o1, k1] using h1, by simpa [o2, k2] using h2⟩
open Go.ChangeShapes Go.WideShapes Go.ChangeAt Go.Joins Go.Deep in
theorem cells4 {H : Type} {enc : TypeId × Value → H} {W : World} {base : Nat} {spare : Nat → Bool} {held : Bool} {t : TypeId} {f0 f1 f2 f3 : Field} {fuel : Nat} {cs : List Value} {x : DataW H × List MemPlace} (hs : Tryd.prog.underlying t = some (.struct #[f0, f1, f2, f3])) (hone : oneCellFields Tryd.prog #[f0, f1, f2, f3] = true) (hC : Tryd.prog.cellsOf t = 4)
    (h : DataW.trod enc Tryd.prog W base spare held fuel t cs = some x) :
    ∃ (c0 c1 c2 c3 : Value) (y0 y1 y2 y3 : DataW H × List MemPlace) (n : Nat), cs = [c0, c1, c2, c3] ∧ DataW.trod enc Tryd.prog W base spare held n f0.type [c0] = some y0 ∧ DataW.trod enc Tryd.prog W base spare held n f1.type [c1] = some y1 ∧ DataW.trod enc Tryd.prog W base spare held n f2.type [c2] = some y2 ∧ DataW.trod enc Tryd.prog W base spare held n f3.type [c3] = some y3 := by
  obtain ⟨y0, y1, y2, y3, n, hx, hl, h0, h1, h2, h3⟩ := trod_struct4 hs h
  obtain ⟨o0, k0⟩ := hone_of hone 0 f0 rfl
  obtain ⟨o1, k1⟩ := hone_of hone 1 f1 rfl
  obtain ⟨o2, k2⟩ := hone_of hone 2 f2 rfl
  obtain ⟨o3, k3⟩ := hone_of hone 3 f3 rfl
  rw [hC] at hl
  match cs, hl with
  | [c0, c1, c2, c3], _ => exact ⟨c0, c1, c2, c3, y0, y1, y2, y3, n, rfl, by simpa [o0, k0] using h0, by simpa [o1, k1] using h1, by simpa [o2, k2] using h2, by simpa [o3, k3] using h3⟩
end Go.Proofs.YtelcnojmfkoboaaDoor
