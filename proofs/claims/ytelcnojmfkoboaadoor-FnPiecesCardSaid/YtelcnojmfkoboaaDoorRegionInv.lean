/- A rule for a region whose operations come in whatever order: what holds of the operations that have come up, of the frame and of the world, is kept by each operation. -/
import Derived.Test.YtelcnojmfkoboaaDoorBase
import Derived.Handy
import Derived.RegionTactic
namespace Go.Proofs.YtelcnojmfkoboaaDoor
open Go.RowKit
set_option maxRecDepth 100000
set_option linter.unusedSimpArgs false
set_option linter.unusedVariables false

section
variable {P : Program} {ops : Array Oper} {Q : Exit → Act → World → Prop} {md : Region.Mode}

/-- For what operation i waits. -/
def waitsFor (md : Region.Mode) (ops : Array Oper) (i : Nat) : List Nat :=
  match ops[i]? with
  | none => []
  | some o => (o.after.toList.filter (Region.binds md)).map (·.on)

theorem ready_waits {i j : Nat} {l : Array Bool} (h : i ∈ Region.ready md ops l) (hj : (waitsFor md ops i).contains j = true) : l.getD j false = true := by
  obtain ⟨_, o, ho, hall⟩ := mem_ready.1 h
  simp only [waitsFor, ho, List.contains_iff_mem, List.mem_map, List.mem_filter, Array.mem_toList_iff] at hj
  obtain ⟨e, ⟨he, hb⟩, rfl⟩ := hj
  exact hall e he hb

theorem ready_new {i : Nat} {l : Array Bool} (h : i ∈ Region.ready md ops l) (hl : l.size = ops.size) : l.getD i false = false ∧ i < l.size := by
  obtain ⟨h0, o, ho, _⟩ := mem_ready.1 h
  have hi : i < l.size := hl ▸ (Array.getElem?_eq_some_iff.1 ho).1
  simp [hi] at h0 ⊢
  exact h0

theorem ready_lt {i : Nat} {l : Array Bool} (h : i ∈ Region.ready md ops l) : i < ops.size := by
  obtain ⟨_, o, ho, _⟩ := mem_ready.1 h
  exact (Array.getElem?_eq_some_iff.1 ho).1

theorem set_is {i : Nat} {l : Array Bool} (h : i < l.size) : (l.setIfInBounds i true).getD i false = true := by simp [h]

/-- The last one has not come up where another one may still come up: it waits for all. -/
theorem not_last {i n : Nat} {l : Array Bool} (h : i ∈ Region.ready md ops l) (hl : l.size = ops.size) (hn : l.getD n false = true → ∀ j, j < n → l.getD j false = true) (hi : i < n) : l.getD n false = false := by
  cases hh : l.getD n false
  · rfl
  · have := hn hh i hi
    rw [(ready_new h hl).1] at this
    cases this

theorem last_kept {i n : Nat} {l : Array Bool} (h : i ∈ Region.ready md ops l) (hl : l.size = ops.size) (hn : l.getD n false = true → ∀ j, j < n → l.getD j false = true) (hi : i < n) : (l.setIfInBounds i true).getD n false = true → ∀ j, j < n → (l.setIfInBounds i true).getD j false = true := fun hh => by
  rw [getD_set_ne false (by omega), not_last h hl hn hi] at hh
  cases hh

theorem last_comes {n : Nat} {l : Array Bool} (h : n ∈ Region.ready md ops l) (hw : (List.range n).all (fun j => (waitsFor md ops n).contains j) = true) : (l.setIfInBounds n true).getD n false = true → ∀ j, j < n → (l.setIfInBounds n true).getD j false = true := fun _ j hj =>
  getD_set_true (ready_waits h (List.all_eq_true.1 hw j (List.mem_range.2 hj)))

theorem set_or {i j : Nat} {l : Array Bool} (h : (l.setIfInBounds i true).getD j false = true) (hne : i ≠ j) : l.getD j false = true := by
  rw [getD_set_ne false hne] at h; exact h

theorem set_same {i j : Nat} {l : Array Bool} (h : (l.setIfInBounds i true).getD j false = false) : l.getD j false = false := by
  cases hh : l.getD j false
  · rfl
  · rw [getD_set_true hh] at h; exact h

theorem none_left {l : Array Bool} (hl : l.size = ops.size) (h : l.toList.count false = 0) : Region.ready md ops l = [] := by
  apply List.eq_nil_iff_forall_not_mem.2
  intro i hi
  obtain ⟨h1, h2⟩ := ready_new hi hl
  simp [h2] at h1
  have := List.count_eq_zero.1 h
  exact this (by rw [← h1]; exact Array.getElem_mem_toList h2)

theorem wpAny_inv (I : Array Bool → Act → World → Prop)
    (hstep : ∀ l a w i, I l a w → l.size = ops.size → i ∈ Region.ready md ops l → wpOp P ops Q i (fun a' w' => I (l.setIfInBounds i true) a' w') a w)
    (hend : ∀ l a w, I l a w → l.size = ops.size → Region.ready md ops l = [] → Q .normal a w) :
    ∀ (fuel : Nat) (l : Array Bool) (a : Act) (w : World), l.size = ops.size → l.toList.count false ≤ fuel → I l a w → wpAny P md ops Q fuel l a w
  | 0, l, a, w, hl, hc, hI => by
    have h0 := none_left (md := md) hl (Nat.le_zero.1 hc)
    exact ⟨h0, hend l a w hI hl h0⟩
  | fuel + 1, l, a, w, hl, hc, hI => by
    refine ⟨hend l a w hI hl, fun i hi => wpOp_mono (fun a' w' h' => ?_) (hstep l a w i hI hl hi)⟩
    obtain ⟨h1, h2⟩ := ready_new hi hl
    simp [h2] at h1
    refine wpAny_inv I hstep hend fuel _ a' w' (by simpa using hl) ?_ h'
    have h3 : i < l.toList.length := by simpa using h2
    rw [Array.toList_setIfInBounds, List.count_set h3]
    simp [h1] at hc ⊢
    omega

/-- All have come up: none is left that waits for none but such. (For the end: 'all listed' by hand.) -/
theorem region_inv {id : Nat} {a : Act} {w : World} (hm : P.follows .mixedOrders = true) (I : Array Bool → Act → World → Prop)
    (h0 : I (Array.replicate ops.size false) a w.drew)
    (hstep : ∀ l a w i, I l a w → l.size = ops.size → i ∈ Region.ready .any ops l → wpOp P ops Q i (fun a' w' => I (l.setIfInBounds i true) a' w') a w)
    (hend : ∀ l a w, I l a w → l.size = ops.size → Region.ready .any ops l = [] → Q .normal a w) : (Code.region id ops true).wp P Q a w :=
  wp_region_any hm (wpAny_inv I hstep hend _ _ _ _ (by simp) (by simp [List.count_replicate]) h0)

/-- Where the waiting goes only backwards and nobody is ready, all have come up. -/
theorem all_listed {l : Array Bool} (hl : l.size = ops.size) (hw : (List.range ops.size).all (fun i => (waitsFor md ops i).all (· < i)) = true) (h : Region.ready md ops l = []) (i : Nat) (hi : i < ops.size) : l.getD i false = true := by
  induction i using Nat.strongRecOn with
  | _ i ih =>
    cases hh : l.getD i false
    case true => rfl
    exfalso
    have : i ∈ Region.ready md ops l := by
      rw [mem_ready]
      refine ⟨?_, ops[i], by simp [hi], fun e he hb => ?_⟩
      · have hi' : i < l.size := by omega
        simp [hi'] at hh ⊢; exact hh
      · have h1 := List.all_eq_true.1 (List.all_eq_true.1 hw i (List.mem_range.2 hi)) e.on (by
          simp only [waitsFor, Array.getElem?_eq_getElem hi, List.mem_map, List.mem_filter, Array.mem_toList_iff]
          exact ⟨e, ⟨he, hb⟩, rfl⟩)
        have h2 : e.on < i := by simpa using h1
        exact ih e.on h2 (by omega)
    rw [h] at this
    cases this
end
end Go.Proofs.YtelcnojmfkoboaaDoor
