/- Chapter 14's model: tokens made, read and signed. -/
import Derived.Test.YtbikmedbmnfdbaaTokSpec3

namespace Go.Proofs.Ytbikmedbmnfdbaa
open Go.RowKit
set_option maxRecDepth 100000
set_option linter.unusedSimpArgs false
set_option linter.unusedVariables false
theorem tok_parts {name : ByteArray} {u : Int} {key : ByteArray} (h : nameB name = true ∧ timeB u = true ∧ key.size ≤ 40) :
    name ++ (⟨#[46]⟩ : ByteArray) ++ strOf (decL u.toNat) = strOf (tokB name u) ∧ strOf (tokB name u) ++ (⟨#[46]⟩ : ByteArray) ++ strOf (decL (macV key (strOf (tokB name u))).toNat) = tokV name u key := by
  have e46 : bys (⟨#[46]⟩ : ByteArray) = [46] := rfl
  have hd : ∀ k, ∀ x ∈ decL k, 0 ≤ x ∧ x ≤ 255 := fun k x hx => by have := decL_range k x hx; omega
  constructor
  · refine bys_inj ?_
    rw [bys_append, bys_append, e46, bys_strOf (hd _), bys_strOf tok_range, List.append_assoc]; rfl
  · refine bys_inj ?_
    unfold tokV
    rw [bys_append, bys_append, e46, bys_strOf (hd _), bys_strOf tok_range, bys_strOf tokL_range, List.append_assoc]
    unfold tokL
    rw [if_pos h]
theorem tokV_no {name : ByteArray} {u : Int} {key : ByteArray} (h : ¬ (nameB name = true ∧ timeB u = true ∧ key.size ≤ 40)) : tokV name u key = ⟨#[]⟩ := tok_empty.2 h
theorem name_size {s : ByteArray} (h : nameB s = true) : 1 ≤ s.size ∧ s.size ≤ 20 := by
  unfold nameB at h
  simp only [Bool.and_eq_true] at h
  have := inB_true h.2
  omega
theorem split_len {l : List Int} : ∀ x ∈ splitL l, x.length ≤ l.length := by
  induction l with
  | nil => intro x hx; simp [splitL] at hx; subst hx; simp
  | cons b l ih =>
    intro x hx
    rw [splitL] at hx
    split at hx
    · rcases List.mem_cons.1 hx with rfl | h
      · simp
      · have := ih x h; simp; omega
    · split at hx
      · simp at hx; subst hx; simp
      · rename_i y r hy
        rcases List.mem_cons.1 hx with rfl | h
        · have := ih y (by rw [hy]; simp); simp; omega
        · have := ih x (by rw [hy]; simp [h]); simp; omega
theorem read_three {s : ByteArray} {x y z : List Int} (h : splitL (bys s) = [x, y, z]) : readV s = if nameB (strOf x) = true ∧ (digV (strOf y) 9).2 = true ∧ (digV (strOf z) 10).2 = true ∧ timeB (digV (strOf y) 9).1 = true ∧ inB (digV (strOf z) 10).1 0 2147483646 = true then (strOf x, (digV (strOf y) 9).1, true) else (⟨#[]⟩, 0, false) := by
  unfold readV; rw [h]
theorem read_other {s : ByteArray} (h : (splitL (bys s)).length ≠ 3) : readV s = (⟨#[]⟩, 0, false) := by
  unfold readV
  split
  · rename_i x y z e; rw [e] at h; simp at h
  · rfl
theorem read_size (s : ByteArray) : (readV s).1.size ≤ s.size := by
  unfold readV
  split
  · rename_i x y z e
    split
    · have := split_len (l := bys s) x (by rw [e]; simp)
      simp only [strOf_size]
      rw [bys_len] at this; exact this
    · show 0 ≤ _; omega
  · show 0 ≤ _; omega
end Go.Proofs.Ytbikmedbmnfdbaa
