/- Bytes of texts as lists of numbers; texts one behind the other, cut, compared. -/
import Derived.Test.YtelcnojmfkoboaaDoorStrOf
import Derived.Handy
namespace Go.Proofs.YtelcnojmfkoboaaDoor
open Go.RowKit
set_option maxRecDepth 100000
set_option linter.unusedSimpArgs false
set_option linter.unusedVariables false

/-- The bytes of a text as numbers. -/
def bys (s : ByteArray) : List Int := s.data.toList.map fun c => (c.toNat : Int)
theorem bys_len (s : ByteArray) : (bys s).length = s.size := by unfold bys; rw [List.length_map, Array.length_toList]; rfl
theorem bys_drop (s : ByteArray) (i : Nat) (h : i < s.size) : (bys s).drop i = (s[i].toNat : Int) :: (bys s).drop (i + 1) := by
  have hl : i < (bys s).length := by rw [bys_len]; exact h
  rw [List.drop_eq_getElem_cons hl]
  congr 1
  simp [bys]; rfl
theorem bys_end (s : ByteArray) (i : Nat) (h : s.size ≤ i) : (bys s).drop i = [] := List.drop_eq_nil_of_le (by rw [bys_len]; exact h)
theorem bys_range (s : ByteArray) : ∀ x ∈ bys s, 0 ≤ x ∧ x ≤ 255 := by
  intro x hx
  simp only [bys, List.mem_map] at hx
  obtain ⟨c, _, rfl⟩ := hx
  have := c.toNat_lt
  omega
theorem bys_cons {s : ByteArray} (h : 0 < s.size) : bys s = (s[0].toNat : Int) :: (bys s).drop 1 := by
  have := bys_drop s 0 h
  simpa using this
theorem bys_nil {s : ByteArray} (h : s.size = 0) : bys s = [] := by
  have := bys_len s
  exact List.length_eq_zero_iff.1 (by omega)
theorem bys_strOf {l : List Int} (h : ∀ x ∈ l, 0 ≤ x ∧ x ≤ 255) : bys (strOf l) = l := by
  unfold bys strOf
  simp only [List.map_map]
  conv => rhs; rw [← List.map_id l]
  refine List.map_congr_left fun x hx => ?_
  exact u8_of (h x hx).1 (h x hx).2
theorem bys_append (a b : ByteArray) : bys (a ++ b) = bys a ++ bys b := by
  unfold bys
  rw [ByteArray.data_append, Array.toList_append, List.map_append]
theorem bys_inj {a b : ByteArray} (h : bys a = bys b) : a = b := by
  unfold bys at h
  have h2 : a.data.toList = b.data.toList := by
    have key : ∀ (l m : List UInt8), l.map (fun c => (c.toNat : Int)) = m.map (fun c => (c.toNat : Int)) → l = m := by
      intro l
      induction l with
      | nil => intro m hm; cases m with
        | nil => rfl
        | cons y m => simp at hm
      | cons x l ih => intro m hm; cases m with
        | nil => simp at hm
        | cons y m =>
          simp only [List.map_cons, List.cons.injEq] at hm
          have hxy : x = y := UInt8.toNat_inj.1 (by have := hm.1; omega)
          rw [ih m hm.2, hxy]
    exact key _ _ h
  obtain ⟨⟨x⟩⟩ := a
  obtain ⟨⟨y⟩⟩ := b
  simp at h2
  rw [h2]
theorem size0 {s : ByteArray} (h : s.size = 0) : s = ⟨#[]⟩ := by
  obtain ⟨⟨l⟩⟩ := s
  cases l with
  | nil => rfl
  | cons a l => simp [ByteArray.size] at h
theorem list_ne {s : ByteArray} (h : 0 < s.size) : ¬ s.toList = [] := by
  rw [ByteArray.toList_eq]
  intro e
  have : s.data.toList.length = 0 := by rw [e]; rfl
  rw [Array.length_toList] at this
  have h2 : s.size = s.data.size := rfl
  omega
theorem list_isEmpty {s : ByteArray} (h : 0 < s.size) : s.toList.isEmpty = false := by
  rw [List.isEmpty_eq_false_iff]; exact list_ne h
theorem bys_eq {s t : ByteArray} : s = t ↔ bys s = bys t := ⟨fun h => by rw [h], bys_inj⟩
theorem tl_ne {a b : ByteArray} (h : ¬ a = b) : (a.toList == b.toList) = false := by
  rw [ByteArray.toList_eq, ByteArray.toList_eq]
  have : ¬ a.data.toList = b.data.toList := fun e => h (by cases a; cases b; congr 1; exact Array.toList_inj.1 e)
  simpa using this
theorem ba_append_assoc (a b c : ByteArray) : a ++ b ++ c = a ++ (b ++ c) := bys_inj (by rw [bys_append, bys_append, bys_append, bys_append, List.append_assoc])
theorem ba_size_append (a b : ByteArray) : (a ++ b).size = a.size + b.size := by rw [← bys_len, bys_append, List.length_append, bys_len, bys_len]
theorem bys_extract (s : ByteArray) (i j : Nat) : bys (s.extract i j) = ((bys s).take j).drop i := by
  unfold bys
  rw [ByteArray.data_extract, Array.toList_extract, ← List.map_take, ← List.map_drop]
  simp [List.extract, List.drop_take]
theorem ba_split (s : ByteArray) (i : Nat) (h : i ≤ s.size) : s.extract 0 i ++ s.extract i s.size = s := by
  refine bys_inj ?_
  rw [bys_append, bys_extract, bys_extract, List.drop_zero]
  have : (bys s).take s.size = bys s := List.take_of_length_le (by rw [bys_len]; omega)
  rw [this, List.take_append_drop]
theorem ba_left (a b : ByteArray) : (a ++ b).extract 0 a.size = a := by
  refine bys_inj ?_
  rw [bys_extract, bys_append, List.drop_zero, List.take_left' (bys_len a)]
theorem ba_mid (a b c : ByteArray) : (a ++ b ++ c).extract a.size (a.size + b.size) = b := by
  refine bys_inj ?_
  rw [bys_extract, bys_append, bys_append, List.take_left' (by rw [List.length_append, bys_len, bys_len]), List.drop_left' (bys_len a)]
theorem ba_extract_size {s : ByteArray} {i j : Nat} (h : j ≤ s.size) (hi : i ≤ j) : (s.extract i j).size = j - i := by
  rw [← bys_len, bys_extract, List.length_drop, List.length_take, bys_len]; omega
theorem strOf_bys (t : ByteArray) : strOf (bys t) = t := bys_inj (bys_strOf (bys_range t))
theorem tl_eq {a b : ByteArray} (h : (a.toList == b.toList) = true) : a = b := by
  cases Classical.em (a = b) with
  | inl e => exact e
  | inr e => rw [tl_ne e] at h; cases h
theorem ba_right (a b : ByteArray) : (a ++ b).extract a.size (a ++ b).size = b := by
  have h := ba_mid a b ⟨#[]⟩
  have e : a ++ b ++ (⟨#[]⟩ : ByteArray) = a ++ b := bys_inj (by rw [bys_append]; show _ ++ bys ⟨#[]⟩ = _; rw [bys_nil (s := ⟨#[]⟩) rfl, List.append_nil])
  rw [e] at h
  rw [ba_size_append]
  exact h
theorem ba_nil_append (a : ByteArray) : (⟨#[]⟩ : ByteArray) ++ a = a := bys_inj (by rw [bys_append, bys_nil (s := ⟨#[]⟩) rfl, List.nil_append])
theorem ba_append_nil (a : ByteArray) : a ++ (⟨#[]⟩ : ByteArray) = a := bys_inj (by rw [bys_append, bys_nil (s := ⟨#[]⟩) rfl, List.append_nil])
theorem ba_empty {a : ByteArray} (h : a.size = 0) : a = ⟨#[]⟩ := bys_inj (by rw [bys_nil h, bys_nil (s := ⟨#[]⟩) rfl])
end Go.Proofs.YtelcnojmfkoboaaDoor
