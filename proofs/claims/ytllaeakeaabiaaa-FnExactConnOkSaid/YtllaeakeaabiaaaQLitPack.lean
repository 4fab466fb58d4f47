/- Packed: the model's l4Packed and Packed, and the program's Packed. -/
import Derived.Test.YtllaeakeaabiaaaQG10
import Derived.Test.YtllaeakeaabiaaaQG6
import Derived.Test.YtllaeakeaabiaaaQG2
import Derived.Laws.BitsLemmas
import Derived.Handy
namespace Go.Proofs.Ytllaeakeaabiaaa
open Go.RowKit
set_option maxRecDepth 100000
set_option linter.unusedSimpArgs false
set_option linter.unusedVariables false

theorem wraps16 : ∀ n : Int, 0 ≤ n → n < 2 ^ 16 → IntKind.i64.wrap n = n := by
  intro n h0 h1
  rw [IntKind.wrap_i64]; omega
theorem or_join (i : Nat) {x y : Int} (hi : i ≤ 16) (hx0 : 0 ≤ x) (hx : x % tw i = 0) (hx1 : x < 65536) (hy0 : 0 ≤ y) (hy : y < tw i) : bits .or .i64 x y = x + y := by
  refine bits_join .i64 16 (by decide) wraps16 i x y hx0 hx (by simpa using hx1) hy0 hy ?_
  have : (tw i) ≤ 2 ^ 16 := by
    unfold tw
    exact_mod_cast Nat.pow_le_pow_right (by omega : 0 < 2) hi
  omega
theorem and_tw {i : Nat} {x : Int} (hi : i ≤ 12) (hx0 : 0 ≤ x) (hx1 : x < 65536) : bits .and .i64 x (tw i - 1) = x % tw i :=
  bits_mask .i64 16 (by decide) wraps16 i (by omega) x hx0 (by simpa using hx1)

/-- The numbers of a text's signs. -/
def sgnL (s : ByteArray) : List Int := (bys s).map sgn
/-- Are all bytes signs? -/
def okS (s : ByteArray) : Bool := (sgnL s).all fun n => decide (0 ≤ n)
/-- What it is packed as, however long. -/
def l4V (s : ByteArray) : ByteArray × Bool := if okS s = true then (strOf (packF (sgnL s) 0 0), true) else (⟨#[]⟩, false)
def pkV (s : ByteArray) : ByteArray × Bool := if s.size ≤ 200 then l4V s else (⟨#[]⟩, false)
theorem sgnL_len (s : ByteArray) : (sgnL s).length = s.size := by unfold sgnL; rw [List.length_map, bys_len]
theorem sgnL_drop (s : ByteArray) (i : Nat) (h : i < s.size) : (sgnL s).drop i = sgn (s[i].toNat : Int) :: (sgnL s).drop (i + 1) := by
  unfold sgnL; rw [← List.map_drop, bys_drop s i h, List.map_cons, List.map_drop]
theorem sgnL_end (s : ByteArray) (i : Nat) (h : s.size ≤ i) : (sgnL s).drop i = [] := List.drop_eq_nil_of_le (by rw [sgnL_len]; exact h)
theorem okS_no {s : ByteArray} {i : Nat} (h : i < s.size) (hn : sgn (s[i].toNat : Int) < 0) : okS s = false := by
  cases ho : okS s
  · rfl
  · have := List.all_eq_true.1 ho (sgn (s[i].toNat : Int)) (by
      have : sgn (s[i].toNat : Int) ∈ (sgnL s).drop i := by rw [sgnL_drop s i h]; simp
      exact List.mem_of_mem_drop this)
    simp at this; omega
theorem okS_yes {s : ByteArray} (h : ∀ j (hj : j < s.size), 0 ≤ sgn (s[j].toNat : Int)) : okS s = true := by
  refine List.all_eq_true.2 fun n hn => ?_
  obtain ⟨j, hj, rfl⟩ := List.getElem_of_mem hn
  rw [sgnL_len] at hj
  have := h j hj
  have e : (sgnL s)[j] = sgn (s[j].toNat : Int) := by
    have := sgnL_drop s j hj
    rw [List.drop_eq_getElem_cons (by rw [sgnL_len]; exact hj)] at this
    exact (List.cons.inj this).1
  rw [e]; simpa using this
theorem okS_range {s : ByteArray} (h : okS s = true) : ∀ n ∈ sgnL s, 0 ≤ n ∧ n ≤ 30 := by
  intro n hn
  have := List.all_eq_true.1 h n hn
  obtain ⟨b, _, rfl⟩ := List.mem_map.1 hn
  exact ⟨by simpa using this, (sgn_range b).2⟩

end Go.Proofs.Ytllaeakeaabiaaa
