/- Chapter 14's model: a number's text, and a text's number. -/
import Derived.Test.YtbikmedbmnfdbaaTokSpec1
import Derived.Test.YtbikmedbmnfdbaaCur
import Derived.Deep.Cut
import Derived.Deep.DeepCutAuto

namespace Go.Proofs.Ytbikmedbmnfdbaa
open Go.RowKit
set_option maxRecDepth 100000
set_option linter.unusedSimpArgs false
set_option linter.unusedVariables false
theorem dec_next (m : Nat) : decL m = if m / 10 = 0 then [48 + ((m % 10 : Nat) : Int)] else decL (m / 10) ++ [48 + ((m % 10 : Nat) : Int)] := by
  by_cases h : m < 10
  · rw [decL_one h, if_pos (by omega), Nat.mod_eq_of_lt h]
  · rw [decL_step h, if_neg (by omega)]
theorem strOf_cons (b : Int) (t : List Int) (hb : 0 ≤ b ∧ b ≤ 255) (ht : ∀ x ∈ t, 0 ≤ x ∧ x ≤ 255) : strOf [b] ++ strOf t = strOf (b :: t) := by
  refine bys_inj ?_
  rw [bys_append, bys_strOf (by intro x hx; simp at hx; omega), bys_strOf ht, bys_strOf (by intro x hx; rcases List.mem_cons.1 hx with rfl | h; exact hb; exact ht x h)]
  rfl
theorem val_bound {l : List Int} (h : ∀ x ∈ l, 48 ≤ x ∧ x ≤ 57) : 0 ≤ valL 0 l ∧ valL 0 l < 10 ^ l.length := by
  have key : ∀ (l : List Int) (n : Int), (∀ x ∈ l, 48 ≤ x ∧ x ≤ 57) → 0 ≤ n → 0 ≤ valL n l ∧ valL n l < (n + 1) * 10 ^ l.length := by
    intro l
    induction l with
    | nil => intro n _ hn; simp only [valL, List.length_nil]; omega
    | cons x l ih =>
      intro n hx hn
      have h1 := hx x (by simp)
      have h2 := ih (n * 10 + (x - 48)) (fun y hy => hx y (by simp [hy])) (by omega)
      refine ⟨h2.1, ?_⟩
      simp only [valL, List.length_cons]
      have h3 : (n * 10 + (x - 48) + 1) * (10 : Int) ^ l.length ≤ ((n + 1) * 10) * 10 ^ l.length := Int.mul_le_mul_of_nonneg_right (by omega) (Int.pow_nonneg (by decide))
      have h4 : (n + 1) * (10 : Int) ^ (l.length + 1) = ((n + 1) * 10) * 10 ^ l.length := by rw [Int.pow_succ, Int.mul_comm ((10 : Int) ^ l.length) 10, Int.mul_assoc]
      omega
  have := key l 0 h (by decide)
  simpa using this
theorem val_small {l : List Int} (h : ∀ x ∈ l, 48 ≤ x ∧ x ≤ 57) (hl : l.length ≤ 10) : 0 ≤ valL 0 l ∧ valL 0 l ≤ 10000000000 := by
  have := val_bound h
  have h2 : (10 : Int) ^ l.length ≤ 10 ^ 10 := by
    have h := Int.ofNat_le.2 (Nat.pow_le_pow_right (n := 10) (by decide) hl)
    rw [Int.natCast_pow, Int.natCast_pow] at h
    exact h
  have h3 : (10 : Int) ^ 10 = 10000000000 := by decide
  omega
theorem byte_at {s : ByteArray} {k : Nat} (h : k < s.size) : (bys s)[k]? = some (s[k].toNat : Int) := by
  have hl : k < (bys s).length := by rw [bys_len]; exact h
  rw [List.getElem?_eq_getElem hl]
  simp [bys]; rfl
theorem val_take {l : List Int} {k : Nat} {b : Int} (h : l[k]? = some b) : valL 0 (l.take (k + 1)) = valL 0 (l.take k) * 10 + (b - 48) := by
  rw [List.take_add_one, h, valL_app]; rfl
end Go.Proofs.Ytbikmedbmnfdbaa
