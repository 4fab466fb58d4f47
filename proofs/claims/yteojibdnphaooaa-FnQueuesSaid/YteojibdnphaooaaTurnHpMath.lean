/- The heap of visits in plain words: what is due stands first, one behind the other. -/
import Derived.Test.YteojibdnphaooaaBase
namespace Go.Proofs.Yteojibdnphaooaa
open Go.RowKit
set_option maxRecDepth 100000
set_option linter.unusedSimpArgs false
set_option linter.unusedVariables false
/-- Two places of a list change. -/
def swp (D : List Nat) (i j : Nat) : List Nat := (D.set i (D.getD j 0)).set j (D.getD i 0)
/-- Which of the two below place i, among the first n. -/
def kid (D : List Nat) (i n : Nat) : Nat := if 2 * i + 2 < n ∧ D.getD (2 * i + 2) 0 < D.getD (2 * i + 1) 0 then 2 * i + 2 else 2 * i + 1
/-- What stands at place i goes down. -/
def dn : Nat → List Nat → Nat → Nat → List Nat
  | 0, D, _, _ => D
  | f + 1, D, i, n => if n ≤ 2 * i + 1 then D else if D.getD (kid D i n) 0 < D.getD i 0 then dn f (swp D i (kid D i n)) (kid D i n) n else D
/-- What heap.Pop leaves ahead of the type's own Pop: the first one stands last. -/
def popD (D : List Nat) : List Nat := dn D.length (swp D 0 (D.length - 1)) 0 (D.length - 1)
def pushed : Nat → List Nat
  | 0 => []
  | k + 1 => pushed k ++ [k + 1]
/-- The heap of c visits behind m of them. -/
def hp (c : Nat) : Nat → List Nat
  | 0 => pushed c
  | m + 1 => (popD (hp c m)).take ((hp c m).length - 1)
theorem swp_len (D : List Nat) (i j : Nat) : (swp D i j).length = D.length := by simp [swp]
theorem dn_len (f : Nat) : ∀ (D : List Nat) (i n : Nat), (dn f D i n).length = D.length := by
  induction f with
  | zero => intro D i n; rfl
  | succ f ih =>
    intro D i n
    unfold dn
    split
    · rfl
    · split
      · rw [ih, swp_len]
      · rfl
theorem popD_len (D : List Nat) : (popD D).length = D.length := by unfold popD; rw [dn_len, swp_len]
theorem pushed_len (k : Nat) : (pushed k).length = k := by
  induction k with
  | zero => rfl
  | succ k ih => simp [pushed, ih]
theorem pushed_get (k : Nat) : ∀ j, j < k → (pushed k).getD j 0 = j + 1 := by
  induction k with
  | zero => intro j h; omega
  | succ k ih =>
    intro j h
    unfold pushed
    by_cases e : j < k
    · have := ih j e
      simp [List.getD_eq_getElem?_getD, List.getElem?_append_left (show j < (pushed k).length by rw [pushed_len]; exact e)] at this ⊢
      exact this
    · obtain rfl : j = k := by omega
      simp [List.getD_eq_getElem?_getD, List.getElem?_append_right (show (pushed j).length ≤ j by rw [pushed_len]; omega), pushed_len]
theorem hp_len (c m : Nat) (h : m ≤ c) : (hp c m).length = c - m := by
  induction m with
  | zero => exact pushed_len c
  | succ m ih =>
    have := ih (by omega)
    unfold hp
    rw [List.length_take, popD_len, this]
    omega
/-- The m-th one that comes is due m-th. -/
theorem hp_due : ∀ c, c < 7 → ∀ m, m < c → (popD (hp c m)).getD ((hp c m).length - 1) 0 = m + 1 := by decide
theorem dn_stop {f i n : Nat} {D : List Nat} (h : n ≤ 2 * i + 1) : dn f D i n = D := by cases f with | zero => rfl | succ f => simp [dn, h]
theorem dn_right {f i n : Nat} {D : List Nat} (h : ¬ n ≤ 2 * i + 1) (h2 : ¬ D.getD (kid D i n) 0 < D.getD i 0) : dn (f + 1) D i n = D := by simp only [dn, if_neg h, if_neg h2]
theorem dn_step {f i n : Nat} {D : List Nat} (h : ¬ n ≤ 2 * i + 1) (h2 : D.getD (kid D i n) 0 < D.getD i 0) : dn (f + 1) D i n = dn f (swp D i (kid D i n)) (kid D i n) n := by simp only [dn, if_neg h, if_pos h2]
theorem kid_lt {D : List Nat} {i n : Nat} (h : ¬ n ≤ 2 * i + 1) : kid D i n < n ∧ i < kid D i n := by unfold kid; split <;> omega
end Go.Proofs.Yteojibdnphaooaa
