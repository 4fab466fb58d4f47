/- Plain mathematics of chapter 3: the bytes that a number takes. -/
import Derived.Test.YtiilmbbgngpleaaPrefix1
namespace Go.Proofs.Ytiilmbbgngpleaa
set_option linter.unusedVariables false

/-- The bytes of a rest, seven bits each, at most k + 1 of them. -/
def restF : Nat → Int → List Int
  | 0, r => [r]
  | k + 1, r => if r < 128 then [r] else (r % 128 + 128) :: restF k (r / 128)
/-- The bytes of n, the high bits of the first left 0; f: the lowest bits all set. -/
def bytesOf (n f : Int) : List Int := if n < f then [n] else f :: restF 4 (n - f)

theorem restF_ne (k : Nat) (r : Int) : 0 < (restF k r).length := by
  cases k with
  | zero => simp [restF]
  | succ k => simp only [restF]; split <;> simp
theorem restF_len (k : Nat) : ∀ r : Int, (restF k r).length ≤ k + 1 := by
  induction k with
  | zero => intro r; simp [restF]
  | succ k ih => intro r; simp only [restF]; split <;> simp; exact ih _
theorem restF_small {k : Nat} {r : Int} (h : r < 128) : restF k r = [r] := by
  cases k with
  | zero => rfl
  | succ k => simp [restF, h]
theorem restF_big {k : Nat} {r : Int} (h : 128 ≤ r) : restF (k + 1) r = (r % 128 + 128) :: restF k (r / 128) := by
  simp only [restF]; rw [if_neg (by omega)]
theorem restF_range (k : Nat) : ∀ r : Int, 0 ≤ r → r < 128 ^ (k + 1) → ∀ x ∈ restF k r, 0 ≤ x ∧ x ≤ 255 := by
  induction k with
  | zero => intro r h0 h1 x hx; simp [restF] at hx h1; omega
  | succ k ih =>
    intro r h0 h1 x hx
    by_cases h : r < 128
    · rw [restF_small h] at hx; simp at hx; omega
    · rw [restF_big (by omega)] at hx
      rcases List.mem_cons.1 hx with rfl | hx
      · omega
      · refine ih (r / 128) (by omega) ?_ x hx
        rw [Int.pow_succ] at h1
        omega
theorem bytesOf_len (n f : Int) : 0 < (bytesOf n f).length ∧ (bytesOf n f).length ≤ 6 := by
  unfold bytesOf
  split
  · simp
  · have := restF_len 4 (n - f); simp; omega
/-- What Width answers. -/
def wdV (n b : Int) : Int := if okN n b = true then ((bytesOf n (pw b - 1)).length : Int) else 0
theorem wdV_no {n b : Int} (h : okN n b = false) : wdV n b = 0 := by simp [wdV, h]
theorem wdV_yes {n b : Int} (h : okN n b = true) : wdV n b = ((bytesOf n (pw b - 1)).length : Int) := by simp [wdV, h]
theorem wdV_range (n b : Int) : 0 ≤ wdV n b ∧ wdV n b ≤ 6 := by
  have := bytesOf_len n (pw b - 1)
  unfold wdV; split <;> omega
theorem bytesOf_ne (n f : Int) : bytesOf n f ≠ [] := by
  have := (bytesOf_len n f).1
  intro e; rw [e] at this; simp at this
end Go.Proofs.Ytiilmbbgngpleaa
