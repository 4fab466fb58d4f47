/- The small functions of chapter 3: what is in range, the lowest bits, and the first byte's high part, of the program and of the model. -/
import Derived.Test.YtiilmbbgngpleaaBase
import Derived.Handy
import Derived.Lib.SmallJoins
namespace Go.Proofs.Ytiilmbbgngpleaa
open Go.RowKit
set_option linter.unusedSimpArgs false
set_option linter.unusedVariables false

/-- 2 to the b. -/
def pw (b : Int) : Int := 2 ^ b.toNat
theorem bits8 {b : Int} (h1 : 1 ≤ b) (h8 : b ≤ 8) : b = 1 ∨ b = 2 ∨ b = 3 ∨ b = 4 ∨ b = 5 ∨ b = 6 ∨ b = 7 ∨ b = 8 := by omega
theorem pw_cases {b : Int} (h1 : 1 ≤ b) (h8 : b ≤ 8) : pw b = 2 ∨ pw b = 4 ∨ pw b = 8 ∨ pw b = 16 ∨ pw b = 32 ∨ pw b = 64 ∨ pw b = 128 ∨ pw b = 256 := by
  rcases bits8 h1 h8 with rfl | rfl | rfl | rfl | rfl | rfl | rfl | rfl <;> simp [pw]
theorem pw_lo {b : Int} (h1 : 1 ≤ b) (h8 : b ≤ 8) : 2 ≤ pw b ∧ pw b ≤ 256 := by have := pw_cases h1 h8; omega

/-- Is x from lo to hi? -/
def inB (x lo hi : Int) : Bool := decide (lo ≤ x ∧ x ≤ hi)
theorem inB_true {x lo hi : Int} (h : inB x lo hi = true) : lo ≤ x ∧ x ≤ hi := of_decide_eq_true h
theorem inB_false {x lo hi : Int} (h : inB x lo hi = false) : ¬ (lo ≤ x ∧ x ≤ hi) := of_decide_eq_false h

theorem implWithin (x lo hi : Int) (w : World) : Calls Try.prog 30 #[.int .i64 x, .int .i64 lo, .int .i64 hi] w fun e w' => e = .returned (.bool (inB x lo hi)) ∧ w' = w := by
  by_cases h1 : lo ≤ x
  · by_cases h2 : x ≤ hi
    · have : inB x lo hi = true := decide_eq_true ⟨h1, h2⟩
      rw [this]
      go_enter Try.func30, Try.ntmps30
      go_wp2_with fail
      go_ret
      simp
    · have : inB x lo hi = false := decide_eq_false (by omega)
      rw [this]
      go_enter Try.func30, Try.ntmps30
      go_wp2_with fail
      go_ret
      simp
  · have : inB x lo hi = false := decide_eq_false (by omega)
    rw [this]
    go_enter Try.func30, Try.ntmps30
    go_wp2_with fail
    go_ret
    simp

theorem specIn (x lo hi : Int) (w : World) : Calls Try.prog 46 #[.int .i64 x, .int .i64 lo, .int .i64 hi] w fun e w' => e = .returned (.bool (inB x lo hi)) ∧ w' = w := by
  by_cases h1 : lo ≤ x
  · by_cases h2 : x ≤ hi
    · have : inB x lo hi = true := decide_eq_true ⟨h1, h2⟩
      rw [this]
      go_enter Try.func46, Try.ntmps46
      go_wp2_with fail
      go_ret
      simp
    · have : inB x lo hi = false := decide_eq_false (by omega)
      rw [this]
      go_enter Try.func46, Try.ntmps46
      go_wp2_with fail
      go_ret
      simp
  · have : inB x lo hi = false := decide_eq_false (by omega)
    rw [this]
    go_enter Try.func46, Try.ntmps46
    go_wp2_with fail
    go_ret
    simp

theorem implPrefixBits (b : Int) (w : World) : Calls Try.prog 43 #[.int .i64 b] w fun e w' => e = .returned (.bool (inB b 1 8)) ∧ w' = w := by
  go_enter Try.func43, Try.ntmps43
  go_wp2_with (go_at_call 30; refine (implWithin _ _ _ _).mono ?_; rintro e w' ⟨rfl, rfl⟩)
  go_ret
  exact ⟨rfl, rfl⟩

theorem implLowest (b : Int) (w : World) (h1 : 1 ≤ b) (h8 : b ≤ 8) : Calls Try.prog 39 #[.int .i64 b] w fun e w' => e = .returned (.int .i64 (pw b - 1)) ∧ w' = w := by
  rcases bits8 h1 h8 with rfl | rfl | rfl | rfl | rfl | rfl | rfl | rfl
  all_goals
    go_enter Try.func39, Try.ntmps39
    go_wp2_with fail
    go_ret
    exact ⟨rfl, rfl⟩

/-- Are n and bits in range? -/
def okN (n b : Int) : Bool := decide (0 ≤ n ∧ n ≤ 268435456 ∧ 1 ≤ b ∧ b ≤ 8)
theorem okN_true {n b : Int} (h : okN n b = true) : 0 ≤ n ∧ n ≤ 268435456 ∧ 1 ≤ b ∧ b ≤ 8 := of_decide_eq_true h
theorem okN_false {n b : Int} (h : okN n b = false) : ¬ (0 ≤ n ∧ n ≤ 268435456 ∧ 1 ≤ b ∧ b ≤ 8) := of_decide_eq_false h
theorem okN_and (n b : Int) : okN n b = (inB n 0 268435456 && inB b 1 8) := by
  unfold okN inB
  by_cases h1 : 0 ≤ n <;> by_cases h2 : n ≤ 268435456 <;> by_cases h3 : 1 ≤ b <;> by_cases h4 : b ≤ 8 <;> simp [h1, h2, h3, h4]

theorem implPrefixable (n b : Int) (w : World) : Calls Try.prog 36 #[.int .i64 n, .int .i64 b] w fun e w' => e = .returned (.bool (okN n b)) ∧ w' = w := by
  rw [okN_and]
  cases h1 : inB n 0 268435456
  · go_enter Try.func36, Try.ntmps36
    go_wp2_with (first | (go_at_call 30; refine (implWithin _ _ _ _).mono ?_; rw [h1]; rintro e w' ⟨rfl, rfl⟩) | (go_at_call 43; refine (implPrefixBits _ _).mono ?_; rintro e w' ⟨rfl, rfl⟩))
    go_ret
    exact ⟨rfl, rfl⟩
  · go_enter Try.func36, Try.ntmps36
    go_wp2_with (first | (go_at_call 30; refine (implWithin _ _ _ _).mono ?_; rw [h1]; rintro e w' ⟨rfl, rfl⟩) | (go_at_call 43; refine (implPrefixBits _ _).mono ?_; rintro e w' ⟨rfl, rfl⟩))
    go_ret
    exact ⟨rfl, rfl⟩
end Go.Proofs.Ytiilmbbgngpleaa
