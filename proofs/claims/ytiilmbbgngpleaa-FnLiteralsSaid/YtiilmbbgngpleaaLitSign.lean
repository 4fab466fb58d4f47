/- The signs of chapter 4 and their numbers: l4Sign, l4Byte and the place in the row of signs. -/
import Derived.Test.YtiilmbbgngpleaaLitMath
import Derived.Test.YtiilmbbgngpleaaIndexByte
import Derived.Handy
namespace Go.Proofs.Ytiilmbbgngpleaa
open Go.RowKit
set_option linter.unusedSimpArgs false
set_option linter.unusedVariables false

/-- The number of a sign; -1: it is none. -/
def sgn (b : Int) : Int := if 97 ≤ b ∧ b ≤ 122 then b - 97 else if b = 45 then 26 else if b = 46 then 27 else if b = 47 then 28 else if b = 58 then 29 else if b = 61 then 30 else -1
/-- The sign of a number. -/
def sch (n : Int) : Int := if n < 26 then 97 + n else if n = 26 then 45 else if n = 27 then 46 else if n = 28 then 47 else if n = 29 then 58 else 61
theorem sgn_range (b : Int) : -1 ≤ sgn b ∧ sgn b ≤ 30 := by unfold sgn; repeat' split <;> omega
theorem sch_range {n : Int} (h0 : 0 ≤ n) (h1 : n ≤ 30) : 0 ≤ sch n ∧ sch n ≤ 255 := by unfold sch; repeat' split <;> omega
theorem sgn_sch {n : Int} (h0 : 0 ≤ n) (h1 : n ≤ 30) : sgn (sch n) = n := by unfold sgn sch; repeat' split <;> omega
theorem sch_sgn {b : Int} (h : 0 ≤ sgn b) : sch (sgn b) = b := by
  unfold sgn at h ⊢
  unfold sch
  repeat' split at h
  all_goals (repeat' split) <;> omega
theorem sgn_letter {b : Int} (h : 97 ≤ b) (h2 : b ≤ 122) : sgn b = b - 97 := by simp [sgn, h, h2]

theorem specByte (n : Int) (w : World) (h0 : 0 ≤ n) (h1 : n ≤ 30) : Calls Try.prog 40 #[.int .i64 n] w fun e w' => e = .returned (.int .u8 (sch n)) ∧ w' = w := by
  by_cases h : n < 26
  · have e : sch n = 97 + n := by simp [sch, h]
    rw [e]
    go_enter Try.func40, Try.ntmps40
    go_wp2_with fail
    go_ret
    exact ⟨by go_num, rfl⟩
  · have : n = 26 ∨ n = 27 ∨ n = 28 ∨ n = 29 ∨ n = 30 := by omega
    rcases this with rfl | rfl | rfl | rfl | rfl
    all_goals
      go_enter Try.func40, Try.ntmps40
      go_wp2_with fail
      go_ret
      exact ⟨rfl, rfl⟩

theorem implLow (b : Nat) (w : World) (h : b ≤ 12) : Calls Try.prog 39 #[.int .i64 b] w fun e w' => e = .returned (.int .i64 (tw b - 1)) ∧ w' = w := by
  have : b = 0 ∨ b = 1 ∨ b = 2 ∨ b = 3 ∨ b = 4 ∨ b = 5 ∨ b = 6 ∨ b = 7 ∨ b = 8 ∨ b = 9 ∨ b = 10 ∨ b = 11 ∨ b = 12 := by omega
  rcases this with rfl | rfl | rfl | rfl | rfl | rfl | rfl | rfl | rfl | rfl | rfl | rfl | rfl
  all_goals
    go_enter Try.func39, Try.ntmps39
    go_wp2_with fail
    go_ret
    exact ⟨rfl, rfl⟩

set_option maxHeartbeats 1000000 in
theorem specSign (b : Int) (w : World) (h0 : 0 ≤ b) (h1 : b ≤ 255) : Calls Try.prog 47 #[.int .u8 b] w fun e w' => e = .returned (.int .i64 (sgn b)) ∧ w' = w := by
  by_cases h : 97 ≤ b ∧ b ≤ 122
  · rw [sgn_letter h.1 h.2]
    obtain ⟨ha, hb⟩ := h
    go_enter Try.func47, Try.ntmps47
    go_wp2_with fail
    go_ret
    exact ⟨by go_num, rfl⟩
  have hab : ¬ 97 ≤ b ∨ (97 ≤ b ∧ ¬ b ≤ 122) := by omega
  clear h
  rcases hab with ha | ⟨ha, hb⟩
  all_goals
    go_enter Try.func47, Try.ntmps47
    go_wp2_with fail
    go_loop [4] (fun v => ∃ k : Nat, v = .int .i64 k ∧ k ≤ 5 ∧ Hid ((1 ≤ k → b ≠ 45) ∧ (2 ≤ k → b ≠ 46) ∧ (3 ≤ k → b ≠ 47) ∧ (4 ≤ k → b ≠ 58) ∧ (5 ≤ k → b ≠ 61))) (fun v => 5 - (intOf v).toNat)
    case atStart => exact ⟨0, rfl, by omega, ⟨by omega, by omega, by omega, by omega, by omega⟩⟩
    case round =>
      obtain ⟨k, rfl, hk, hm⟩ := hrel
      by_cases k5 : k = 5
      · subst k5
        have HS : Hid (sgn b = -1) := by
          have hm := hm.out
          show _ = _
          unfold sgn
          repeat' split <;> omega
        clear hm
        go_wp2_with fail
        go_ret
        rw [HS.out]
        exact ⟨rfl, rfl⟩
      have : k = 0 ∨ k = 1 ∨ k = 2 ∨ k = 3 ∨ k = 4 := by omega
      clear k5
      rcases this with rfl | rfl | rfl | rfl | rfl
      · go_wp2_with fail
        · rename_i he _
          have e : b = 45 := (eq_of_beq he).symm.trans rfl
          subst e
          go_ret
          exact ⟨rfl, rfl⟩
        · rename_i he
          have e : b ≠ 45 := by intro q; subst q; revert he; decide
          go_round
          case rel => exact ⟨1, by go_num, by omega, by have hm := hm.out; exact ⟨by omega, by omega, by omega, by omega, by omega⟩⟩
          case measure => simp [intOf]
      · go_wp2_with fail
        · rename_i he _
          have e : b = 46 := (eq_of_beq he).symm.trans rfl
          subst e
          go_ret
          exact ⟨rfl, rfl⟩
        · rename_i he
          have e : b ≠ 46 := by intro q; subst q; revert he; decide
          go_round
          case rel => exact ⟨2, by go_num, by omega, by have hm := hm.out; exact ⟨by omega, by omega, by omega, by omega, by omega⟩⟩
          case measure => simp [intOf]
      · go_wp2_with fail
        · rename_i he _
          have e : b = 47 := (eq_of_beq he).symm.trans rfl
          subst e
          go_ret
          exact ⟨rfl, rfl⟩
        · rename_i he
          have e : b ≠ 47 := by intro q; subst q; revert he; decide
          go_round
          case rel => exact ⟨3, by go_num, by omega, by have hm := hm.out; exact ⟨by omega, by omega, by omega, by omega, by omega⟩⟩
          case measure => simp [intOf]
      · go_wp2_with fail
        · rename_i he _
          have e : b = 58 := (eq_of_beq he).symm.trans rfl
          subst e
          go_ret
          exact ⟨rfl, rfl⟩
        · rename_i he
          have e : b ≠ 58 := by intro q; subst q; revert he; decide
          go_round
          case rel => exact ⟨4, by go_num, by omega, by have hm := hm.out; exact ⟨by omega, by omega, by omega, by omega, by omega⟩⟩
          case measure => simp [intOf]
      · go_wp2_with fail
        · rename_i he _
          have e : b = 61 := (eq_of_beq he).symm.trans rfl
          subst e
          go_ret
          exact ⟨rfl, rfl⟩
        · rename_i he
          have e : b ≠ 61 := by intro q; subst q; revert he; decide
          go_round
          case rel => exact ⟨5, by go_num, by omega, by have hm := hm.out; exact ⟨by omega, by omega, by omega, by omega, by omega⟩⟩
          case measure => simp [intOf]

/-- The row of signs, as the program keeps it. -/
def signs : ByteArray := ⟨#[97, 98, 99, 100, 101, 102, 103, 104, 105, 106, 107, 108, 109, 110, 111, 112, 113, 114, 115, 116, 117, 118, 119, 120, 121, 122, 45, 46, 47, 58, 61]⟩
theorem ix_all : ∀ k : Fin 256, Lib.indexByte signs.data.toList (UInt8.ofNat k.val) = sgn (k.val : Int) := by decide +kernel
theorem ix_sgn {b : Int} (h0 : 0 ≤ b) (h1 : b ≤ 255) : Lib.indexByte signs.data.toList b.toNat.toUInt8 = sgn b := by
  obtain ⟨k, rfl⟩ := Int.eq_ofNat_of_zero_le h0
  exact ix_all ⟨k, by omega⟩
theorem signs_at : ∀ k : Fin 31, ((signs[k.val]'(by have := k.isLt; exact this)).toNat : Int) = sch (k.val : Int) := by decide +kernel
theorem implIx (b : Int) (w : World) (h0 : 0 ≤ b) (h1 : b ≤ 255) : Calls Try.prog 38 #[.string signs, .int .u8 b] w fun e w' => e = .returned (.int .i64 (sgn b)) ∧ w' = w := by
  rw [← ix_sgn h0 h1]; exact indexByte signs b w
end Go.Proofs.Ytiilmbbgngpleaa
