/- Chapter 3's High, of the program and of the model: the first byte without its lowest bits. -/
import Derived.Test.YtiilmbbgngpleaaPrefix1
import Derived.Handy
import Derived.Lib.SmallJoins
import Derived.Lib.EndianBits
namespace Go.Proofs.Ytiilmbbgngpleaa
open Go.RowKit
set_option linter.unusedSimpArgs false
set_option linter.unusedVariables false

theorem andNot_all : ∀ k : Fin 256, (bits .andNot .i64 (k.val : Int) 1 = (k.val : Int) / 2 * 2 ∧ bits .andNot .i64 (k.val : Int) 3 = (k.val : Int) / 4 * 4 ∧ bits .andNot .i64 (k.val : Int) 7 = (k.val : Int) / 8 * 8
    ∧ bits .andNot .i64 (k.val : Int) 15 = (k.val : Int) / 16 * 16) ∧ (bits .andNot .i64 (k.val : Int) 31 = (k.val : Int) / 32 * 32 ∧ bits .andNot .i64 (k.val : Int) 63 = (k.val : Int) / 64 * 64
    ∧ bits .andNot .i64 (k.val : Int) 127 = (k.val : Int) / 128 * 128 ∧ bits .andNot .i64 (k.val : Int) 255 = (k.val : Int) / 256 * 256) := by decide +kernel

theorem andNot_pw {x b : Int} (h0 : 0 ≤ x) (h1 : x ≤ 255) (hb1 : 1 ≤ b) (hb8 : b ≤ 8) : bits .andNot .i64 x (pw b - 1) = x / pw b * pw b := by
  obtain ⟨⟨a1, a2, a3, a4⟩, a5, a6, a7, a8⟩ := andNot_all ⟨x.toNat, by omega⟩
  have e : ((x.toNat : Nat) : Int) = x := by omega
  simp only [e] at a1 a2 a3 a4 a5 a6 a7 a8
  rcases bits8 hb1 hb8 with rfl | rfl | rfl | rfl | rfl | rfl | rfl | rfl <;> simpa [pw] using (by assumption)

/-- What High answers. -/
def hiV (s : ByteArray) (b : Int) : Int := if h : 0 < s.size then if 1 ≤ b ∧ b ≤ 8 then (s[0].toNat : Int) / pw b * pw b else -1 else -1
theorem hiV_yes {s : ByteArray} {b : Int} (h : 0 < s.size) (h1 : 1 ≤ b) (h8 : b ≤ 8) : hiV s b = (s[0].toNat : Int) / pw b * pw b := by simp [hiV, h, h1, h8]
theorem hiV_no {s : ByteArray} {b : Int} (h : s.size = 0 ∨ inB b 1 8 = false) : hiV s b = -1 := by
  rcases h with h | h
  · simp [hiV, h]
  · have := inB_false h
    unfold hiV
    simp [this]

theorem size0 {s : ByteArray} (h : s.size = 0) : s = ⟨#[]⟩ := by
  obtain ⟨⟨l⟩⟩ := s
  cases l with
  | nil => rfl
  | cons a l => simp [ByteArray.size] at h
theorem list_ne {s : ByteArray} (h : 0 < s.size) : ¬ s.toList = [] := by
  rw [ByteArray.toList_eq]
  intro e
  have : s.data.toList.length = 0 := by rw [e]; rfl
  rw [Array.length_toList] at this
  have h2 : s.size = s.data.size := rfl
  omega
theorem list_isEmpty {s : ByteArray} (h : 0 < s.size) : s.toList.isEmpty = false := by
  rw [List.isEmpty_eq_false_iff]; exact list_ne h

theorem implHigh (s : ByteArray) (b : Int) (w : World) (hs : s.size ≤ maxLen) : Calls Try.prog 31 #[.string s, .int .i64 b] w fun e w' => e = .returned (.int .i64 (hiV s b)) ∧ Below w.heap.size w w' := by
  unfold maxLen at hs
  by_cases h0 : s.size = 0
  · rw [hiV_no (.inl h0)]
    obtain rfl := size0 h0
    go_enter Try.func31, Try.ntmps31
    go_wp2_with fail
    go_ret
    exact ⟨rfl, Below.refl _ _⟩
  · have hp : 0 < s.size := by omega
    have hne := list_ne hp
    have hne' := list_isEmpty hp
    cases hb : inB b 1 8
    · rw [hiV_no (.inr hb)]
      go_enter Try.func31, Try.ntmps31
      go_wp2_with (go_at_call 43; refine (implPrefixBits _ _).mono ?_; rw [hb]; rintro e w' ⟨rfl, rfl⟩)
      go_ret
      exact ⟨rfl, Below.refl _ _⟩
    · obtain ⟨h1, h8⟩ := inB_true hb
      rw [hiV_yes hp h1 h8]
      have hx : (s[0].toNat : Int) ≤ 255 := by have := s[0].toNat_lt; omega
      have hx0 : 0 ≤ (s[0].toNat : Int) := by omega
      have HV : Hid (bits .andNot .i64 (s[0].toNat : Int) (pw b - 1) = (s[0].toNat : Int) / pw b * pw b) := andNot_pw hx0 hx h1 h8
      go_enter Try.func31, Try.ntmps31
      go_wp2_with (go_at_call 43; refine (implPrefixBits _ _).mono ?_; rw [hb]; rintro e w' ⟨rfl, rfl⟩)
      go_quiet ((go_at_call 39; exact Calls.quiet_of_same (implLowest _ _ h1 h8)))
      go_wp2_with fail
      go_ret
      exact ⟨by rw [HV.out]; rfl, bo_drewN _ (Below.refl _ _)⟩
end Go.Proofs.Ytiilmbbgngpleaa
