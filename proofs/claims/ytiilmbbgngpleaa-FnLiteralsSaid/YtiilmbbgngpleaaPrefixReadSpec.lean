/- Chapter 3's ReadPrefixed of the model. -/
import Derived.Test.YtiilmbbgngpleaaPrefixReadMath
import Derived.Test.YtiilmbbgngpleaaPrefixHigh
import Derived.Test.YtiilmbbgngpleaaPrefixMade
import Derived.Handy
namespace Go.Proofs.Ytiilmbbgngpleaa
open Go.RowKit
set_option linter.unusedSimpArgs false
set_option linter.unusedVariables false

theorem rdF_end (k : Nat) (n p : Int) (i : Nat) : rdF k n p i [] = (-1, 0) := by cases k <;> rfl
theorem rdF_last {k : Nat} {n p c : Int} {i : Nat} {cs : List Int} (h : c < 128) : rdF (k + 1) n p i (c :: cs) = if 268435456 < n + c % 128 * p ∨ (1 < i ∧ c = 0) then (-1, 0) else (n + c % 128 * p, (i : Int) + 1) := by simp only [rdF, if_pos h]
theorem rdF_more {k : Nat} {n p c : Int} {i : Nat} {cs : List Int} (h : ¬ c < 128) : rdF (k + 1) n p i (c :: cs) = rdF k (n + c % 128 * p) (p * 128) (i + 1) cs := by simp only [rdF, if_neg h]

set_option maxRecDepth 100000 in
set_option maxHeartbeats 4000000 in
theorem specRead (s : ByteArray) (b : Int) (w : World) (hs : s.size ≤ maxLen) : Calls Try.prog 33 #[.string s, .int .i64 b] w fun e w' => e = .returned (.tuple #[.int .i64 (rdV s b).1, .int .i64 (rdV s b).2]) ∧ Below w.heap.size w w' := by
  unfold maxLen at hs
  by_cases h0 : s.size = 0
  · rw [rdV_empty h0]
    obtain rfl := size0 h0
    go_enter Try.func33, Try.ntmps33
    go_wp2_with fail
    go_ret2
    exact ⟨rfl, Below.refl _ _⟩
  have hp : 0 < s.size := by omega
  have hne := list_ne hp
  have hne' := list_isEmpty hp
  cases hb : inB b 1 8
  · rw [rdV_bits hb]
    go_enter Try.func33, Try.ntmps33
    go_wp2_with (go_at_call 46; refine (specIn _ _ _ _).mono ?_; rw [hb]; rintro e w' ⟨rfl, rfl⟩)
    go_ret2
    exact ⟨rfl, Below.refl _ _⟩
  obtain ⟨h1, h8⟩ := inB_true hb
  obtain ⟨hp1, hp2⟩ := pw_lo h1 h8
  have hpw : (2 : Int) ^ b.toNat = pw b := rfl
  have hx : (s[0].toNat : Int) ≤ 255 := by have := s[0].toNat_lt; omega
  have hx0 : 0 ≤ (s[0].toNat : Int) := by omega
  have hand := and_pw hx0 hx h1 h8
  have hm := Int.emod_lt_of_pos (s[0].toNat : Int) (show (0 : Int) < pw b by omega)
  have hm0 := Int.emod_nonneg (s[0].toNat : Int) (show pw b ≠ 0 by omega)
  by_cases hsm : (s[0].toNat : Int) % pw b < pw b - 1
  · rw [rdV_small hp hb hsm]
    go_enter Try.func33, Try.ntmps33
    go_wp2_with (go_at_call 46; refine (specIn _ _ _ _).mono ?_; rw [hb]; rintro e w' ⟨rfl, rfl⟩)
    go_ret2
    exact ⟨rfl, Below.refl _ _⟩
  · obtain ⟨R, hR⟩ : ∃ R, rdV s b = R := ⟨_, rfl⟩
    have hR5 := (rdV_more hp hb hsm).symm.trans hR
    rw [hR]
    clear hR
    have HR5 : Hid (rdF 5 ((s[0].toNat : Int) % pw b) 1 1 ((bys s).drop 1) = R) := hR5
    clear hR5
    go_enter Try.func33, Try.ntmps33
    go_wp2_with (go_at_call 46; refine (specIn _ _ _ _).mono ?_; rw [hb]; rintro e w' ⟨rfl, rfl⟩)
    go_loop [7, 8, 9] (fun u v t => ∃ (i : Nat) (n p : Int), 1 ≤ i ∧ i ≤ 6 ∧ i ≤ s.size ∧ t = .int .i64 i ∧ u = .int .i64 n ∧ v = .int .i64 p ∧ Plc i p ∧ 0 ≤ n ∧ n ≤ 255 + p ∧ Hid (rdF (6 - i) n p i ((bys s).drop i) = R)) (fun _ _ t => 6 - (intOf t).toNat)
    case atStart => exact ⟨1, (s[0].toNat : Int) % pw b, 1, by omega, by omega, by omega, rfl, rfl, rfl, .inl ⟨rfl, rfl⟩, by omega, by omega, HR5⟩
    case round =>
      obtain ⟨i, n, p, hi1, hi6, his, rfl, rfl, rfl, hplc, hn0, hn1, HR⟩ := hrel
      obtain ⟨-, -, hpl1, hpl2, hpl3⟩ := hplc.lo
      by_cases hlt : i < s.size
      · by_cases h6 : i < 6
        · have hp28 : p ≤ 268435456 := hpl3.1 (by omega)
          have hc1 : (s[i].toNat : Int) ≤ 255 := by have := s[i].toNat_lt; omega
          have hc0 : 0 ≤ (s[i].toNat : Int) := by omega
          have hq0 : 0 ≤ (s[i].toNat : Int) % 128 * p := Int.mul_nonneg (by omega) (by omega)
          have hq1 : (s[i].toNat : Int) % 128 * p ≤ 127 * p := Int.mul_le_mul_of_nonneg_right (by omega) (by omega)
          have hdr := bys_drop s i hlt
          have h6i : 6 - i = (5 - i) + 1 := by omega
          have hRR := HR.out
          rw [hdr, h6i] at hRR
          clear HR hdr h6i
          by_cases hc : (s[i].toNat : Int) < 128
          · rw [rdF_last hc] at hRR
            by_cases hbig : 268435456 < n + (s[i].toNat : Int) % 128 * p
            · rw [if_pos (.inl hbig)] at hRR
              have HRR : Hid ((-1, 0) = R) := hRR
              clear hRR
              go_wp2_with fail
              go_ret2
              exact ⟨by rw [← HRR.out]; rfl, Below.refl _ _⟩
            · by_cases hz : 1 < i ∧ (s[i].toNat : Int) = 0
              · rw [if_pos (.inr hz)] at hRR
                have HRR : Hid ((-1, 0) = R) := hRR
                obtain ⟨hz1, hz2⟩ := hz
                clear hRR
                go_wp2_with fail
                go_ret2
                exact ⟨by rw [← HRR.out]; rfl, Below.refl _ _⟩
              · rw [if_neg (by intro hh; rcases hh with hh | hh; exact hbig hh; exact hz hh)] at hRR
                have HRR : Hid ((n + (s[i].toNat : Int) % 128 * p, (i : Int) + 1) = R) := hRR
                clear hRR
                by_cases hz1 : 1 < i
                · have hz2 : ¬ (s[i].toNat : Int) = 0 := fun e => hz ⟨hz1, e⟩
                  clear hz
                  go_wp2_with fail
                  go_ret2
                  exact ⟨by rw [← HRR.out]; rfl, Below.refl _ _⟩
                · clear hz
                  go_wp2_with fail
                  go_ret2
                  exact ⟨by rw [← HRR.out]; rfl, Below.refl _ _⟩
          · rw [rdF_more hc] at hRR
            have HRR : Hid (rdF (6 - (i + 1)) (n + (s[i].toNat : Int) % 128 * p) (p * 128) (i + 1) ((bys s).drop (i + 1)) = R) := by show _ = _; rw [← hRR]; congr 1; omega
            have HP := hplc.next (by omega)
            clear hRR hplc
            go_wp2_with fail
            go_round
            case rel => exact ⟨i + 1, _, _, by omega, by omega, by omega, by go_num, rfl, rfl, HP, by omega, by omega, HRR⟩
            case measure => simp [intOf]; omega
        · have hi : i = 6 := by omega
          have HRR : Hid ((-1, 0) = R) := by show _ = _; rw [← HR.out, hi]; rfl
          clear HR
          go_wp2_with fail
          go_ret2
          exact ⟨by rw [← HRR.out]; rfl, Below.refl _ _⟩
      · have HRR : Hid ((-1, 0) = R) := by show _ = _; rw [← HR.out, bys_end s i (by omega), rdF_end]
        clear HR
        go_wp2_with fail
        go_ret2
        exact ⟨by rw [← HRR.out]; rfl, Below.refl _ _⟩
end Go.Proofs.Ytiilmbbgngpleaa
