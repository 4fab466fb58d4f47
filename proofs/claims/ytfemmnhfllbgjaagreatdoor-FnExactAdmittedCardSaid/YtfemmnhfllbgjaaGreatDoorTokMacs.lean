/- The program's mac. -/
import Derived.Test.YtfemmnhfllbgjaaGreatDoorTokKey
import Derived.Deep.RegionHeld3
import Derived.Deep.DeepCutAuto



namespace Go.Proofs.YtfemmnhfllbgjaaGreatDoor
open Go.RowKit
set_option maxRecDepth 100000
set_option linter.unusedSimpArgs false
set_option linter.unusedVariables false
set_option maxHeartbeats 1600000 in
theorem implMac (key text : ByteArray) (w : World) (hk : key.size ≤ maxLen) (ht : text.size ≤ maxLen) : Calls Tryz.prog 72 #[.string key, .string text] w fun x w' => x = .returned (.int .i64 (macV key text)) ∧ Below w.heap.size w w' := by
  have hmac : ∀ (g : Nat) (u : World), RowIs u g 119 [.string key, .int .u32 0, .int .i32 0, .int .u32 0, .int .i64 0, .int .i64 0] → Calls Tryz.prog 86 #[.pointer (some ⟨g, 0, none⟩), .string text] u fun x w' => x = .returned (.int .i64 (macV key text)) ∧ Below g u w' := by
    intro g u R
    obtain ⟨H, hH⟩ : ∃ H, macL 17 (bys key ++ [10]) = H := ⟨_, rfl⟩
    have eH : macS (macL 17 (bys key)) 10 = H := by rw [← hH, macL_app]; rfl
    have eV : macL (macS (macL H (bys text)) 10) (bys key) = macV key text := by
      unfold macV
      rw [macL_app, macL_app, macL_app, macL_app, ← hH, macL_app]; rfl
    have rH : 0 ≤ H ∧ H ≤ 2147483646 := by rw [← hH]; exact macL_range _ (by decide) (by decide)
    have r17 := macL_range (h := 17) (bys key) (by decide) (by decide)
    have hm1 := mixedKey1 key 17 g u hk (by decide) (by decide) R
    obtain ⟨h17, e17⟩ : ∃ x, macL 17 (bys key) = x := ⟨_, rfl⟩
    rw [e17] at hm1 eH r17
    obtain ⟨A, hA⟩ : ∃ A, macV key text = A := ⟨_, rfl⟩
    rw [hA] at eV ⊢
    have EV := hide eV
    clear hH e17 R eV hA
    unfold maxLen at ht
    go_enter Tryz.func86, Tryz.ntmps86
    go_wp2_with fail
    refine hm1.mono ?_; rintro e w2 ⟨rfl, R2, b2⟩
    have HR := hide R2; have HB := hide b2
    clear R2 b2 hm1
    go_wp2_with fail
    refine (implMixed h17 10 _ r17.1 r17.2 (by decide) (by decide)).mono ?_; rw [eH]; rintro e w3 ⟨rfl, hsame⟩; obtain rfl := hsame.symm; clear hsame
    clear eH r17
    go_wp2_with fail
    go_loop [5, 12] (fun h i => ∃ k : Nat, i = .int .i64 k ∧ k ≤ text.size ∧ h = .int .i64 (macL H ((bys text).take k))) (fun _ i => text.size - (intOf i).toNat)
    case atStart => exact ⟨0, rfl, Nat.zero_le _, by rw [List.take_zero]; rfl⟩
    case round =>
      obtain ⟨k, rfl, hks, rfl⟩ := hrel
      have rm := macL_range ((bys text).take k) rH.1 rH.2
      by_cases hlt : k < text.size
      · have hltI : (k : Int) < text.size := by omega
        have hmt := mac_take (h := H) hlt
        obtain ⟨m, hm⟩ : ∃ m, macL H ((bys text).take k) = m := ⟨_, rfl⟩
        rw [hm] at hmt rm ⊢
        obtain ⟨b, hb⟩ : ∃ b, (text[k].toNat : Int) = b := ⟨_, rfl⟩
        have rb : 0 ≤ b ∧ b ≤ 255 := by have := text[k].toNat_lt; omega
        rw [hb] at hmt
        have HMT := hide hmt
        clear hm hmt
        go_wp2_with fail
        refine (implMixed m b _ rm.1 rm.2 rb.1 rb.2).mono ?_; rintro e w3 ⟨rfl, hsame⟩; obtain rfl := hsame.symm; clear hsame
        go_wp2_with fail
        go_round
        case rel => exact ⟨k + 1, by go_num, by omega, by rw [HMT.out]⟩
        case measure => simp [intOf]; omega
      · obtain rfl : k = text.size := by omega
        have hE : (bys text).take text.size = bys text := List.take_of_length_le (by rw [bys_len]; omega)
        rw [hE] at rm ⊢
        obtain ⟨m, hm⟩ : ∃ m, macL H (bys text) = m := ⟨_, rfl⟩
        rw [hm] at rm EV ⊢
        clear hm hE
        go_wp2_with fail
        refine (implMixed m 10 _ rm.1 rm.2 (by decide) (by decide)).mono ?_; rintro e w3 ⟨rfl, hsame⟩; obtain rfl := hsame.symm; clear hsame
        go_wp2_with fail
        have rs := macS_range m 10
        refine (mixedKey2 key (macS m 10) g _ rs.1 rs.2 HR.out).mono ?_; rw [EV.out]; rintro e w3 ⟨rfl, b3⟩
        have HB3 := hide b3
        clear b3
        go_wp2_with fail
        go_ret
        exact ⟨rfl, HB.out.trans HB3.out⟩
  have HM := hide hmac
  clear hmac
  go_enter Tryz.func72, Tryz.ntmps72
  go_wp2_with fail
  have R : RowIs _ w.heap.size 119 [.string key, .int .u32 0, .int .i32 0, .int .u32 0, .int .i64 0, .int .i64 0] := rowIs_new w 119 [.string key, .int .u32 0, .int .i32 0, .int .u32 0, .int .i64 0, .int .i64 0]
  refine (HM.out _ _ R).mono ?_; rintro e w2 ⟨rfl, b2⟩
  have HB : Hid (Below w.heap.size w w2) := ((Below.refl _ _).alloc (Nat.le_refl _) _).trans b2
  clear b2 R
  go_wp2_with fail
  go_ret
  exact ⟨rfl, HB.out⟩
end Go.Proofs.YtfemmnhfllbgjaaGreatDoor
