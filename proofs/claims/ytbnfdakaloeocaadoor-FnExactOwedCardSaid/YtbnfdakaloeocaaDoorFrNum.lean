/- Chapter 7's numbers as bytes: Number and Bytes, of the program and of the model. -/
import Derived.Test.YtbnfdakaloeocaaDoorFrameMath
import Derived.Test.YtbnfdakaloeocaaDoorMade
import Derived.Test.YtbnfdakaloeocaaDoorLater
import Derived.Test.YtbnfdakaloeocaaDoorMinMax
import Derived.Laws.BitsLemmas

namespace Go.Proofs.YtbnfdakaloeocaaDoor
open Go.RowKit
set_option maxRecDepth 100000
set_option linter.unusedSimpArgs false
set_option linter.unusedVariables false

theorem wraps40 : ∀ n : Int, 0 ≤ n → n < 2 ^ 40 → IntKind.i64.wrap n = n := by
  intro n h0 h1
  rw [IntKind.wrap_i64]; omega
theorem or_byte {z b : Int} (hz0 : 0 ≤ z) (hz1 : z < 16777216) (hb0 : 0 ≤ b) (hb1 : b ≤ 255) : bits .or .i64 (z * 256) b = z * 256 + b := by
  refine bits_join .i64 40 (by decide) wraps40 8 (z * 256) b (by omega) (by omega) (by omega) hb0 (by omega) (by omega)
theorem bys_take (s : ByteArray) (k : Nat) (h : k < s.size) : (bys s).take (k + 1) = (bys s).take k ++ [(s[k].toNat : Int)] := by
  have hl : k < (bys s).length := by rw [bys_len]; exact h
  rw [List.take_succ_eq_append_getElem hl]
  congr 2
  simp [bys]; rfl
theorem numL_take (s : ByteArray) (k : Nat) (h : k < s.size) : numL ((bys s).take (k + 1)) = numL ((bys s).take k) * 256 + (s[k].toNat : Int) := by rw [bys_take s k h, numL_snoc]
theorem numL_take_range (s : ByteArray) (k : Nat) : 0 ≤ numL ((bys s).take k) ∧ (k ≤ 3 → numL ((bys s).take k) < 16777216) := by
  have h := numL_range (l := (bys s).take k) fun x hx => bys_range s x (List.mem_of_mem_take hx)
  refine ⟨h.1, fun hk => ?_⟩
  have hl : ((bys s).take k).length ≤ 3 := by rw [List.length_take]; omega
  have : (256 : Int) ^ ((bys s).take k).length ≤ 256 ^ 3 := by exact_mod_cast Nat.pow_le_pow_right (by omega : 0 < 256) hl
  omega
theorem byte_range (s : ByteArray) (k : Nat) (h : k < s.size) : (s[k].toNat : Int) ≤ 255 := by have := (s[k]).toNat_lt; omega

set_option maxHeartbeats 1000000 in
theorem implNumber (s : ByteArray) (w : World) (hs : s.size ≤ maxLen) : Calls Tryd.prog 12 #[.string s] w fun e w' => e = .returned (.int .i64 (numV s)) ∧ w' = w := by
  unfold maxLen at hs
  by_cases h4 : 4 < s.size
  · rw [numV_long h4]
    go_enter Tryd.func12, Tryd.ntmps12
    go_wp2_with fail
    go_ret
    exact ⟨rfl, rfl⟩
  · obtain ⟨R, hR⟩ : ∃ R, numV s = R := ⟨_, rfl⟩
    rw [hR]
    have HR : Hid (numL ((bys s).take s.size) = R) := by show _ = _; rw [← hR]; unfold numV; rw [if_neg h4, List.take_of_length_le (by rw [bys_len]; omega)]
    clear hR
    go_enter Tryd.func12, Tryd.ntmps12
    go_wp2_with fail
    go_loop [3, 10] (fun n i => ∃ k : Nat, i = .int .i64 k ∧ k ≤ s.size ∧ n = .int .i64 (numL ((bys s).take k))) (fun _ i => s.size - (intOf i).toNat)
    case atStart => exact ⟨0, rfl, Nat.zero_le _, by simp [numL]⟩
    case round =>
      obtain ⟨k, rfl, hk, rfl⟩ := hrel
      by_cases hlt : k < s.size
      · have HN := hide (numL_take s k hlt)
        obtain ⟨z0, z1⟩ := numL_take_range s k
        have z2 := z1 (by omega)
        have hb := byte_range s k hlt
        obtain ⟨z, hz⟩ : ∃ z, numL ((bys s).take k) = z := ⟨_, rfl⟩
        rw [hz] at HN z0 z2 ⊢
        clear z1 hz
        have hor := or_byte (b := (s[k].toNat : Int)) z0 z2 (by omega) hb
        have hle : z * 256 + (s[k].toNat : Int) < 4294967296 := by omega
        go_wp2_with fail
        go_round
        case rel => exact ⟨k + 1, by go_num, by omega, int_eq HN.out.symm⟩
        case measure => simp [intOf]; omega
      · obtain rfl : k = s.size := by omega
        go_wp2_with fail
        go_ret
        exact ⟨by rw [HR.out]; rfl, rfl⟩
set_option maxHeartbeats 1000000 in
theorem specNumber (s : ByteArray) (w : World) (hs : s.size ≤ maxLen) : Calls Tryd.prog 11 #[.string s] w fun e w' => e = .returned (.int .i64 (numV s)) ∧ w' = w := by
  unfold maxLen at hs
  by_cases h4 : 4 < s.size
  · rw [numV_long h4]
    go_enter Tryd.func11, Tryd.ntmps11
    go_wp2_with fail
    go_ret
    exact ⟨rfl, rfl⟩
  · obtain ⟨R, hR⟩ : ∃ R, numV s = R := ⟨_, rfl⟩
    rw [hR]
    have HR : Hid (numL ((bys s).take s.size) = R) := by show _ = _; rw [← hR]; unfold numV; rw [if_neg h4, List.take_of_length_le (by rw [bys_len]; omega)]
    clear hR
    go_enter Tryd.func11, Tryd.ntmps11
    go_wp2_with fail
    go_loop [3, 4] (fun n i => ∃ k : Nat, i = .int .i64 k ∧ k ≤ s.size ∧ n = .int .i64 (numL ((bys s).take k))) (fun _ i => s.size - (intOf i).toNat)
    case atStart => exact ⟨0, rfl, Nat.zero_le _, by simp [numL]⟩
    case round =>
      obtain ⟨k, rfl, hk, rfl⟩ := hrel
      by_cases hlt : k < s.size
      · have HN := hide (numL_take s k hlt)
        obtain ⟨z0, z1⟩ := numL_take_range s k
        have z2 := z1 (by omega)
        have hb := byte_range s k hlt
        obtain ⟨z, hz⟩ : ∃ z, numL ((bys s).take k) = z := ⟨_, rfl⟩
        rw [hz] at HN z0 z2 ⊢
        clear z1 hz
        have hle : z * 256 + (s[k].toNat : Int) < 4294967296 := by omega
        go_wp2_with fail
        go_round
        case rel => exact ⟨k + 1, by go_num, by omega, int_eq HN.out.symm⟩
        case measure => simp [intOf]; omega
      · obtain rfl : k = s.size := by omega
        go_wp2_with fail
        go_ret
        exact ⟨by rw [HR.out]; rfl, rfl⟩
/-- What Bytes answers. -/
def bysV (n c : Int) : ByteArray := if inB c 1 4 = true ∧ inB n 0 (256 ^ c.toNat - 1) = true then bytV c.toNat n else ⟨#[]⟩
theorem row_end {xs : List Value} {l : List Int} (h : xs.drop 0 = l.map (Value.int .u8)) : xs = l.map (Value.int .u8) := by simpa using h
theorem drop_set (xs : List Value) (a : Nat) (v : Value) (l : List Int) (x : Int) (hv : v = .int .u8 x) (h : xs.drop (a + 1) = l.map (Value.int .u8)) (ha : a < xs.length) : (xs.set a v).drop a = (x :: l).map (Value.int .u8) := by
  rw [List.drop_eq_getElem_cons (by simpa using ha), List.getElem_set_self, hv, List.map_cons]
  congr 1
  rw [List.drop_set_of_lt (by omega)]
  exact h
theorem bytL_step (a : Nat) (m : Int) (l : List Int) : bytL (a + 1) m ++ l = bytL a (m / 256) ++ (m % 256 :: l) := by simp [bytL]
theorem wrap_byte (m : Int) : IntKind.u8.wrap m = m % 256 := by rw [IntKind.wrap_u8]

end Go.Proofs.YtbnfdakaloeocaaDoor
