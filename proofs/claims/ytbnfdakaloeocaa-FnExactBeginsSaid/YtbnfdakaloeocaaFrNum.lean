/- Chapter 7's numbers as bytes: Number and Bytes, of the program and of the model. -/
import Derived.Test.YtbnfdakaloeocaaFrameMath
import Derived.Test.YtbnfdakaloeocaaMade
import Derived.Test.YtbnfdakaloeocaaLater
import Derived.Test.YtbnfdakaloeocaaMinMax
import Derived.Laws.BitsLemmas

namespace Go.Proofs.Ytbnfdakaloeocaa
open Go.RowKit
set_option maxRecDepth 100000
set_option linter.unusedSimpArgs false
set_option linter.unusedVariables false

theorem wraps40 : ∀ n : Int, 0 ≤ n → n < 2 ^ 40 → IntKind.i64.wrap n = n := by
  intro n h0 h1
  rw [IntKind.wrap_i64]; omega
theorem or_byte {z b : Int} (hz0 : 0 ≤ z) (hz1 : z < 16777216) (hb0 : 0 ≤ b) (hb1 : b ≤ 255) : bits .or .i64 (z * 256) b = z * 256 + b := by
  refine bits_join .i64 40 (by decide) wraps40 8 (z * 256) b (by omega) (by omega) (by omega) hb0 (by omega) (by omega)
theorem bys_take (s : ByteArray) (k : Nat) (h : k < s.size) : (bys s).take (k + 1) = (bys s).take k ++ [(s[k].toNat : Int)] := by
  have hl : k < (bys s).length := by rw [bys_len]; exact h
  rw [List.take_succ_eq_append_getElem hl]
  congr 2
  simp [bys]; rfl
theorem numL_take (s : ByteArray) (k : Nat) (h : k < s.size) : numL ((bys s).take (k + 1)) = numL ((bys s).take k) * 256 + (s[k].toNat : Int) := by rw [bys_take s k h, numL_snoc]
theorem numL_take_range (s : ByteArray) (k : Nat) : 0 ≤ numL ((bys s).take k) ∧ (k ≤ 3 → numL ((bys s).take k) < 16777216) := by
  have h := numL_range (l := (bys s).take k) fun x hx => bys_range s x (List.mem_of_mem_take hx)
  refine ⟨h.1, fun hk => ?_⟩
  have hl : ((bys s).take k).length ≤ 3 := by rw [List.length_take]; omega
  have : (256 : Int) ^ ((bys s).take k).length ≤ 256 ^ 3 := by exact_mod_cast Nat.pow_le_pow_right (by omega : 0 < 256) hl
  omega
theorem byte_range (s : ByteArray) (k : Nat) (h : k < s.size) : (s[k].toNat : Int) ≤ 255 := by have := (s[k]).toNat_lt; omega

/-- What Bytes answers. -/
def bysV (n c : Int) : ByteArray := if inB c 1 4 = true ∧ inB n 0 (256 ^ c.toNat - 1) = true then bytV c.toNat n else ⟨#[]⟩
theorem row_end {xs : List Value} {l : List Int} (h : xs.drop 0 = l.map (Value.int .u8)) : xs = l.map (Value.int .u8) := by simpa using h
theorem drop_set (xs : List Value) (a : Nat) (v : Value) (l : List Int) (x : Int) (hv : v = .int .u8 x) (h : xs.drop (a + 1) = l.map (Value.int .u8)) (ha : a < xs.length) : (xs.set a v).drop a = (x :: l).map (Value.int .u8) := by
  rw [List.drop_eq_getElem_cons (by simpa using ha), List.getElem_set_self, hv, List.map_cons]
  congr 1
  rw [List.drop_set_of_lt (by omega)]
  exact h
theorem bytL_step (a : Nat) (m : Int) (l : List Int) : bytL (a + 1) m ++ l = bytL a (m / 256) ++ (m % 256 :: l) := by simp [bytL]
theorem wrap_byte (m : Int) : IntKind.u8.wrap m = m % 256 := by rw [IntKind.wrap_u8]

end Go.Proofs.Ytbnfdakaloeocaa
