/- Lemmas. -/
import Derived.Test.YtlpbnkideaojeaaGreatDoorQRpG10
namespace Go.Proofs.YtlpbnkideaojeaaGreatDoor
open Go.RowKit
set_option maxRecDepth 100000
set_option linter.unusedSimpArgs false
set_option linter.unusedVariables false
theorem Oa : ∀ n : Int, 0 ≤ n → n < 2 ^ 16 → IntKind.i64.wrap n = n := by
 intro n h0 h1
 rw [IntKind.wrap_i64]; omega
theorem fU (i : Nat) {x y : Int} (hi : i ≤ 16) (hx0 : 0 ≤ x) (hx : x % tw i = 0) (hx1 : x < 65536) (hy0 : 0 ≤ y) (hy : y < tw i) : bits .or .i64 x y = x + y := by
 refine bits_join .i64 16 (by decide) Oa i x y hx0 hx (by simpa using hx1) hy0 hy ?_
 have : (tw i) ≤ 2 ^ 16 := by
  unfold tw
  exact_mod_cast Nat.pow_le_pow_right (by omega : 0 < 2) hi
 omega
theorem AB {i : Nat} {x : Int} (hi : i ≤ 12) (hx0 : 0 ≤ x) (hx1 : x < 65536) : bits .and .i64 x (tw i - 1) = x % tw i :=
 bits_mask .i64 16 (by decide) Oa i (by omega) x hx0 (by simpa using hx1)
def dX (s : ByteArray) : List Int := (cB s).map gP
def yJ (s : ByteArray) : Bool := (dX s).all fun n => decide (0 ≤ n)
def dR (s : ByteArray) : ByteArray × Bool := if yJ s = true then (strOf (cK (dX s) 0 0), true) else (⟨#[]⟩, false)
def lu (s : ByteArray) : ByteArray × Bool := if s.size ≤ 200 then dR s else (⟨#[]⟩, false)
theorem yI (s : ByteArray) : (dX s).length = s.size := by unfold dX; rw [List.length_map, mJ]
theorem Ed (s : ByteArray) (i : Nat) (h : i < s.size) : (dX s).drop i = gP (s[i].toNat : Int) :: (dX s).drop (i + 1) := by
 unfold dX; rw [← List.map_drop, M6 s i h, List.map_cons, List.map_drop]
theorem N7 (s : ByteArray) (i : Nat) (h : s.size ≤ i) : (dX s).drop i = [] := List.drop_eq_nil_of_le (by rw [yI]; exact h)
theorem N9 {s : ByteArray} {i : Nat} (h : i < s.size) (hn : gP (s[i].toNat : Int) < 0) : yJ s = false := by
 cases ho : yJ s
 ·rfl
 ·have := List.all_eq_true.1 ho (gP (s[i].toNat : Int)) (by
   have : gP (s[i].toNat : Int) ∈ (dX s).drop i := by rw [Ed s i h]; simp
   exact List.mem_of_mem_drop this)
  simp at this; omega
theorem NZ {s : ByteArray} (h : ∀ j (hj : j < s.size), 0 ≤ gP (s[j].toNat : Int)) : yJ s = true := by
 refine List.all_eq_true.2 fun n hn => ?_
 obtain ⟨j, hj, rfl⟩ := List.getElem_of_mem hn
 rw [yI] at hj
 have := h j hj
 have e : (dX s)[j] = gP (s[j].toNat : Int) := by
  have := Ed s j hj
  rw [List.drop_eq_getElem_cons (by rw [yI]; exact hj)] at this
  exact (List.cons.inj this).1
 rw [e]; simpa using this
theorem NS {s : ByteArray} (h : yJ s = true) : ∀ n ∈ dX s, 0 ≤ n ∧ n ≤ 30 := by
 intro n hn
 have := List.all_eq_true.1 h n hn
 obtain ⟨b, _, rfl⟩ := List.mem_map.1 hn
 exact ⟨by simpa using this, (Ii b).2⟩
set_option maxHeartbeats 4000000 in
set_option maxRecDepth 100000 in
theorem Ih (s : ByteArray) (w : World) (hs : s.size ≤ 200) : Calls Tryz.prog 111 #[.string s] w fun e w' => e = .returned (.tuple #[.string (dR s).1, .bool (dR s).2]) ∧ Below w.heap.size w w' := by
 obtain ⟨i0, hi, hz0, hz1, hz2⟩ := info_parts (P := Tryz.prog) (e := 5) (z := .int .u8 0) (size := 1) (bytes := 1) (by kernel_rfl)
 obtain ⟨L, hL⟩ : ∃ L, cK (dX s) 0 0 = L := ⟨_, rfl⟩
 have bO : L.length ≤ 126 := by rw [← hL, Eb _ _ _ (by omega), yI]; omega
 go_enter Tryz.func111, Tryz.ntmps111
 go_wp2_with fail
 go_loopw [4, 5, 6, 7] (fun b v hv i wr => ∃ (k h : Nat) (z : Int) (pre : List Int), i = .int .i64 k ∧ hv = .int .i64 h ∧ v = .int .i64 z ∧ k ≤ s.size ∧ h < 8 ∧ 0 ≤ z ∧ z < tw h ∧ L = pre ++ cK ((dX s).drop k) h z ∧ Hid (∀ x ∈ pre, 0 ≤ x ∧ x ≤ 255) ∧ Hid (∀ j (hj : j < s.size), j < k → 0 ≤ gP (s[j].toNat : Int)) ∧ wr.ownsRow w.heap.size 5 1 b pre.length (pre.map (Value.int .u8)) ∧ Below w.heap.size w wr) (fun _ _ _ i _ => s.size - (intOf i).toNat)
 case atStart => exact ⟨0, 0, 0, [], rfl, rfl, rfl, Nat.zero_le _, by omega, by omega, by simp [tw], by rw [← hL]; simp, by show ∀ x ∈ _, _; simp, by show ∀ j, _; intro j hj h; omega, World.ownsRow_made w #[] 0 (Nat.le_refl _) (Nat.zero_le _) rfl, (Below.refl _ _).alloc (Nat.le_refl _) _⟩
 case round =>
  obtain ⟨k, h, z, pre, rfl, rfl, rfl, hk, hh, z0, z1, hpre, hx, hg, hown, hB⟩ := hrel
  by_cases hend : k = s.size
  ·have HV : Hid (dR s = (strOf L, true)) := by
    show _ = _
    simp only [dR]
    rw [if_pos (NZ fun j hj => hg.out j hj (by omega)), hL]
   rw [N7 s k (by omega), uK] at hpre
   subst hend
   clear hg
   have hsz := hB.size
   have hpl : pre.length ≤ 126 := by rw [hpre] at bO; simp at bO; omega
   have : h = 0 ∨ h = 1 ∨ h = 2 ∨ h = 3 ∨ h = 4 ∨ h = 5 ∨ h = 6 ∨ h = 7 := by omega
   rcases this with rfl | rfl | rfl | rfl | rfl | rfl | rfl | rfl
   ·have HL : Hid (L = pre) := by show _ = _; simpa using hpre
    clear hpre
    have hcv := iY (l := pre) hown hx.out
    go_wp2_with fail
    go_ret2
    rw [HV.out, HL.out]
    exact ⟨rfl, hB⟩
   ·have HL : Hid (L = pre ++ [(z * 128 + 127)]) := by show _ = _; rw [hpre]; simp [tw]
    have hor : bits .or .i64 (z * 128) 127 = z * 128 + 127 := fU 7 (by omega) (by omega) (by simp [tw]) (by simp [tw] at z1; omega) (by omega) (by simp [tw])
    have hzb : z * 128 + 127 ≤ 255 := by simp [tw] at z1; omega
    have nI : pre.length + 1 ≤ 126 := by rw [HL.out] at bO; simp at bO; omega
    clear hpre z1
    have hown2 := hown.alloc (.cells #[.int .u8 (z * 128 + 127)] 5)
    go_wp2_with (at_builtin; refine wpList_append_own _ rfl _ _ 127 rfl w.heap.size 5 i0 (.int .u8 0) 1 1 Tryz.underlying127 hi hz0 hz1 hz2 rfl (by decide) _ _ _ rfl hown2 ⟨_, 0, none⟩ 1 1 [.int .u8 (z * 128 + 127)] rfl rfl (cell_one_new _ _ _) ?d2 ?d3 ?d4 ?d5 ?_)
    case d2 => first | rfl | (intro u hu; simp at hu; subst hu; rfl)
    case d3 => first | omega | (unfold maxLen; omega)
    case d4 => omega
    case d5 => first | omega | (simp; omega)
    intro v' w3 hown3 hgrow _
    have hcv := iY (l := pre ++ [(z * 128 + 127)]) (by simpa using hown3) (by intro x hx2; rcases List.mem_append.1 hx2 with h | h; exact hx.out x h; simp at h; omega)
    have hB3 : Below w.heap.size w w3 := (hB.alloc hB.size _).grown hgrow (by simp; omega) (fun k hk => (hown2.lt k hk).1)
    go_wp2_with fail
    go_ret2
    rw [HV.out, HL.out]
    exact ⟨rfl, hB3⟩
   ·have HL : Hid (L = pre ++ [(z * 64 + 63)]) := by show _ = _; rw [hpre]; simp [tw]
    have hor : bits .or .i64 (z * 64) 63 = z * 64 + 63 := fU 6 (by omega) (by omega) (by simp [tw]) (by simp [tw] at z1; omega) (by omega) (by simp [tw])
    have hzb : z * 64 + 63 ≤ 255 := by simp [tw] at z1; omega
    have nI : pre.length + 1 ≤ 126 := by rw [HL.out] at bO; simp at bO; omega
    clear hpre z1
    have hown2 := hown.alloc (.cells #[.int .u8 (z * 64 + 63)] 5)
    go_wp2_with (at_builtin; refine wpList_append_own _ rfl _ _ 127 rfl w.heap.size 5 i0 (.int .u8 0) 1 1 Tryz.underlying127 hi hz0 hz1 hz2 rfl (by decide) _ _ _ rfl hown2 ⟨_, 0, none⟩ 1 1 [.int .u8 (z * 64 + 63)] rfl rfl (cell_one_new _ _ _) ?d2 ?d3 ?d4 ?d5 ?_)
    case d2 => first | rfl | (intro u hu; simp at hu; subst hu; rfl)
    case d3 => first | omega | (unfold maxLen; omega)
    case d4 => omega
    case d5 => first | omega | (simp; omega)
    intro v' w3 hown3 hgrow _
    have hcv := iY (l := pre ++ [(z * 64 + 63)]) (by simpa using hown3) (by intro x hx2; rcases List.mem_append.1 hx2 with h | h; exact hx.out x h; simp at h; omega)
    have hB3 : Below w.heap.size w w3 := (hB.alloc hB.size _).grown hgrow (by simp; omega) (fun k hk => (hown2.lt k hk).1)
    go_wp2_with fail
    go_ret2
    rw [HV.out, HL.out]
    exact ⟨rfl, hB3⟩
   ·have HL : Hid (L = pre ++ [(z * 32 + 31)]) := by show _ = _; rw [hpre]; simp [tw]
    have hor : bits .or .i64 (z * 32) 31 = z * 32 + 31 := fU 5 (by omega) (by omega) (by simp [tw]) (by simp [tw] at z1; omega) (by omega) (by simp [tw])
    have hzb : z * 32 + 31 ≤ 255 := by simp [tw] at z1; omega
    have nI : pre.length + 1 ≤ 126 := by rw [HL.out] at bO; simp at bO; omega
    clear hpre z1
    have hown2 := hown.alloc (.cells #[.int .u8 (z * 32 + 31)] 5)
    go_wp2_with (at_builtin; refine wpList_append_own _ rfl _ _ 127 rfl w.heap.size 5 i0 (.int .u8 0) 1 1 Tryz.underlying127 hi hz0 hz1 hz2 rfl (by decide) _ _ _ rfl hown2 ⟨_, 0, none⟩ 1 1 [.int .u8 (z * 32 + 31)] rfl rfl (cell_one_new _ _ _) ?d2 ?d3 ?d4 ?d5 ?_)
    case d2 => first | rfl | (intro u hu; simp at hu; subst hu; rfl)
    case d3 => first | omega | (unfold maxLen; omega)
    case d4 => omega
    case d5 => first | omega | (simp; omega)
    intro v' w3 hown3 hgrow _
    have hcv := iY (l := pre ++ [(z * 32 + 31)]) (by simpa using hown3) (by intro x hx2; rcases List.mem_append.1 hx2 with h | h; exact hx.out x h; simp at h; omega)
    have hB3 : Below w.heap.size w w3 := (hB.alloc hB.size _).grown hgrow (by simp; omega) (fun k hk => (hown2.lt k hk).1)
    go_wp2_with fail
    go_ret2
    rw [HV.out, HL.out]
    exact ⟨rfl, hB3⟩
   ·have HL : Hid (L = pre ++ [(z * 16 + 15)]) := by show _ = _; rw [hpre]; simp [tw]
    have hor : bits .or .i64 (z * 16) 15 = z * 16 + 15 := fU 4 (by omega) (by omega) (by simp [tw]) (by simp [tw] at z1; omega) (by omega) (by simp [tw])
    have hzb : z * 16 + 15 ≤ 255 := by simp [tw] at z1; omega
    have nI : pre.length + 1 ≤ 126 := by rw [HL.out] at bO; simp at bO; omega
    clear hpre z1
    have hown2 := hown.alloc (.cells #[.int .u8 (z * 16 + 15)] 5)
    go_wp2_with (at_builtin; refine wpList_append_own _ rfl _ _ 127 rfl w.heap.size 5 i0 (.int .u8 0) 1 1 Tryz.underlying127 hi hz0 hz1 hz2 rfl (by decide) _ _ _ rfl hown2 ⟨_, 0, none⟩ 1 1 [.int .u8 (z * 16 + 15)] rfl rfl (cell_one_new _ _ _) ?d2 ?d3 ?d4 ?d5 ?_)
    case d2 => first | rfl | (intro u hu; simp at hu; subst hu; rfl)
    case d3 => first | omega | (unfold maxLen; omega)
    case d4 => omega
    case d5 => first | omega | (simp; omega)
    intro v' w3 hown3 hgrow _
    have hcv := iY (l := pre ++ [(z * 16 + 15)]) (by simpa using hown3) (by intro x hx2; rcases List.mem_append.1 hx2 with h | h; exact hx.out x h; simp at h; omega)
    have hB3 : Below w.heap.size w w3 := (hB.alloc hB.size _).grown hgrow (by simp; omega) (fun k hk => (hown2.lt k hk).1)
    go_wp2_with fail
    go_ret2
    rw [HV.out, HL.out]
    exact ⟨rfl, hB3⟩
   ·have HL : Hid (L = pre ++ [(z * 8 + 7)]) := by show _ = _; rw [hpre]; simp [tw]
    have hor : bits .or .i64 (z * 8) 7 = z * 8 + 7 := fU 3 (by omega) (by omega) (by simp [tw]) (by simp [tw] at z1; omega) (by omega) (by simp [tw])
    have hzb : z * 8 + 7 ≤ 255 := by simp [tw] at z1; omega
    have nI : pre.length + 1 ≤ 126 := by rw [HL.out] at bO; simp at bO; omega
    clear hpre z1
    have hown2 := hown.alloc (.cells #[.int .u8 (z * 8 + 7)] 5)
    go_wp2_with (at_builtin; refine wpList_append_own _ rfl _ _ 127 rfl w.heap.size 5 i0 (.int .u8 0) 1 1 Tryz.underlying127 hi hz0 hz1 hz2 rfl (by decide) _ _ _ rfl hown2 ⟨_, 0, none⟩ 1 1 [.int .u8 (z * 8 + 7)] rfl rfl (cell_one_new _ _ _) ?d2 ?d3 ?d4 ?d5 ?_)
    case d2 => first | rfl | (intro u hu; simp at hu; subst hu; rfl)
    case d3 => first | omega | (unfold maxLen; omega)
    case d4 => omega
    case d5 => first | omega | (simp; omega)
    intro v' w3 hown3 hgrow _
    have hcv := iY (l := pre ++ [(z * 8 + 7)]) (by simpa using hown3) (by intro x hx2; rcases List.mem_append.1 hx2 with h | h; exact hx.out x h; simp at h; omega)
    have hB3 : Below w.heap.size w w3 := (hB.alloc hB.size _).grown hgrow (by simp; omega) (fun k hk => (hown2.lt k hk).1)
    go_wp2_with fail
    go_ret2
    rw [HV.out, HL.out]
    exact ⟨rfl, hB3⟩
   ·have HL : Hid (L = pre ++ [(z * 4 + 3)]) := by show _ = _; rw [hpre]; simp [tw]
    have hor : bits .or .i64 (z * 4) 3 = z * 4 + 3 := fU 2 (by omega) (by omega) (by simp [tw]) (by simp [tw] at z1; omega) (by omega) (by simp [tw])
    have hzb : z * 4 + 3 ≤ 255 := by simp [tw] at z1; omega
    have nI : pre.length + 1 ≤ 126 := by rw [HL.out] at bO; simp at bO; omega
    clear hpre z1
    have hown2 := hown.alloc (.cells #[.int .u8 (z * 4 + 3)] 5)
    go_wp2_with (at_builtin; refine wpList_append_own _ rfl _ _ 127 rfl w.heap.size 5 i0 (.int .u8 0) 1 1 Tryz.underlying127 hi hz0 hz1 hz2 rfl (by decide) _ _ _ rfl hown2 ⟨_, 0, none⟩ 1 1 [.int .u8 (z * 4 + 3)] rfl rfl (cell_one_new _ _ _) ?d2 ?d3 ?d4 ?d5 ?_)
    case d2 => first | rfl | (intro u hu; simp at hu; subst hu; rfl)
    case d3 => first | omega | (unfold maxLen; omega)
    case d4 => omega
    case d5 => first | omega | (simp; omega)
    intro v' w3 hown3 hgrow _
    have hcv := iY (l := pre ++ [(z * 4 + 3)]) (by simpa using hown3) (by intro x hx2; rcases List.mem_append.1 hx2 with h | h; exact hx.out x h; simp at h; omega)
    have hB3 : Below w.heap.size w w3 := (hB.alloc hB.size _).grown hgrow (by simp; omega) (fun k hk => (hown2.lt k hk).1)
    go_wp2_with fail
    go_ret2
    rw [HV.out, HL.out]
    exact ⟨rfl, hB3⟩
   ·have HL : Hid (L = pre ++ [(z * 2 + 1)]) := by show _ = _; rw [hpre]; simp [tw]
    have hor : bits .or .i64 (z * 2) 1 = z * 2 + 1 := fU 1 (by omega) (by omega) (by simp [tw]) (by simp [tw] at z1; omega) (by omega) (by simp [tw])
    have hzb : z * 2 + 1 ≤ 255 := by simp [tw] at z1; omega
    have nI : pre.length + 1 ≤ 126 := by rw [HL.out] at bO; simp at bO; omega
    clear hpre z1
    have hown2 := hown.alloc (.cells #[.int .u8 (z * 2 + 1)] 5)
    go_wp2_with (at_builtin; refine wpList_append_own _ rfl _ _ 127 rfl w.heap.size 5 i0 (.int .u8 0) 1 1 Tryz.underlying127 hi hz0 hz1 hz2 rfl (by decide) _ _ _ rfl hown2 ⟨_, 0, none⟩ 1 1 [.int .u8 (z * 2 + 1)] rfl rfl (cell_one_new _ _ _) ?d2 ?d3 ?d4 ?d5 ?_)
    case d2 => first | rfl | (intro u hu; simp at hu; subst hu; rfl)
    case d3 => first | omega | (unfold maxLen; omega)
    case d4 => omega
    case d5 => first | omega | (simp; omega)
    intro v' w3 hown3 hgrow _
    have hcv := iY (l := pre ++ [(z * 2 + 1)]) (by simpa using hown3) (by intro x hx2; rcases List.mem_append.1 hx2 with h | h; exact hx.out x h; simp at h; omega)
    have hB3 : Below w.heap.size w w3 := (hB.alloc hB.size _).grown hgrow (by simp; omega) (fun k hk => (hown2.lt k hk).1)
    go_wp2_with fail
    go_ret2
    rw [HV.out, HL.out]
    exact ⟨rfl, hB3⟩
  have hks : k < s.size := by omega
  have hc0 : 0 ≤ (s[k].toNat : Int) := by omega
  have hc1 : (s[k].toNat : Int) ≤ 255 := by have := s[k].toNat_lt; omega
  obtain ⟨n, hn⟩ : ∃ n, gP (s[k].toNat : Int) = n := ⟨_, rfl⟩
  have hnr := Ii (s[k].toNat : Int)
  rw [hn] at hnr
  by_cases hneg : n < 0
  ·have HV : Hid (dR s = (⟨#[]⟩, false)) := by show _ = _; simp [dR, N9 hks (by rw [hn]; exact hneg)]
   clear hpre z1
   go_wp2_with (go_at_call 137; refine (sH _ _ hc0 hc1).mono ?_; rintro e w' ⟨rfl, rfl⟩; rw [hn])
   go_ret2
   rw [HV.out]
   exact ⟨rfl, hB⟩
  have hd : (dX s).drop k = n :: (dX s).drop (k + 1) := by rw [Ed s k hks, hn]
  have HG : Hid (∀ j (hj : j < s.size), j < k + 1 → 0 ≤ gP (s[j].toNat : Int)) := by
   show ∀ j, _
   intro j hj hjk
   by_cases e : j = k
   ·subst e; rw [hn]; omega
   ·exact hg.out j hj (by omega)
  have : h = 0 ∨ h = 1 ∨ h = 2 ∨ h = 3 ∨ h = 4 ∨ h = 5 ∨ h = 6 ∨ h = 7 := by omega
  rcases this with rfl | rfl | rfl | rfl | rfl | rfl | rfl | rfl
  ·have hor : bits .or .i64 (wrap64 (z * 32)) n = z * 32 + n := by
    have e : wrap64 (z * 32) = z * 32 := by simp [tw] at z1; unfold wrap64; omega
    rw [e]; exact fU 5 (by omega) (by omega) (by simp [tw]) (by simp [tw] at z1; omega) (by omega) (by simp [tw]; omega)
   rw [hd, nK (by omega)] at hpre
   have HP : Hid (L = pre ++ cK ((dX s).drop (k + 1)) 5 (z * 32 + n)) := hpre
   have HZ : Hid (z * 32 + n < tw 5) := by show _ < _; simp [tw] at z1 ⊢; omega
   clear hpre hd z1
   go_wp2_with (go_at_call 137; refine (sH _ _ hc0 hc1).mono ?_; rintro e w' ⟨rfl, rfl⟩; rw [hn])
   go_roundw
   case rel => exact ⟨k + 1, 5, z * 32 + n, pre, by go_num, rfl, rfl, by omega, by omega, by omega, HZ.out, HP.out, hx, HG, hown, hB⟩
   case measure => simp [intOf]; omega
  ·have hor : bits .or .i64 (wrap64 (z * 32)) n = z * 32 + n := by
    have e : wrap64 (z * 32) = z * 32 := by simp [tw] at z1; unfold wrap64; omega
    rw [e]; exact fU 5 (by omega) (by omega) (by simp [tw]) (by simp [tw] at z1; omega) (by omega) (by simp [tw]; omega)
   rw [hd, nK (by omega)] at hpre
   have HP : Hid (L = pre ++ cK ((dX s).drop (k + 1)) 6 (z * 32 + n)) := hpre
   have HZ : Hid (z * 32 + n < tw 6) := by show _ < _; simp [tw] at z1 ⊢; omega
   clear hpre hd z1
   go_wp2_with (go_at_call 137; refine (sH _ _ hc0 hc1).mono ?_; rintro e w' ⟨rfl, rfl⟩; rw [hn])
   go_roundw
   case rel => exact ⟨k + 1, 6, z * 32 + n, pre, by go_num, rfl, rfl, by omega, by omega, by omega, HZ.out, HP.out, hx, HG, hown, hB⟩
   case measure => simp [intOf]; omega
  ·have hor : bits .or .i64 (wrap64 (z * 32)) n = z * 32 + n := by
    have e : wrap64 (z * 32) = z * 32 := by simp [tw] at z1; unfold wrap64; omega
    rw [e]; exact fU 5 (by omega) (by omega) (by simp [tw]) (by simp [tw] at z1; omega) (by omega) (by simp [tw]; omega)
   rw [hd, nK (by omega)] at hpre
   have HP : Hid (L = pre ++ cK ((dX s).drop (k + 1)) 7 (z * 32 + n)) := hpre
   have HZ : Hid (z * 32 + n < tw 7) := by show _ < _; simp [tw] at z1 ⊢; omega
   clear hpre hd z1
   go_wp2_with (go_at_call 137; refine (sH _ _ hc0 hc1).mono ?_; rintro e w' ⟨rfl, rfl⟩; rw [hn])
   go_roundw
   case rel => exact ⟨k + 1, 7, z * 32 + n, pre, by go_num, rfl, rfl, by omega, by omega, by omega, HZ.out, HP.out, hx, HG, hown, hB⟩
   case measure => simp [intOf]; omega
  ·have hor : bits .or .i64 (z * 32) n = z * 32 + n := by
    exact fU 5 (by omega) (by omega) (by simp [tw]) (by simp [tw] at z1; omega) (by omega) (by simp [tw]; omega)
   have hX : (z * 32 + n) / tw 0 = ((z * 32 + n) % 256) := by simp [tw] at z1 ⊢; omega
   have hR : (z * 32 + n) % tw 0 = (z * 32 + n) % 1 := by simp [tw]
   have hzb : z * 32 + n < 4096 := by simp [tw] at z1; omega
   rw [hd, kE (by omega)] at hpre
   have HP : Hid (L = (pre ++ [((z * 32 + n) % 256)]) ++ cK ((dX s).drop (k + 1)) 0 ((z * 32 + n) % 1)) := by show _ = _; rw [hpre, ← hX, ← hR]; simp
   have HZ : Hid ((z * 32 + n) % 1 < tw 0) := by show _ < _; simp [tw]
   have hpl : pre.length + 1 ≤ 126 := by rw [HP.out] at bO; simp at bO; omega
   clear hpre hd hX hR
   have hown2 := hown.alloc (.cells #[.int .u8 ((z * 32 + n) % 256)] 5)
   have hsz := hB.size
   clear z1
   go_wp2_with (first | (go_at_call 137; refine (sH _ _ hc0 hc1).mono ?_; rintro e w' ⟨rfl, rfl⟩; rw [hn]) | (at_builtin; refine wpList_append_own _ rfl _ _ 127 rfl w.heap.size 5 i0 (.int .u8 0) 1 1 Tryz.underlying127 hi hz0 hz1 hz2 rfl (by decide) _ _ _ rfl hown2 ⟨_, 0, none⟩ 1 1 [.int .u8 ((z * 32 + n) % 256)] rfl rfl (cell_one_new _ _ _) ?d2 ?d3 ?d4 ?d5 ?_))
   case d2 => first | rfl | (intro u hu; simp at hu; subst hu; rfl)
   case d3 => first | omega | (unfold maxLen; omega)
   case d4 => omega
   case d5 => first | omega | (simp; omega)
   intro v' w3 hown3 hgrow _
   have HX : Hid (∀ x ∈ pre ++ [((z * 32 + n) % 256)], 0 ≤ x ∧ x ≤ 255) := by show ∀ _ ∈ _, _; intro x hx2; rcases List.mem_append.1 hx2 with h | h; exact hx.out x h; simp at h; omega
   have hB3 : Below w.heap.size w w3 := (hB.alloc hB.size _).grown hgrow (by simp; omega) (fun k hk => (hown2.lt k hk).1)
   have HO : Hid (w3.ownsRow w.heap.size 5 1 v' (pre ++ [((z * 32 + n) % 256)]).length ((pre ++ [((z * 32 + n) % 256)]).map (Value.int .u8))) := by show World.ownsRow _ _ _ _ _ _ _; simpa using hown3
   clear hown3 hown2 hown hx
   go_wp2_with fail
   go_roundw
   case rel => exact ⟨k + 1, 0, (z * 32 + n) % 1, _, by go_num, by go_num, by go_num, by omega, by omega, by omega, HZ.out, HP.out, HX, HG, HO.out, hB3⟩
   case measure => simp [intOf]; omega
  ·have hor : bits .or .i64 (z * 32) n = z * 32 + n := by
    exact fU 5 (by omega) (by omega) (by simp [tw]) (by simp [tw] at z1; omega) (by omega) (by simp [tw]; omega)
   have hX : (z * 32 + n) / tw 1 = ((z * 32 + n) / 2 % 256) := by simp [tw] at z1 ⊢; omega
   have hR : (z * 32 + n) % tw 1 = (z * 32 + n) % 2 := by simp [tw]
   have hzb : z * 32 + n < 4096 := by simp [tw] at z1; omega
   rw [hd, kE (by omega)] at hpre
   have HP : Hid (L = (pre ++ [((z * 32 + n) / 2 % 256)]) ++ cK ((dX s).drop (k + 1)) 1 ((z * 32 + n) % 2)) := by show _ = _; rw [hpre, ← hX, ← hR]; simp
   have HZ : Hid ((z * 32 + n) % 2 < tw 1) := by show _ < _; simp [tw]; omega
   have hpl : pre.length + 1 ≤ 126 := by rw [HP.out] at bO; simp at bO; omega
   clear hpre hd hX hR
   have hown2 := hown.alloc (.cells #[.int .u8 ((z * 32 + n) / 2 % 256)] 5)
   have hsz := hB.size
   clear z1
   go_wp2_with (first | (go_at_call 137; refine (sH _ _ hc0 hc1).mono ?_; rintro e w' ⟨rfl, rfl⟩; rw [hn]) | (at_builtin; refine wpList_append_own _ rfl _ _ 127 rfl w.heap.size 5 i0 (.int .u8 0) 1 1 Tryz.underlying127 hi hz0 hz1 hz2 rfl (by decide) _ _ _ rfl hown2 ⟨_, 0, none⟩ 1 1 [.int .u8 ((z * 32 + n) / 2 % 256)] rfl rfl (cell_one_new _ _ _) ?d2 ?d3 ?d4 ?d5 ?_))
   case d2 => first | rfl | (intro u hu; simp at hu; subst hu; rfl)
   case d3 => first | omega | (unfold maxLen; omega)
   case d4 => omega
   case d5 => first | omega | (simp; omega)
   intro v' w3 hown3 hgrow _
   have HX : Hid (∀ x ∈ pre ++ [((z * 32 + n) / 2 % 256)], 0 ≤ x ∧ x ≤ 255) := by show ∀ _ ∈ _, _; intro x hx2; rcases List.mem_append.1 hx2 with h | h; exact hx.out x h; simp at h; omega
   have hB3 : Below w.heap.size w w3 := (hB.alloc hB.size _).grown hgrow (by simp; omega) (fun k hk => (hown2.lt k hk).1)
   have HO : Hid (w3.ownsRow w.heap.size 5 1 v' (pre ++ [((z * 32 + n) / 2 % 256)]).length ((pre ++ [((z * 32 + n) / 2 % 256)]).map (Value.int .u8))) := by show World.ownsRow _ _ _ _ _ _ _; simpa using hown3
   clear hown3 hown2 hown hx
   go_wp2_with fail
   go_roundw
   case rel => exact ⟨k + 1, 1, (z * 32 + n) % 2, _, by go_num, by go_num, by go_num, by omega, by omega, by omega, HZ.out, HP.out, HX, HG, HO.out, hB3⟩
   case measure => simp [intOf]; omega
  ·have hor : bits .or .i64 (z * 32) n = z * 32 + n := by
    exact fU 5 (by omega) (by omega) (by simp [tw]) (by simp [tw] at z1; omega) (by omega) (by simp [tw]; omega)
   have hX : (z * 32 + n) / tw 2 = ((z * 32 + n) / 4 % 256) := by simp [tw] at z1 ⊢; omega
   have hR : (z * 32 + n) % tw 2 = (z * 32 + n) % 4 := by simp [tw]
   have hzb : z * 32 + n < 4096 := by simp [tw] at z1; omega
   rw [hd, kE (by omega)] at hpre
   have HP : Hid (L = (pre ++ [((z * 32 + n) / 4 % 256)]) ++ cK ((dX s).drop (k + 1)) 2 ((z * 32 + n) % 4)) := by show _ = _; rw [hpre, ← hX, ← hR]; simp
   have HZ : Hid ((z * 32 + n) % 4 < tw 2) := by show _ < _; simp [tw]; omega
   have hpl : pre.length + 1 ≤ 126 := by rw [HP.out] at bO; simp at bO; omega
   clear hpre hd hX hR
   have hown2 := hown.alloc (.cells #[.int .u8 ((z * 32 + n) / 4 % 256)] 5)
   have hsz := hB.size
   clear z1
   go_wp2_with (first | (go_at_call 137; refine (sH _ _ hc0 hc1).mono ?_; rintro e w' ⟨rfl, rfl⟩; rw [hn]) | (at_builtin; refine wpList_append_own _ rfl _ _ 127 rfl w.heap.size 5 i0 (.int .u8 0) 1 1 Tryz.underlying127 hi hz0 hz1 hz2 rfl (by decide) _ _ _ rfl hown2 ⟨_, 0, none⟩ 1 1 [.int .u8 ((z * 32 + n) / 4 % 256)] rfl rfl (cell_one_new _ _ _) ?d2 ?d3 ?d4 ?d5 ?_))
   case d2 => first | rfl | (intro u hu; simp at hu; subst hu; rfl)
   case d3 => first | omega | (unfold maxLen; omega)
   case d4 => omega
   case d5 => first | omega | (simp; omega)
   intro v' w3 hown3 hgrow _
   have HX : Hid (∀ x ∈ pre ++ [((z * 32 + n) / 4 % 256)], 0 ≤ x ∧ x ≤ 255) := by show ∀ _ ∈ _, _; intro x hx2; rcases List.mem_append.1 hx2 with h | h; exact hx.out x h; simp at h; omega
   have hB3 : Below w.heap.size w w3 := (hB.alloc hB.size _).grown hgrow (by simp; omega) (fun k hk => (hown2.lt k hk).1)
   have HO : Hid (w3.ownsRow w.heap.size 5 1 v' (pre ++ [((z * 32 + n) / 4 % 256)]).length ((pre ++ [((z * 32 + n) / 4 % 256)]).map (Value.int .u8))) := by show World.ownsRow _ _ _ _ _ _ _; simpa using hown3
   clear hown3 hown2 hown hx
   go_wp2_with fail
   go_roundw
   case rel => exact ⟨k + 1, 2, (z * 32 + n) % 4, _, by go_num, by go_num, by go_num, by omega, by omega, by omega, HZ.out, HP.out, HX, HG, HO.out, hB3⟩
   case measure => simp [intOf]; omega
  ·have hor : bits .or .i64 (z * 32) n = z * 32 + n := by
    exact fU 5 (by omega) (by omega) (by simp [tw]) (by simp [tw] at z1; omega) (by omega) (by simp [tw]; omega)
   have hX : (z * 32 + n) / tw 3 = ((z * 32 + n) / 8 % 256) := by simp [tw] at z1 ⊢; omega
   have hR : (z * 32 + n) % tw 3 = (z * 32 + n) % 8 := by simp [tw]
   have hzb : z * 32 + n < 4096 := by simp [tw] at z1; omega
   rw [hd, kE (by omega)] at hpre
   have HP : Hid (L = (pre ++ [((z * 32 + n) / 8 % 256)]) ++ cK ((dX s).drop (k + 1)) 3 ((z * 32 + n) % 8)) := by show _ = _; rw [hpre, ← hX, ← hR]; simp
   have HZ : Hid ((z * 32 + n) % 8 < tw 3) := by show _ < _; simp [tw]; omega
   have hpl : pre.length + 1 ≤ 126 := by rw [HP.out] at bO; simp at bO; omega
   clear hpre hd hX hR
   have hown2 := hown.alloc (.cells #[.int .u8 ((z * 32 + n) / 8 % 256)] 5)
   have hsz := hB.size
   clear z1
   go_wp2_with (first | (go_at_call 137; refine (sH _ _ hc0 hc1).mono ?_; rintro e w' ⟨rfl, rfl⟩; rw [hn]) | (at_builtin; refine wpList_append_own _ rfl _ _ 127 rfl w.heap.size 5 i0 (.int .u8 0) 1 1 Tryz.underlying127 hi hz0 hz1 hz2 rfl (by decide) _ _ _ rfl hown2 ⟨_, 0, none⟩ 1 1 [.int .u8 ((z * 32 + n) / 8 % 256)] rfl rfl (cell_one_new _ _ _) ?d2 ?d3 ?d4 ?d5 ?_))
   case d2 => first | rfl | (intro u hu; simp at hu; subst hu; rfl)
   case d3 => first | omega | (unfold maxLen; omega)
   case d4 => omega
   case d5 => first | omega | (simp; omega)
   intro v' w3 hown3 hgrow _
   have HX : Hid (∀ x ∈ pre ++ [((z * 32 + n) / 8 % 256)], 0 ≤ x ∧ x ≤ 255) := by show ∀ _ ∈ _, _; intro x hx2; rcases List.mem_append.1 hx2 with h | h; exact hx.out x h; simp at h; omega
   have hB3 : Below w.heap.size w w3 := (hB.alloc hB.size _).grown hgrow (by simp; omega) (fun k hk => (hown2.lt k hk).1)
   have HO : Hid (w3.ownsRow w.heap.size 5 1 v' (pre ++ [((z * 32 + n) / 8 % 256)]).length ((pre ++ [((z * 32 + n) / 8 % 256)]).map (Value.int .u8))) := by show World.ownsRow _ _ _ _ _ _ _; simpa using hown3
   clear hown3 hown2 hown hx
   go_wp2_with fail
   go_roundw
   case rel => exact ⟨k + 1, 3, (z * 32 + n) % 8, _, by go_num, by go_num, by go_num, by omega, by omega, by omega, HZ.out, HP.out, HX, HG, HO.out, hB3⟩
   case measure => simp [intOf]; omega
  ·have hor : bits .or .i64 (z * 32) n = z * 32 + n := by
    exact fU 5 (by omega) (by omega) (by simp [tw]) (by simp [tw] at z1; omega) (by omega) (by simp [tw]; omega)
   have hX : (z * 32 + n) / tw 4 = ((z * 32 + n) / 16 % 256) := by simp [tw] at z1 ⊢; omega
   have hR : (z * 32 + n) % tw 4 = (z * 32 + n) % 16 := by simp [tw]
   have hzb : z * 32 + n < 4096 := by simp [tw] at z1; omega
   rw [hd, kE (by omega)] at hpre
   have HP : Hid (L = (pre ++ [((z * 32 + n) / 16 % 256)]) ++ cK ((dX s).drop (k + 1)) 4 ((z * 32 + n) % 16)) := by show _ = _; rw [hpre, ← hX, ← hR]; simp
   have HZ : Hid ((z * 32 + n) % 16 < tw 4) := by show _ < _; simp [tw]; omega
   have hpl : pre.length + 1 ≤ 126 := by rw [HP.out] at bO; simp at bO; omega
   clear hpre hd hX hR
   have hown2 := hown.alloc (.cells #[.int .u8 ((z * 32 + n) / 16 % 256)] 5)
   have hsz := hB.size
   clear z1
   go_wp2_with (first | (go_at_call 137; refine (sH _ _ hc0 hc1).mono ?_; rintro e w' ⟨rfl, rfl⟩; rw [hn]) | (at_builtin; refine wpList_append_own _ rfl _ _ 127 rfl w.heap.size 5 i0 (.int .u8 0) 1 1 Tryz.underlying127 hi hz0 hz1 hz2 rfl (by decide) _ _ _ rfl hown2 ⟨_, 0, none⟩ 1 1 [.int .u8 ((z * 32 + n) / 16 % 256)] rfl rfl (cell_one_new _ _ _) ?d2 ?d3 ?d4 ?d5 ?_))
   case d2 => first | rfl | (intro u hu; simp at hu; subst hu; rfl)
   case d3 => first | omega | (unfold maxLen; omega)
   case d4 => omega
   case d5 => first | omega | (simp; omega)
   intro v' w3 hown3 hgrow _
   have HX : Hid (∀ x ∈ pre ++ [((z * 32 + n) / 16 % 256)], 0 ≤ x ∧ x ≤ 255) := by show ∀ _ ∈ _, _; intro x hx2; rcases List.mem_append.1 hx2 with h | h; exact hx.out x h; simp at h; omega
   have hB3 : Below w.heap.size w w3 := (hB.alloc hB.size _).grown hgrow (by simp; omega) (fun k hk => (hown2.lt k hk).1)
   have HO : Hid (w3.ownsRow w.heap.size 5 1 v' (pre ++ [((z * 32 + n) / 16 % 256)]).length ((pre ++ [((z * 32 + n) / 16 % 256)]).map (Value.int .u8))) := by show World.ownsRow _ _ _ _ _ _ _; simpa using hown3
   clear hown3 hown2 hown hx
   go_wp2_with fail
   go_roundw
   case rel => exact ⟨k + 1, 4, (z * 32 + n) % 16, _, by go_num, by go_num, by go_num, by omega, by omega, by omega, HZ.out, HP.out, HX, HG, HO.out, hB3⟩
   case measure => simp [intOf]; omega
end Go.Proofs.YtlpbnkideaojeaaGreatDoor
