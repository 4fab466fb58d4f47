/- Unpacked: what it answers, in plain words, and the program's walk by labels. -/
import Derived.Test.YtllaeakeaabiaaaGreatQLitPack2
import Derived.Test.YtllaeakeaabiaaaGreatQG1
import Derived.Handy
namespace Go.Proofs.YtllaeakeaabiaaaGreat
open Go.RowKit
set_option maxRecDepth 100000
set_option linter.unusedSimpArgs false
set_option linter.unusedVariables false

def okUB (r : List Int × Nat × Int) : Bool := decide (r.2.1 < 8 ∧ r.2.2 = tw r.2.1 - 1)
theorem okUB_iff (r : List Int × Nat × Int) : okUB r = true ↔ okEnd r := by simp [okUB, okEnd]
/-- How a text of bytes is read. -/
def rawV (s : ByteArray) : Option (List Int × Nat × Int) := rawF (enF 0 (bys s)) 0 0 (bys s)
/-- What Unpacked answers. -/
def unV (s : ByteArray) : ByteArray × Bool := if s.size ≤ 125 then (match rawV s with
  | some r => if okUB r = true then (strOf (r.1.map sch), true) else (⟨#[]⟩, false)
  | none => (⟨#[]⟩, false)) else (⟨#[]⟩, false)

/-- The frame at a label: what is made, held, how many bits, and the place. -/
def FrU (s : ByteArray) (b : Value) (z c k : Int) (a : Act) : Prop := ∃ (u2 u3 u8 u9 u10 u11 u12 u13 u14 u15 u16 u17 u18 u19 u20 u21 u22 u23 u24 u25 u26 u27 u28 u29 u30 u31 u32 u33 u34 u35 u36 u37 u38 u39 u40 u41 u42 u43 u44 u45 u46 u47 u48 u49 u50 u51 u52 u53 u54 u55 u56 u57 u58 u59 u60 u61 : Value), a = { tmps := #[.string s, undef, u2, u3, b, .int .i64 z, .int .i64 c, .int .i64 k, u8, u9, u10, u11, u12, u13, u14, u15, u16, u17, u18, u19, u20, u21, u22, u23, u24, u25, u26, u27, u28, u29, u30, u31, u32, u33, u34, u35, u36, u37, u38, u39, u40, u41, u42, u43, u44, u45, u46, u47, u48, u49, u50, u51, u52, u53, u54, u55, u56, u57, u58, u59, u60, u61], defers := [] }
/-- A row of signs. -/
def SgRow (w0 : World) (b : Value) (pre : List Int) (w : World) : Prop := w.ownsRow w0.heap.size 5 1 b pre.length ((pre.map sch).map (Value.int .u8)) ∧ Hid (∀ x ∈ pre, 0 ≤ x ∧ x ≤ 30) ∧ Below w0.heap.size w0 w
def J1 (s : ByteArray) (w0 : World) (lim : Nat) (a : Act) (w : World) : Prop := ∃ (b : Value) (z : Int) (c k : Nat) (pre : List Int), FrU s b z c k a ∧ c ≤ lim ∧ k ≤ s.size ∧ 0 ≤ z ∧ z < tw c ∧ 5 * pre.length + c = 8 * k ∧
  rawV s = (rawF (enF c ((bys s).drop k)) c z ((bys s).drop k)).map (fun r => (pre ++ r.1, r.2)) ∧ SgRow w0 b pre w
def J2 (s : ByteArray) (w0 : World) (a : Act) (w : World) : Prop := ∃ (b : Value) (z : Int) (c k : Nat) (pre : List Int), FrU s b z c k a ∧ c ≤ 12 ∧ k ≤ s.size ∧ 0 ≤ z ∧ z < tw c ∧ 5 * pre.length + c = 8 * k ∧
  rawV s = (if k = s.size then some (pre, c, z) else none) ∧ SgRow w0 b pre w
def mu (s : ByteArray) (d : Nat) (a : Act) (_ : World) : Nat := 2 * (9 * (s.size - (intOf (a.tmps.getD 7 undef)).toNat) + (intOf (a.tmps.getD 6 undef)).toNat + 1) + d

theorem jumps_ret {J : Nat → Act → World → Prop} {Q : Exit → Act → World → Prop} {a : Act} {w : World} : jumps J Q .ret a w = Q .ret a w := rfl
theorem bys_short {s : ByteArray} {k : Nat} (h : k < s.size) : (bys s).drop k ≠ [] := by rw [bys_drop s k h]; simp
theorem en_drop {s : ByteArray} {k : Nat} (c : Nat) : enF c ((bys s).drop k) = 9 * (s.size - k) + c + 1 := by unfold enF; rw [List.length_drop, bys_len]
theorem sch_range_all {l : List Int} (h : ∀ x ∈ l, 0 ≤ x ∧ x ≤ 30) : ∀ x ∈ l.map sch, 0 ≤ x ∧ x ≤ 255 := by
  intro x hx
  obtain ⟨y, hy, rfl⟩ := List.mem_map.1 hx
  exact sch_range (h y hy).1 (h y hy).2

set_option maxHeartbeats 8000000 in
set_option maxRecDepth 100000 in
theorem implUn (s : ByteArray) (w : World) (hs : s.size ≤ 125) : Calls Tryz.prog 251 #[.string s] w fun e w' => e = .returned (.tuple #[.string (unV s).1, .bool (unV s).2]) ∧ Below w.heap.size w w' := by
  obtain ⟨i0, hi, hz0, hz1, hz2⟩ := info_parts (P := Tryz.prog) (e := 5) (z := .int .u8 0) (size := 1) (bytes := 1) (by kernel_rfl)
  have HV : Hid (unV s = (match rawV s with | some r => if okUB r = true then (strOf (r.1.map sch), true) else (⟨#[]⟩, false) | none => (⟨#[]⟩, false))) := by show _ = _; unfold unV; rw [if_pos hs]
  go_enter Tryz.func251, Tryz.ntmps251
  go_wp2_with fail
  refine wp_scope_three (J1 s w 4) (J1 s w 12) (J2 s w) (mu s 0) (mu s 1) (fun _ _ => 0) rfl rfl rfl ?_ ?_ ?_ ?_
  · go_wp2_with fail
    go_step3
    go_wp2_with fail
    go_step3
    exact (show J1 s w 4 _ _ from ⟨_, _, 0, 0, [], ⟨_, _, _, _, _, _, _, _, _, _, _, _, _, _, _, _, _, _, _, _, _, _, _, _, _, _, _, _, _, _, _, _, _, _, _, _, _, _, _, _, _, _, _, _, _, _, _, _, _, _, _, _, _, _, _, _, rfl⟩, by omega, Nat.zero_le _, Int.le_refl _, by simp [tw], rfl, by simp [rawV], World.ownsRow_nil _ _ _ _, by show ∀ x ∈ _, _; simp, Below.refl _ _⟩)
  · rintro a w1 ⟨b, z, c, k, pre, ⟨u2, u3, u8, u9, u10, u11, u12, u13, u14, u15, u16, u17, u18, u19, u20, u21, u22, u23, u24, u25, u26, u27, u28, u29, u30, u31, u32, u33, u34, u35, u36, u37, u38, u39, u40, u41, u42, u43, u44, u45, u46, u47, u48, u49, u50, u51, u52, u53, u54, u55, u56, u57, u58, u59, u60, u61, rfl⟩, hc, hk, z0, z1, hpl, hR, hrow⟩
    by_cases hend : k = s.size
    · rw [bys_end s k (by omega), show enF c [] = c + 1 from by simp [enF], rawF_end (by omega)] at hR
      have HR : Hid (rawV s = (if k = s.size then some (pre, c, z) else none)) := by show _ = _; rw [hR, if_pos hend]; simp
      have hend2 : (k : Int) = s.size := by omega
      clear hR
      go_wp2_with fail
      go_step3
      exact (show J2 s w _ _ ∧ _ < _ from ⟨⟨_, _, c, k, pre, ⟨_, _, _, _, _, _, _, _, _, _, _, _, _, _, _, _, _, _, _, _, _, _, _, _, _, _, _, _, _, _, _, _, _, _, _, _, _, _, _, _, _, _, _, _, _, _, _, _, _, _, _, _, _, _, _, _, rfl⟩, by omega, hk, z0, z1, hpl, HR.out, hrow⟩, by simp [mu]⟩)
    have hks : k < s.size := by omega
    have hne : ¬ (k : Int) = s.size := by omega
    have hc0 : 0 ≤ (s[k].toNat : Int) := by omega
    have hc1 : (s[k].toNat : Int) ≤ 255 := by have := s[k].toNat_lt; omega
    have z16 : z < 16 := by
      have : c = 0 ∨ c = 1 ∨ c = 2 ∨ c = 3 ∨ c = 4 := by omega
      rcases this with rfl | rfl | rfl | rfl | rfl <;> simp [tw] at z1 <;> omega
    have hor : bits .or .i64 (z * 256) (s[k].toNat : Int) = z * 256 + (s[k].toNat : Int) := or_join 8 (by omega) (by omega) (by simp [tw]) (by omega) (by omega) (by simp [tw]; omega)
    have HZ : Hid (z * 256 + (s[k].toNat : Int) < tw (c + 8)) := by
      show _ < _
      have : c = 0 ∨ c = 1 ∨ c = 2 ∨ c = 3 ∨ c = 4 := by omega
      rcases this with rfl | rfl | rfl | rfl | rfl <;> simp [tw] at z1 ⊢ <;> omega
    have HR : Hid (rawV s = (rawF (enF (c + 8) ((bys s).drop (k + 1))) (c + 8) (z * 256 + (s[k].toNat : Int)) ((bys s).drop (k + 1))).map (fun r => (pre ++ r.1, r.2))) := by
      show _ = _
      rw [hR, en_drop, bys_drop s k hks, rawF_more (by omega), en_drop, rawF_enough _ (9 * (s.size - (k + 1)) + (c + 8) + 1)]
      · rw [en_drop]; omega
      · rw [en_drop]; omega
    clear hR z1
    go_wp2_with fail
    go_step3
    exact (show J1 s w 12 _ _ ∧ _ < _ from ⟨⟨_, _, c + 8, k + 1, pre, ⟨_, _, _, _, _, _, _, _, _, _, _, _, _, _, _, _, _, _, _, _, _, _, _, _, _, _, _, _, _, _, _, _, _, _, _, _, _, _, _, _, _, _, _, _, _, _, _, _, _, _, _, _, _, _, _, _, rfl⟩, by omega, by omega, by omega, HZ.out, by omega, HR.out, hrow⟩, by simp [mu, intOf]; omega⟩)
  · rintro a w1 ⟨b, z, c, k, pre, ⟨u2, u3, u8, u9, u10, u11, u12, u13, u14, u15, u16, u17, u18, u19, u20, u21, u22, u23, u24, u25, u26, u27, u28, u29, u30, u31, u32, u33, u34, u35, u36, u37, u38, u39, u40, u41, u42, u43, u44, u45, u46, u47, u48, u49, u50, u51, u52, u53, u54, u55, u56, u57, u58, u59, u60, u61, rfl⟩, hc, hk, z0, z1, hpl, hR, hrow⟩
    by_cases h5 : c < 5
    · go_wp2_with fail
      go_step3
      exact (show J1 s w 4 _ _ ∧ _ < _ from ⟨⟨_, _, c, k, pre, ⟨_, _, _, _, _, _, _, _, _, _, _, _, _, _, _, _, _, _, _, _, _, _, _, _, _, _, _, _, _, _, _, _, _, _, _, _, _, _, _, _, _, _, _, _, _, _, _, _, _, _, _, _, _, _, _, _, rfl⟩, by omega, hk, z0, z1, hpl, hR, hrow⟩, by simp [mu, intOf]⟩)
    have : c = 5 ∨ c = 6 ∨ c = 7 ∨ c = 8 ∨ c = 9 ∨ c = 10 ∨ c = 11 ∨ c = 12 := by omega
    rcases this with rfl | rfl | rfl | rfl | rfl | rfl | rfl | rfl
    · have hq : z / tw (5 - 5) = z := by simp [tw]
      by_cases h31 : 31 ≤ z
      · rw [en_drop, rawF_ones (by omega) (by rw [hq]; exact h31)] at hR
        have HR : Hid (rawV s = (if k = s.size then some (pre, 5, z) else none)) := by
          show _ = _
          rw [hR]
          by_cases e : k = s.size
          · rw [if_pos e, bys_end s k (by omega)]; simp
          · rw [if_neg e, if_neg (bys_short (by omega))]; rfl
        clear hR
        go_wp2_with fail
        go_step3
        exact (show J2 s w _ _ ∧ _ < _ from ⟨⟨_, _, 5, k, pre, ⟨_, _, _, _, _, _, _, _, _, _, _, _, _, _, _, _, _, _, _, _, _, _, _, _, _, _, _, _, _, _, _, _, _, _, _, _, _, _, _, _, _, _, _, _, _, _, _, _, _, _, _, _, _, _, _, _, rfl⟩, by omega, hk, z0, z1, hpl, HR.out, hrow⟩, by simp [mu]⟩)
      obtain ⟨m, rfl⟩ : ∃ m : Nat, z = (m : Int) := ⟨z.toNat, by omega⟩
      have hm31 : m < 31 := by omega
      have hm31' : (m : Int) < 31 := by omega
      have hsg : (((⟨#[97, 98, 99, 100, 101, 102, 103, 104, 105, 106, 107, 108, 109, 110, 111, 112, 113, 114, 115, 116, 117, 118, 119, 120, 121, 122, 45, 46, 47, 58, 61]⟩ : ByteArray)[m]'(by exact hm31)).toNat : Int) = sch (m : Int) := signs_at ⟨m, hm31⟩
      have hand : bits .and .i64 (m : Int) (tw 0 - 1) = (m : Int) % tw 0 := and_tw (by omega) (by omega) (by simp [tw] at z1; omega)
      have HZ : Hid ((m : Int) % tw 0 < tw 0 ∧ 0 ≤ (m : Int) % tw 0) := by show _ ∧ _; simp [tw]
      have HR : Hid (rawV s = (rawF (enF 0 ((bys s).drop k)) 0 ((m : Int) % tw 0) ((bys s).drop k)).map (fun r => ((pre ++ [(m : Int)]) ++ r.1, r.2))) := by
        show _ = _
        rw [hR, en_drop, rawF_sign (by omega) (by rw [hq]; exact h31), hq, en_drop, rawF_enough _ (9 * (s.size - k) + 0 + 1)]
        · show Option.map _ (Option.map _ (rawF _ 0 ((m : Int) % tw 0) _)) = _
          rw [Option.map_map]; simp [Function.comp_def]
        · rw [en_drop]; omega
        · rw [en_drop]; omega
      obtain ⟨hown, hx, hB⟩ := hrow
      have hown2 := hown.alloc (.cells #[.int .u8 (sch (m : Int))] 5)
      have hsz := hB.size
      have hlen : (pre.map sch).length = pre.length := List.length_map _
      skip
      clear hR z1 h31 hq
      go_wp2_with (at_builtin; refine wpList_append_own _ rfl _ _ 131 rfl w.heap.size 5 i0 (.int .u8 0) 1 1 Tryz.underlying131 hi hz0 hz1 hz2 rfl (by decide) _ _ _ rfl hown2 ⟨_, 0, none⟩ 1 1 [.int .u8 (sch (m : Int))] rfl rfl (cell_one_new _ _ _) ?d2 ?d3 ?d4 ?d5 ?_)
      case d2 => first | rfl | (intro u hu; simp at hu; subst hu; rfl)
      case d3 => first | omega | (unfold maxLen; omega)
      case d4 => omega
      case d5 => first | omega | (simp; omega)
      intro v' w3 hown3 hgrow _
      have HX : Hid (∀ x ∈ pre ++ [(m : Int)], 0 ≤ x ∧ x ≤ 30) := by show ∀ _ ∈ _, _; intro x hx2; rcases List.mem_append.1 hx2 with h | h; exact hx.out x h; simp at h; omega
      have hB3 : Below w.heap.size w w3 := (hB.alloc hB.size _).grown hgrow (by simp; omega) (fun k hk => (hown2.lt k hk).1)
      have HO : Hid (w3.ownsRow w.heap.size 5 1 v' (pre ++ [(m : Int)]).length (((pre ++ [(m : Int)]).map sch).map (Value.int .u8))) := by show World.ownsRow _ _ _ _ _ _ _; simpa using hown3
      clear hown3 hown2 hown hx hlen
      go_wp2_with (go_at_call 171; refine (implLow 0 _ (by omega)).mono ?_; rintro e w' ⟨rfl, rfl⟩)
      go_step3
      exact (show J1 s w 12 _ _ ∧ _ < _ from ⟨⟨_, _, 0, k, pre ++ [(m : Int)], ⟨_, _, _, _, _, _, _, _, _, _, _, _, _, _, _, _, _, _, _, _, _, _, _, _, _, _, _, _, _, _, _, _, _, _, _, _, _, _, _, _, _, _, _, _, _, _, _, _, _, _, _, _, _, _, _, _, rfl⟩, by omega, hk, HZ.out.2, HZ.out.1, by simp; omega, HR.out, HO.out, HX, hB3⟩, by simp [mu, intOf]⟩)
    · have hq : z / tw (6 - 5) = z / 2 := by simp [tw]
      by_cases h31 : 31 ≤ z / 2
      · rw [en_drop, rawF_ones (by omega) (by rw [hq]; exact h31)] at hR
        have HR : Hid (rawV s = (if k = s.size then some (pre, 6, z) else none)) := by
          show _ = _
          rw [hR]
          by_cases e : k = s.size
          · rw [if_pos e, bys_end s k (by omega)]; simp
          · rw [if_neg e, if_neg (bys_short (by omega))]; rfl
        clear hR
        go_wp2_with fail
        go_step3
        exact (show J2 s w _ _ ∧ _ < _ from ⟨⟨_, _, 6, k, pre, ⟨_, _, _, _, _, _, _, _, _, _, _, _, _, _, _, _, _, _, _, _, _, _, _, _, _, _, _, _, _, _, _, _, _, _, _, _, _, _, _, _, _, _, _, _, _, _, _, _, _, _, _, _, _, _, _, _, rfl⟩, by omega, hk, z0, z1, hpl, HR.out, hrow⟩, by simp [mu]⟩)
      obtain ⟨m, hm⟩ : ∃ m : Nat, z / 2 = (m : Int) := ⟨(z / 2).toNat, by omega⟩
      have hm31 : m < 31 := by omega
      have hm31' : (m : Int) < 31 := by omega
      have hsg : (((⟨#[97, 98, 99, 100, 101, 102, 103, 104, 105, 106, 107, 108, 109, 110, 111, 112, 113, 114, 115, 116, 117, 118, 119, 120, 121, 122, 45, 46, 47, 58, 61]⟩ : ByteArray)[m]'(by exact hm31)).toNat : Int) = sch (m : Int) := signs_at ⟨m, hm31⟩
      have hand : bits .and .i64 z (tw 1 - 1) = z % tw 1 := and_tw (by omega) (by omega) (by simp [tw] at z1; omega)
      have HZ : Hid (z % tw 1 < tw 1 ∧ 0 ≤ z % tw 1) := by show _ ∧ _; simp [tw]; omega
      have HR : Hid (rawV s = (rawF (enF 1 ((bys s).drop k)) 1 (z % tw 1) ((bys s).drop k)).map (fun r => ((pre ++ [(m : Int)]) ++ r.1, r.2))) := by
        show _ = _
        rw [hR, en_drop, rawF_sign (by omega) (by rw [hq]; exact h31), hq, hm, en_drop, rawF_enough _ (9 * (s.size - k) + 1 + 1)]
        · show Option.map _ (Option.map _ (rawF _ 1 (z % tw 1) _)) = _
          rw [Option.map_map]; simp [Function.comp_def]
        · rw [en_drop]; omega
        · rw [en_drop]; omega
      obtain ⟨hown, hx, hB⟩ := hrow
      have hown2 := hown.alloc (.cells #[.int .u8 (sch (m : Int))] 5)
      have hsz := hB.size
      have hlen : (pre.map sch).length = pre.length := List.length_map _
      skip
      clear hR z1 h31 hq
      go_wp2_with (at_builtin; refine wpList_append_own _ rfl _ _ 131 rfl w.heap.size 5 i0 (.int .u8 0) 1 1 Tryz.underlying131 hi hz0 hz1 hz2 rfl (by decide) _ _ _ rfl hown2 ⟨_, 0, none⟩ 1 1 [.int .u8 (sch (m : Int))] rfl rfl (cell_one_new _ _ _) ?d2 ?d3 ?d4 ?d5 ?_)
      case d2 => first | rfl | (intro u hu; simp at hu; subst hu; rfl)
      case d3 => first | omega | (unfold maxLen; omega)
      case d4 => omega
      case d5 => first | omega | (simp; omega)
      intro v' w3 hown3 hgrow _
      have HX : Hid (∀ x ∈ pre ++ [(m : Int)], 0 ≤ x ∧ x ≤ 30) := by show ∀ _ ∈ _, _; intro x hx2; rcases List.mem_append.1 hx2 with h | h; exact hx.out x h; simp at h; omega
      have hB3 : Below w.heap.size w w3 := (hB.alloc hB.size _).grown hgrow (by simp; omega) (fun k hk => (hown2.lt k hk).1)
      have HO : Hid (w3.ownsRow w.heap.size 5 1 v' (pre ++ [(m : Int)]).length (((pre ++ [(m : Int)]).map sch).map (Value.int .u8))) := by show World.ownsRow _ _ _ _ _ _ _; simpa using hown3
      clear hown3 hown2 hown hx hlen
      go_wp2_with (go_at_call 171; refine (implLow 1 _ (by omega)).mono ?_; rintro e w' ⟨rfl, rfl⟩)
      go_step3
      exact (show J1 s w 12 _ _ ∧ _ < _ from ⟨⟨_, _, 1, k, pre ++ [(m : Int)], ⟨_, _, _, _, _, _, _, _, _, _, _, _, _, _, _, _, _, _, _, _, _, _, _, _, _, _, _, _, _, _, _, _, _, _, _, _, _, _, _, _, _, _, _, _, _, _, _, _, _, _, _, _, _, _, _, _, rfl⟩, by omega, hk, HZ.out.2, HZ.out.1, by simp; omega, HR.out, HO.out, HX, hB3⟩, by simp [mu, intOf]⟩)
    · have hq : z / tw (7 - 5) = z / 4 := by simp [tw]
      by_cases h31 : 31 ≤ z / 4
      · rw [en_drop, rawF_ones (by omega) (by rw [hq]; exact h31)] at hR
        have HR : Hid (rawV s = (if k = s.size then some (pre, 7, z) else none)) := by
          show _ = _
          rw [hR]
          by_cases e : k = s.size
          · rw [if_pos e, bys_end s k (by omega)]; simp
          · rw [if_neg e, if_neg (bys_short (by omega))]; rfl
        clear hR
        go_wp2_with fail
        go_step3
        exact (show J2 s w _ _ ∧ _ < _ from ⟨⟨_, _, 7, k, pre, ⟨_, _, _, _, _, _, _, _, _, _, _, _, _, _, _, _, _, _, _, _, _, _, _, _, _, _, _, _, _, _, _, _, _, _, _, _, _, _, _, _, _, _, _, _, _, _, _, _, _, _, _, _, _, _, _, _, rfl⟩, by omega, hk, z0, z1, hpl, HR.out, hrow⟩, by simp [mu]⟩)
      obtain ⟨m, hm⟩ : ∃ m : Nat, z / 4 = (m : Int) := ⟨(z / 4).toNat, by omega⟩
      have hm31 : m < 31 := by omega
      have hm31' : (m : Int) < 31 := by omega
      have hsg : (((⟨#[97, 98, 99, 100, 101, 102, 103, 104, 105, 106, 107, 108, 109, 110, 111, 112, 113, 114, 115, 116, 117, 118, 119, 120, 121, 122, 45, 46, 47, 58, 61]⟩ : ByteArray)[m]'(by exact hm31)).toNat : Int) = sch (m : Int) := signs_at ⟨m, hm31⟩
      have hand : bits .and .i64 z (tw 2 - 1) = z % tw 2 := and_tw (by omega) (by omega) (by simp [tw] at z1; omega)
      have HZ : Hid (z % tw 2 < tw 2 ∧ 0 ≤ z % tw 2) := by show _ ∧ _; simp [tw]; omega
      have HR : Hid (rawV s = (rawF (enF 2 ((bys s).drop k)) 2 (z % tw 2) ((bys s).drop k)).map (fun r => ((pre ++ [(m : Int)]) ++ r.1, r.2))) := by
        show _ = _
        rw [hR, en_drop, rawF_sign (by omega) (by rw [hq]; exact h31), hq, hm, en_drop, rawF_enough _ (9 * (s.size - k) + 2 + 1)]
        · show Option.map _ (Option.map _ (rawF _ 2 (z % tw 2) _)) = _
          rw [Option.map_map]; simp [Function.comp_def]
        · rw [en_drop]; omega
        · rw [en_drop]; omega
      obtain ⟨hown, hx, hB⟩ := hrow
      have hown2 := hown.alloc (.cells #[.int .u8 (sch (m : Int))] 5)
      have hsz := hB.size
      have hlen : (pre.map sch).length = pre.length := List.length_map _
      skip
      clear hR z1 h31 hq
      go_wp2_with (at_builtin; refine wpList_append_own _ rfl _ _ 131 rfl w.heap.size 5 i0 (.int .u8 0) 1 1 Tryz.underlying131 hi hz0 hz1 hz2 rfl (by decide) _ _ _ rfl hown2 ⟨_, 0, none⟩ 1 1 [.int .u8 (sch (m : Int))] rfl rfl (cell_one_new _ _ _) ?d2 ?d3 ?d4 ?d5 ?_)
      case d2 => first | rfl | (intro u hu; simp at hu; subst hu; rfl)
      case d3 => first | omega | (unfold maxLen; omega)
      case d4 => omega
      case d5 => first | omega | (simp; omega)
      intro v' w3 hown3 hgrow _
      have HX : Hid (∀ x ∈ pre ++ [(m : Int)], 0 ≤ x ∧ x ≤ 30) := by show ∀ _ ∈ _, _; intro x hx2; rcases List.mem_append.1 hx2 with h | h; exact hx.out x h; simp at h; omega
      have hB3 : Below w.heap.size w w3 := (hB.alloc hB.size _).grown hgrow (by simp; omega) (fun k hk => (hown2.lt k hk).1)
      have HO : Hid (w3.ownsRow w.heap.size 5 1 v' (pre ++ [(m : Int)]).length (((pre ++ [(m : Int)]).map sch).map (Value.int .u8))) := by show World.ownsRow _ _ _ _ _ _ _; simpa using hown3
      clear hown3 hown2 hown hx hlen
      go_wp2_with (go_at_call 171; refine (implLow 2 _ (by omega)).mono ?_; rintro e w' ⟨rfl, rfl⟩)
      go_step3
      exact (show J1 s w 12 _ _ ∧ _ < _ from ⟨⟨_, _, 2, k, pre ++ [(m : Int)], ⟨_, _, _, _, _, _, _, _, _, _, _, _, _, _, _, _, _, _, _, _, _, _, _, _, _, _, _, _, _, _, _, _, _, _, _, _, _, _, _, _, _, _, _, _, _, _, _, _, _, _, _, _, _, _, _, _, rfl⟩, by omega, hk, HZ.out.2, HZ.out.1, by simp; omega, HR.out, HO.out, HX, hB3⟩, by simp [mu, intOf]⟩)
    · have hq : z / tw (8 - 5) = z / 8 := by simp [tw]
      by_cases h31 : 31 ≤ z / 8
      · rw [en_drop, rawF_ones (by omega) (by rw [hq]; exact h31)] at hR
        have HR : Hid (rawV s = (if k = s.size then some (pre, 8, z) else none)) := by
          show _ = _
          rw [hR]
          by_cases e : k = s.size
          · rw [if_pos e, bys_end s k (by omega)]; simp
          · rw [if_neg e, if_neg (bys_short (by omega))]; rfl
        clear hR
        go_wp2_with fail
        go_step3
        exact (show J2 s w _ _ ∧ _ < _ from ⟨⟨_, _, 8, k, pre, ⟨_, _, _, _, _, _, _, _, _, _, _, _, _, _, _, _, _, _, _, _, _, _, _, _, _, _, _, _, _, _, _, _, _, _, _, _, _, _, _, _, _, _, _, _, _, _, _, _, _, _, _, _, _, _, _, _, rfl⟩, by omega, hk, z0, z1, hpl, HR.out, hrow⟩, by simp [mu]⟩)
      obtain ⟨m, hm⟩ : ∃ m : Nat, z / 8 = (m : Int) := ⟨(z / 8).toNat, by omega⟩
      have hm31 : m < 31 := by omega
      have hm31' : (m : Int) < 31 := by omega
      have hsg : (((⟨#[97, 98, 99, 100, 101, 102, 103, 104, 105, 106, 107, 108, 109, 110, 111, 112, 113, 114, 115, 116, 117, 118, 119, 120, 121, 122, 45, 46, 47, 58, 61]⟩ : ByteArray)[m]'(by exact hm31)).toNat : Int) = sch (m : Int) := signs_at ⟨m, hm31⟩
      have hand : bits .and .i64 z (tw 3 - 1) = z % tw 3 := and_tw (by omega) (by omega) (by simp [tw] at z1; omega)
      have HZ : Hid (z % tw 3 < tw 3 ∧ 0 ≤ z % tw 3) := by show _ ∧ _; simp [tw]; omega
      have HR : Hid (rawV s = (rawF (enF 3 ((bys s).drop k)) 3 (z % tw 3) ((bys s).drop k)).map (fun r => ((pre ++ [(m : Int)]) ++ r.1, r.2))) := by
        show _ = _
        rw [hR, en_drop, rawF_sign (by omega) (by rw [hq]; exact h31), hq, hm, en_drop, rawF_enough _ (9 * (s.size - k) + 3 + 1)]
        · show Option.map _ (Option.map _ (rawF _ 3 (z % tw 3) _)) = _
          rw [Option.map_map]; simp [Function.comp_def]
        · rw [en_drop]; omega
        · rw [en_drop]; omega
      obtain ⟨hown, hx, hB⟩ := hrow
      have hown2 := hown.alloc (.cells #[.int .u8 (sch (m : Int))] 5)
      have hsz := hB.size
      have hlen : (pre.map sch).length = pre.length := List.length_map _
      skip
      clear hR z1 h31 hq
      go_wp2_with (at_builtin; refine wpList_append_own _ rfl _ _ 131 rfl w.heap.size 5 i0 (.int .u8 0) 1 1 Tryz.underlying131 hi hz0 hz1 hz2 rfl (by decide) _ _ _ rfl hown2 ⟨_, 0, none⟩ 1 1 [.int .u8 (sch (m : Int))] rfl rfl (cell_one_new _ _ _) ?d2 ?d3 ?d4 ?d5 ?_)
      case d2 => first | rfl | (intro u hu; simp at hu; subst hu; rfl)
      case d3 => first | omega | (unfold maxLen; omega)
      case d4 => omega
      case d5 => first | omega | (simp; omega)
      intro v' w3 hown3 hgrow _
      have HX : Hid (∀ x ∈ pre ++ [(m : Int)], 0 ≤ x ∧ x ≤ 30) := by show ∀ _ ∈ _, _; intro x hx2; rcases List.mem_append.1 hx2 with h | h; exact hx.out x h; simp at h; omega
      have hB3 : Below w.heap.size w w3 := (hB.alloc hB.size _).grown hgrow (by simp; omega) (fun k hk => (hown2.lt k hk).1)
      have HO : Hid (w3.ownsRow w.heap.size 5 1 v' (pre ++ [(m : Int)]).length (((pre ++ [(m : Int)]).map sch).map (Value.int .u8))) := by show World.ownsRow _ _ _ _ _ _ _; simpa using hown3
      clear hown3 hown2 hown hx hlen
      go_wp2_with (go_at_call 171; refine (implLow 3 _ (by omega)).mono ?_; rintro e w' ⟨rfl, rfl⟩)
      go_step3
      exact (show J1 s w 12 _ _ ∧ _ < _ from ⟨⟨_, _, 3, k, pre ++ [(m : Int)], ⟨_, _, _, _, _, _, _, _, _, _, _, _, _, _, _, _, _, _, _, _, _, _, _, _, _, _, _, _, _, _, _, _, _, _, _, _, _, _, _, _, _, _, _, _, _, _, _, _, _, _, _, _, _, _, _, _, rfl⟩, by omega, hk, HZ.out.2, HZ.out.1, by simp; omega, HR.out, HO.out, HX, hB3⟩, by simp [mu, intOf]⟩)
    · have hq : z / tw (9 - 5) = z / 16 := by simp [tw]
      by_cases h31 : 31 ≤ z / 16
      · rw [en_drop, rawF_ones (by omega) (by rw [hq]; exact h31)] at hR
        have HR : Hid (rawV s = (if k = s.size then some (pre, 9, z) else none)) := by
          show _ = _
          rw [hR]
          by_cases e : k = s.size
          · rw [if_pos e, bys_end s k (by omega)]; simp
          · rw [if_neg e, if_neg (bys_short (by omega))]; rfl
        clear hR
        go_wp2_with fail
        go_step3
        exact (show J2 s w _ _ ∧ _ < _ from ⟨⟨_, _, 9, k, pre, ⟨_, _, _, _, _, _, _, _, _, _, _, _, _, _, _, _, _, _, _, _, _, _, _, _, _, _, _, _, _, _, _, _, _, _, _, _, _, _, _, _, _, _, _, _, _, _, _, _, _, _, _, _, _, _, _, _, rfl⟩, by omega, hk, z0, z1, hpl, HR.out, hrow⟩, by simp [mu]⟩)
      obtain ⟨m, hm⟩ : ∃ m : Nat, z / 16 = (m : Int) := ⟨(z / 16).toNat, by omega⟩
      have hm31 : m < 31 := by omega
      have hm31' : (m : Int) < 31 := by omega
      have hsg : (((⟨#[97, 98, 99, 100, 101, 102, 103, 104, 105, 106, 107, 108, 109, 110, 111, 112, 113, 114, 115, 116, 117, 118, 119, 120, 121, 122, 45, 46, 47, 58, 61]⟩ : ByteArray)[m]'(by exact hm31)).toNat : Int) = sch (m : Int) := signs_at ⟨m, hm31⟩
      have hand : bits .and .i64 z (tw 4 - 1) = z % tw 4 := and_tw (by omega) (by omega) (by simp [tw] at z1; omega)
      have HZ : Hid (z % tw 4 < tw 4 ∧ 0 ≤ z % tw 4) := by show _ ∧ _; simp [tw]; omega
      have HR : Hid (rawV s = (rawF (enF 4 ((bys s).drop k)) 4 (z % tw 4) ((bys s).drop k)).map (fun r => ((pre ++ [(m : Int)]) ++ r.1, r.2))) := by
        show _ = _
        rw [hR, en_drop, rawF_sign (by omega) (by rw [hq]; exact h31), hq, hm, en_drop, rawF_enough _ (9 * (s.size - k) + 4 + 1)]
        · show Option.map _ (Option.map _ (rawF _ 4 (z % tw 4) _)) = _
          rw [Option.map_map]; simp [Function.comp_def]
        · rw [en_drop]; omega
        · rw [en_drop]; omega
      obtain ⟨hown, hx, hB⟩ := hrow
      have hown2 := hown.alloc (.cells #[.int .u8 (sch (m : Int))] 5)
      have hsz := hB.size
      have hlen : (pre.map sch).length = pre.length := List.length_map _
      skip
      clear hR z1 h31 hq
      go_wp2_with (at_builtin; refine wpList_append_own _ rfl _ _ 131 rfl w.heap.size 5 i0 (.int .u8 0) 1 1 Tryz.underlying131 hi hz0 hz1 hz2 rfl (by decide) _ _ _ rfl hown2 ⟨_, 0, none⟩ 1 1 [.int .u8 (sch (m : Int))] rfl rfl (cell_one_new _ _ _) ?d2 ?d3 ?d4 ?d5 ?_)
      case d2 => first | rfl | (intro u hu; simp at hu; subst hu; rfl)
      case d3 => first | omega | (unfold maxLen; omega)
      case d4 => omega
      case d5 => first | omega | (simp; omega)
      intro v' w3 hown3 hgrow _
      have HX : Hid (∀ x ∈ pre ++ [(m : Int)], 0 ≤ x ∧ x ≤ 30) := by show ∀ _ ∈ _, _; intro x hx2; rcases List.mem_append.1 hx2 with h | h; exact hx.out x h; simp at h; omega
      have hB3 : Below w.heap.size w w3 := (hB.alloc hB.size _).grown hgrow (by simp; omega) (fun k hk => (hown2.lt k hk).1)
      have HO : Hid (w3.ownsRow w.heap.size 5 1 v' (pre ++ [(m : Int)]).length (((pre ++ [(m : Int)]).map sch).map (Value.int .u8))) := by show World.ownsRow _ _ _ _ _ _ _; simpa using hown3
      clear hown3 hown2 hown hx hlen
      go_wp2_with (go_at_call 171; refine (implLow 4 _ (by omega)).mono ?_; rintro e w' ⟨rfl, rfl⟩)
      go_step3
      exact (show J1 s w 12 _ _ ∧ _ < _ from ⟨⟨_, _, 4, k, pre ++ [(m : Int)], ⟨_, _, _, _, _, _, _, _, _, _, _, _, _, _, _, _, _, _, _, _, _, _, _, _, _, _, _, _, _, _, _, _, _, _, _, _, _, _, _, _, _, _, _, _, _, _, _, _, _, _, _, _, _, _, _, _, rfl⟩, by omega, hk, HZ.out.2, HZ.out.1, by simp; omega, HR.out, HO.out, HX, hB3⟩, by simp [mu, intOf]⟩)
    · have hq : z / tw (10 - 5) = z / 32 := by simp [tw]
      by_cases h31 : 31 ≤ z / 32
      · rw [en_drop, rawF_ones (by omega) (by rw [hq]; exact h31)] at hR
        have HR : Hid (rawV s = (if k = s.size then some (pre, 10, z) else none)) := by
          show _ = _
          rw [hR]
          by_cases e : k = s.size
          · rw [if_pos e, bys_end s k (by omega)]; simp
          · rw [if_neg e, if_neg (bys_short (by omega))]; rfl
        clear hR
        go_wp2_with fail
        go_step3
        exact (show J2 s w _ _ ∧ _ < _ from ⟨⟨_, _, 10, k, pre, ⟨_, _, _, _, _, _, _, _, _, _, _, _, _, _, _, _, _, _, _, _, _, _, _, _, _, _, _, _, _, _, _, _, _, _, _, _, _, _, _, _, _, _, _, _, _, _, _, _, _, _, _, _, _, _, _, _, rfl⟩, by omega, hk, z0, z1, hpl, HR.out, hrow⟩, by simp [mu]⟩)
      obtain ⟨m, hm⟩ : ∃ m : Nat, z / 32 = (m : Int) := ⟨(z / 32).toNat, by omega⟩
      have hm31 : m < 31 := by omega
      have hm31' : (m : Int) < 31 := by omega
      have hsg : (((⟨#[97, 98, 99, 100, 101, 102, 103, 104, 105, 106, 107, 108, 109, 110, 111, 112, 113, 114, 115, 116, 117, 118, 119, 120, 121, 122, 45, 46, 47, 58, 61]⟩ : ByteArray)[m]'(by exact hm31)).toNat : Int) = sch (m : Int) := signs_at ⟨m, hm31⟩
      have hand : bits .and .i64 z (tw 5 - 1) = z % tw 5 := and_tw (by omega) (by omega) (by simp [tw] at z1; omega)
      have HZ : Hid (z % tw 5 < tw 5 ∧ 0 ≤ z % tw 5) := by show _ ∧ _; simp [tw]; omega
      have HR : Hid (rawV s = (rawF (enF 5 ((bys s).drop k)) 5 (z % tw 5) ((bys s).drop k)).map (fun r => ((pre ++ [(m : Int)]) ++ r.1, r.2))) := by
        show _ = _
        rw [hR, en_drop, rawF_sign (by omega) (by rw [hq]; exact h31), hq, hm, en_drop, rawF_enough _ (9 * (s.size - k) + 5 + 1)]
        · show Option.map _ (Option.map _ (rawF _ 5 (z % tw 5) _)) = _
          rw [Option.map_map]; simp [Function.comp_def]
        · rw [en_drop]; omega
        · rw [en_drop]; omega
      obtain ⟨hown, hx, hB⟩ := hrow
      have hown2 := hown.alloc (.cells #[.int .u8 (sch (m : Int))] 5)
      have hsz := hB.size
      have hlen : (pre.map sch).length = pre.length := List.length_map _
      skip
      clear hR z1 h31 hq
      go_wp2_with (at_builtin; refine wpList_append_own _ rfl _ _ 131 rfl w.heap.size 5 i0 (.int .u8 0) 1 1 Tryz.underlying131 hi hz0 hz1 hz2 rfl (by decide) _ _ _ rfl hown2 ⟨_, 0, none⟩ 1 1 [.int .u8 (sch (m : Int))] rfl rfl (cell_one_new _ _ _) ?d2 ?d3 ?d4 ?d5 ?_)
      case d2 => first | rfl | (intro u hu; simp at hu; subst hu; rfl)
      case d3 => first | omega | (unfold maxLen; omega)
      case d4 => omega
      case d5 => first | omega | (simp; omega)
      intro v' w3 hown3 hgrow _
      have HX : Hid (∀ x ∈ pre ++ [(m : Int)], 0 ≤ x ∧ x ≤ 30) := by show ∀ _ ∈ _, _; intro x hx2; rcases List.mem_append.1 hx2 with h | h; exact hx.out x h; simp at h; omega
      have hB3 : Below w.heap.size w w3 := (hB.alloc hB.size _).grown hgrow (by simp; omega) (fun k hk => (hown2.lt k hk).1)
      have HO : Hid (w3.ownsRow w.heap.size 5 1 v' (pre ++ [(m : Int)]).length (((pre ++ [(m : Int)]).map sch).map (Value.int .u8))) := by show World.ownsRow _ _ _ _ _ _ _; simpa using hown3
      clear hown3 hown2 hown hx hlen
      go_wp2_with (go_at_call 171; refine (implLow 5 _ (by omega)).mono ?_; rintro e w' ⟨rfl, rfl⟩)
      go_step3
      exact (show J1 s w 12 _ _ ∧ _ < _ from ⟨⟨_, _, 5, k, pre ++ [(m : Int)], ⟨_, _, _, _, _, _, _, _, _, _, _, _, _, _, _, _, _, _, _, _, _, _, _, _, _, _, _, _, _, _, _, _, _, _, _, _, _, _, _, _, _, _, _, _, _, _, _, _, _, _, _, _, _, _, _, _, rfl⟩, by omega, hk, HZ.out.2, HZ.out.1, by simp; omega, HR.out, HO.out, HX, hB3⟩, by simp [mu, intOf]⟩)
    · have hq : z / tw (11 - 5) = z / 64 := by simp [tw]
      by_cases h31 : 31 ≤ z / 64
      · rw [en_drop, rawF_ones (by omega) (by rw [hq]; exact h31)] at hR
        have HR : Hid (rawV s = (if k = s.size then some (pre, 11, z) else none)) := by
          show _ = _
          rw [hR]
          by_cases e : k = s.size
          · rw [if_pos e, bys_end s k (by omega)]; simp
          · rw [if_neg e, if_neg (bys_short (by omega))]; rfl
        clear hR
        go_wp2_with fail
        go_step3
        exact (show J2 s w _ _ ∧ _ < _ from ⟨⟨_, _, 11, k, pre, ⟨_, _, _, _, _, _, _, _, _, _, _, _, _, _, _, _, _, _, _, _, _, _, _, _, _, _, _, _, _, _, _, _, _, _, _, _, _, _, _, _, _, _, _, _, _, _, _, _, _, _, _, _, _, _, _, _, rfl⟩, by omega, hk, z0, z1, hpl, HR.out, hrow⟩, by simp [mu]⟩)
      obtain ⟨m, hm⟩ : ∃ m : Nat, z / 64 = (m : Int) := ⟨(z / 64).toNat, by omega⟩
      have hm31 : m < 31 := by omega
      have hm31' : (m : Int) < 31 := by omega
      have hsg : (((⟨#[97, 98, 99, 100, 101, 102, 103, 104, 105, 106, 107, 108, 109, 110, 111, 112, 113, 114, 115, 116, 117, 118, 119, 120, 121, 122, 45, 46, 47, 58, 61]⟩ : ByteArray)[m]'(by exact hm31)).toNat : Int) = sch (m : Int) := signs_at ⟨m, hm31⟩
      have hand : bits .and .i64 z (tw 6 - 1) = z % tw 6 := and_tw (by omega) (by omega) (by simp [tw] at z1; omega)
      have HZ : Hid (z % tw 6 < tw 6 ∧ 0 ≤ z % tw 6) := by show _ ∧ _; simp [tw]; omega
      have HR : Hid (rawV s = (rawF (enF 6 ((bys s).drop k)) 6 (z % tw 6) ((bys s).drop k)).map (fun r => ((pre ++ [(m : Int)]) ++ r.1, r.2))) := by
        show _ = _
        rw [hR, en_drop, rawF_sign (by omega) (by rw [hq]; exact h31), hq, hm, en_drop, rawF_enough _ (9 * (s.size - k) + 6 + 1)]
        · show Option.map _ (Option.map _ (rawF _ 6 (z % tw 6) _)) = _
          rw [Option.map_map]; simp [Function.comp_def]
        · rw [en_drop]; omega
        · rw [en_drop]; omega
      obtain ⟨hown, hx, hB⟩ := hrow
      have hown2 := hown.alloc (.cells #[.int .u8 (sch (m : Int))] 5)
      have hsz := hB.size
      have hlen : (pre.map sch).length = pre.length := List.length_map _
      skip
      clear hR z1 h31 hq
      go_wp2_with (at_builtin; refine wpList_append_own _ rfl _ _ 131 rfl w.heap.size 5 i0 (.int .u8 0) 1 1 Tryz.underlying131 hi hz0 hz1 hz2 rfl (by decide) _ _ _ rfl hown2 ⟨_, 0, none⟩ 1 1 [.int .u8 (sch (m : Int))] rfl rfl (cell_one_new _ _ _) ?d2 ?d3 ?d4 ?d5 ?_)
      case d2 => first | rfl | (intro u hu; simp at hu; subst hu; rfl)
      case d3 => first | omega | (unfold maxLen; omega)
      case d4 => omega
      case d5 => first | omega | (simp; omega)
      intro v' w3 hown3 hgrow _
      have HX : Hid (∀ x ∈ pre ++ [(m : Int)], 0 ≤ x ∧ x ≤ 30) := by show ∀ _ ∈ _, _; intro x hx2; rcases List.mem_append.1 hx2 with h | h; exact hx.out x h; simp at h; omega
      have hB3 : Below w.heap.size w w3 := (hB.alloc hB.size _).grown hgrow (by simp; omega) (fun k hk => (hown2.lt k hk).1)
      have HO : Hid (w3.ownsRow w.heap.size 5 1 v' (pre ++ [(m : Int)]).length (((pre ++ [(m : Int)]).map sch).map (Value.int .u8))) := by show World.ownsRow _ _ _ _ _ _ _; simpa using hown3
      clear hown3 hown2 hown hx hlen
      go_wp2_with (go_at_call 171; refine (implLow 6 _ (by omega)).mono ?_; rintro e w' ⟨rfl, rfl⟩)
      go_step3
      exact (show J1 s w 12 _ _ ∧ _ < _ from ⟨⟨_, _, 6, k, pre ++ [(m : Int)], ⟨_, _, _, _, _, _, _, _, _, _, _, _, _, _, _, _, _, _, _, _, _, _, _, _, _, _, _, _, _, _, _, _, _, _, _, _, _, _, _, _, _, _, _, _, _, _, _, _, _, _, _, _, _, _, _, _, rfl⟩, by omega, hk, HZ.out.2, HZ.out.1, by simp; omega, HR.out, HO.out, HX, hB3⟩, by simp [mu, intOf]⟩)
    · have hq : z / tw (12 - 5) = z / 128 := by simp [tw]
      by_cases h31 : 31 ≤ z / 128
      · rw [en_drop, rawF_ones (by omega) (by rw [hq]; exact h31)] at hR
        have HR : Hid (rawV s = (if k = s.size then some (pre, 12, z) else none)) := by
          show _ = _
          rw [hR]
          by_cases e : k = s.size
          · rw [if_pos e, bys_end s k (by omega)]; simp
          · rw [if_neg e, if_neg (bys_short (by omega))]; rfl
        clear hR
        go_wp2_with fail
        go_step3
        exact (show J2 s w _ _ ∧ _ < _ from ⟨⟨_, _, 12, k, pre, ⟨_, _, _, _, _, _, _, _, _, _, _, _, _, _, _, _, _, _, _, _, _, _, _, _, _, _, _, _, _, _, _, _, _, _, _, _, _, _, _, _, _, _, _, _, _, _, _, _, _, _, _, _, _, _, _, _, rfl⟩, by omega, hk, z0, z1, hpl, HR.out, hrow⟩, by simp [mu]⟩)
      obtain ⟨m, hm⟩ : ∃ m : Nat, z / 128 = (m : Int) := ⟨(z / 128).toNat, by omega⟩
      have hm31 : m < 31 := by omega
      have hm31' : (m : Int) < 31 := by omega
      have hsg : (((⟨#[97, 98, 99, 100, 101, 102, 103, 104, 105, 106, 107, 108, 109, 110, 111, 112, 113, 114, 115, 116, 117, 118, 119, 120, 121, 122, 45, 46, 47, 58, 61]⟩ : ByteArray)[m]'(by exact hm31)).toNat : Int) = sch (m : Int) := signs_at ⟨m, hm31⟩
      have hand : bits .and .i64 z (tw 7 - 1) = z % tw 7 := and_tw (by omega) (by omega) (by simp [tw] at z1; omega)
      have HZ : Hid (z % tw 7 < tw 7 ∧ 0 ≤ z % tw 7) := by show _ ∧ _; simp [tw]; omega
      have HR : Hid (rawV s = (rawF (enF 7 ((bys s).drop k)) 7 (z % tw 7) ((bys s).drop k)).map (fun r => ((pre ++ [(m : Int)]) ++ r.1, r.2))) := by
        show _ = _
        rw [hR, en_drop, rawF_sign (by omega) (by rw [hq]; exact h31), hq, hm, en_drop, rawF_enough _ (9 * (s.size - k) + 7 + 1)]
        · show Option.map _ (Option.map _ (rawF _ 7 (z % tw 7) _)) = _
          rw [Option.map_map]; simp [Function.comp_def]
        · rw [en_drop]; omega
        · rw [en_drop]; omega
      obtain ⟨hown, hx, hB⟩ := hrow
      have hown2 := hown.alloc (.cells #[.int .u8 (sch (m : Int))] 5)
      have hsz := hB.size
      have hlen : (pre.map sch).length = pre.length := List.length_map _
      skip
      clear hR z1 h31 hq
      go_wp2_with (at_builtin; refine wpList_append_own _ rfl _ _ 131 rfl w.heap.size 5 i0 (.int .u8 0) 1 1 Tryz.underlying131 hi hz0 hz1 hz2 rfl (by decide) _ _ _ rfl hown2 ⟨_, 0, none⟩ 1 1 [.int .u8 (sch (m : Int))] rfl rfl (cell_one_new _ _ _) ?d2 ?d3 ?d4 ?d5 ?_)
      case d2 => first | rfl | (intro u hu; simp at hu; subst hu; rfl)
      case d3 => first | omega | (unfold maxLen; omega)
      case d4 => omega
      case d5 => first | omega | (simp; omega)
      intro v' w3 hown3 hgrow _
      have HX : Hid (∀ x ∈ pre ++ [(m : Int)], 0 ≤ x ∧ x ≤ 30) := by show ∀ _ ∈ _, _; intro x hx2; rcases List.mem_append.1 hx2 with h | h; exact hx.out x h; simp at h; omega
      have hB3 : Below w.heap.size w w3 := (hB.alloc hB.size _).grown hgrow (by simp; omega) (fun k hk => (hown2.lt k hk).1)
      have HO : Hid (w3.ownsRow w.heap.size 5 1 v' (pre ++ [(m : Int)]).length (((pre ++ [(m : Int)]).map sch).map (Value.int .u8))) := by show World.ownsRow _ _ _ _ _ _ _; simpa using hown3
      clear hown3 hown2 hown hx hlen
      go_wp2_with (go_at_call 171; refine (implLow 7 _ (by omega)).mono ?_; rintro e w' ⟨rfl, rfl⟩)
      go_step3
      exact (show J1 s w 12 _ _ ∧ _ < _ from ⟨⟨_, _, 7, k, pre ++ [(m : Int)], ⟨_, _, _, _, _, _, _, _, _, _, _, _, _, _, _, _, _, _, _, _, _, _, _, _, _, _, _, _, _, _, _, _, _, _, _, _, _, _, _, _, _, _, _, _, _, _, _, _, _, _, _, _, _, _, _, _, rfl⟩, by omega, hk, HZ.out.2, HZ.out.1, by simp; omega, HR.out, HO.out, HX, hB3⟩, by simp [mu, intOf]⟩)
  · rintro a w1 ⟨b, z, c, k, pre, ⟨u2, u3, u8, u9, u10, u11, u12, u13, u14, u15, u16, u17, u18, u19, u20, u21, u22, u23, u24, u25, u26, u27, u28, u29, u30, u31, u32, u33, u34, u35, u36, u37, u38, u39, u40, u41, u42, u43, u44, u45, u46, u47, u48, u49, u50, u51, u52, u53, u54, u55, u56, u57, u58, u59, u60, u61, rfl⟩, hc, hk, z0, z1, hpl, hR, hown, hx, hB⟩
    by_cases hend : k = s.size
    · rw [if_pos hend] at hR
      subst hend
      by_cases h8 : 8 ≤ c
      · have HU : Hid (unV s = (⟨#[]⟩, false)) := by
          show _ = _
          rw [HV.out, hR]
          have : okUB (pre, c, z) = false := by simp [okUB]; omega
          simp [this]
        clear hR z1
        go_wp2_with fail
        rw [jumps_ret]
        go_ret2
        rw [HU.out]
        exact ⟨rfl, hB⟩
      by_cases hz : z = tw c - 1
      · have HU : Hid (unV s = (strOf (pre.map sch), true)) := by
          show _ = _
          rw [HV.out, hR]
          have : okUB (pre, c, z) = true := by simp [okUB]; omega
          simp [this]
        have hcv := row_string (l := pre.map sch) hown (sch_range_all hx.out)
        clear hR z1 hx
        go_wp2_with (go_at_call 171; refine (implLow c _ (by omega)).mono ?_; rintro e w' ⟨rfl, rfl⟩)
        rw [jumps_ret]
        go_ret2
        rw [HU.out]
        exact ⟨rfl, hB⟩
      · have HU : Hid (unV s = (⟨#[]⟩, false)) := by
          show _ = _
          rw [HV.out, hR]
          have : okUB (pre, c, z) = false := by simp [okUB]; omega
          simp [this]
        have hzb : (z == tw c - 1) = false := by simpa using hz
        clear hR z1
        go_wp2_with (go_at_call 171; refine (implLow c _ (by omega)).mono ?_; rintro e w' ⟨rfl, rfl⟩)
        · rw [jumps_ret]
          go_ret2
          rw [HU.out]
          exact ⟨rfl, hB⟩
        · rename_i h _ _ _ _
          have := h.2
          simp [bne, hzb] at this
    · rw [if_neg hend] at hR
      have HU : Hid (unV s = (⟨#[]⟩, false)) := by show _ = _; rw [HV.out, hR]
      have hlt : (k : Int) < s.size := by omega
      clear hR z1
      go_wp2_with fail
      rw [jumps_ret]
      go_ret2
      rw [HU.out]
      exact ⟨rfl, hB⟩

theorem implUnpacked (s : ByteArray) (w : World) (hs : s.size ≤ maxLen) : Calls Tryz.prog 251 #[.string s] w fun e w' => e = .returned (.tuple #[.string (unV s).1, .bool (unV s).2]) ∧ Below w.heap.size w w' := by
  by_cases h : s.size ≤ 125
  · exact implUn s w h
  unfold maxLen at hs
  rw [show unV s = (⟨#[]⟩, false) from by simp [unV, h]]
  go_enter Tryz.func251, Tryz.ntmps251
  go_wp2_with fail
  go_step3
  go_wp2_with fail
  simp only [Exit.noGoto]
  go_ret2
  exact ⟨rfl, Below.refl _ _⟩
end Go.Proofs.YtllaeakeaabiaaaGreat
