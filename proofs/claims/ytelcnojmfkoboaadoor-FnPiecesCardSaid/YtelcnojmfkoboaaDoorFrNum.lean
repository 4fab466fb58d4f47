/- Chapter 7's numbers as bytes: Number and Bytes, of the program and of the model. -/
import Derived.Test.YtelcnojmfkoboaaDoorFrameMath
import Derived.Test.YtelcnojmfkoboaaDoorMade
import Derived.Test.YtelcnojmfkoboaaDoorLater
import Derived.Test.YtelcnojmfkoboaaDoorMinMax
import Derived.Laws.BitsLemmas

namespace Go.Proofs.YtelcnojmfkoboaaDoor
open Go.RowKit
set_option maxRecDepth 100000
set_option linter.unusedSimpArgs false
set_option linter.unusedVariables false

theorem wraps40 : ∀ n : Int, 0 ≤ n → n < 2 ^ 40 → IntKind.i64.wrap n = n := by
  intro n h0 h1
  rw [IntKind.wrap_i64]; omega
theorem or_byte {z b : Int} (hz0 : 0 ≤ z) (hz1 : z < 16777216) (hb0 : 0 ≤ b) (hb1 : b ≤ 255) : bits .or .i64 (z * 256) b = z * 256 + b := by
  refine bits_join .i64 40 (by decide) wraps40 8 (z * 256) b (by omega) (by omega) (by omega) hb0 (by omega) (by omega)
theorem bys_take (s : ByteArray) (k : Nat) (h : k < s.size) : (bys s).take (k + 1) = (bys s).take k ++ [(s[k].toNat : Int)] := by
  have hl : k < (bys s).length := by rw [bys_len]; exact h
  rw [List.take_succ_eq_append_getElem hl]
  congr 2
  simp [bys]; rfl
theorem numL_take (s : ByteArray) (k : Nat) (h : k < s.size) : numL ((bys s).take (k + 1)) = numL ((bys s).take k) * 256 + (s[k].toNat : Int) := by rw [bys_take s k h, numL_snoc]
theorem numL_take_range (s : ByteArray) (k : Nat) : 0 ≤ numL ((bys s).take k) ∧ (k ≤ 3 → numL ((bys s).take k) < 16777216) := by
  have h := numL_range (l := (bys s).take k) fun x hx => bys_range s x (List.mem_of_mem_take hx)
  refine ⟨h.1, fun hk => ?_⟩
  have hl : ((bys s).take k).length ≤ 3 := by rw [List.length_take]; omega
  have : (256 : Int) ^ ((bys s).take k).length ≤ 256 ^ 3 := by exact_mod_cast Nat.pow_le_pow_right (by omega : 0 < 256) hl
  omega
theorem byte_range (s : ByteArray) (k : Nat) (h : k < s.size) : (s[k].toNat : Int) ≤ 255 := by have := (s[k]).toNat_lt; omega

set_option maxHeartbeats 1000000 in
theorem implNumber (s : ByteArray) (w : World) (hs : s.size ≤ maxLen) : Calls Tryd.prog 22 #[.string s] w fun e w' => e = .returned (.int .i64 (numV s)) ∧ w' = w := by
  unfold maxLen at hs
  by_cases h4 : 4 < s.size
  · rw [numV_long h4]
    go_enter Tryd.func22, Tryd.ntmps22
    go_wp2_with fail
    go_ret
    exact ⟨rfl, rfl⟩
  · obtain ⟨R, hR⟩ : ∃ R, numV s = R := ⟨_, rfl⟩
    rw [hR]
    have HR : Hid (numL ((bys s).take s.size) = R) := by show _ = _; rw [← hR]; unfold numV; rw [if_neg h4, List.take_of_length_le (by rw [bys_len]; omega)]
    clear hR
    go_enter Tryd.func22, Tryd.ntmps22
    go_wp2_with fail
    go_loop [3, 10] (fun n i => ∃ k : Nat, i = .int .i64 k ∧ k ≤ s.size ∧ n = .int .i64 (numL ((bys s).take k))) (fun _ i => s.size - (intOf i).toNat)
    case atStart => exact ⟨0, rfl, Nat.zero_le _, by simp [numL]⟩
    case round =>
      obtain ⟨k, rfl, hk, rfl⟩ := hrel
      by_cases hlt : k < s.size
      · have HN := hide (numL_take s k hlt)
        obtain ⟨z0, z1⟩ := numL_take_range s k
        have z2 := z1 (by omega)
        have hb := byte_range s k hlt
        obtain ⟨z, hz⟩ : ∃ z, numL ((bys s).take k) = z := ⟨_, rfl⟩
        rw [hz] at HN z0 z2 ⊢
        clear z1 hz
        have hor := or_byte (b := (s[k].toNat : Int)) z0 z2 (by omega) hb
        have hle : z * 256 + (s[k].toNat : Int) < 4294967296 := by omega
        go_wp2_with fail
        go_round
        case rel => exact ⟨k + 1, by go_num, by omega, int_eq HN.out.symm⟩
        case measure => simp [intOf]; omega
      · obtain rfl : k = s.size := by omega
        go_wp2_with fail
        go_ret
        exact ⟨by rw [HR.out]; rfl, rfl⟩
set_option maxHeartbeats 1000000 in
theorem specNumber (s : ByteArray) (w : World) (hs : s.size ≤ maxLen) : Calls Tryd.prog 23 #[.string s] w fun e w' => e = .returned (.int .i64 (numV s)) ∧ w' = w := by
  unfold maxLen at hs
  by_cases h4 : 4 < s.size
  · rw [numV_long h4]
    go_enter Tryd.func23, Tryd.ntmps23
    go_wp2_with fail
    go_ret
    exact ⟨rfl, rfl⟩
  · obtain ⟨R, hR⟩ : ∃ R, numV s = R := ⟨_, rfl⟩
    rw [hR]
    have HR : Hid (numL ((bys s).take s.size) = R) := by show _ = _; rw [← hR]; unfold numV; rw [if_neg h4, List.take_of_length_le (by rw [bys_len]; omega)]
    clear hR
    go_enter Tryd.func23, Tryd.ntmps23
    go_wp2_with fail
    go_loop [3, 4] (fun n i => ∃ k : Nat, i = .int .i64 k ∧ k ≤ s.size ∧ n = .int .i64 (numL ((bys s).take k))) (fun _ i => s.size - (intOf i).toNat)
    case atStart => exact ⟨0, rfl, Nat.zero_le _, by simp [numL]⟩
    case round =>
      obtain ⟨k, rfl, hk, rfl⟩ := hrel
      by_cases hlt : k < s.size
      · have HN := hide (numL_take s k hlt)
        obtain ⟨z0, z1⟩ := numL_take_range s k
        have z2 := z1 (by omega)
        have hb := byte_range s k hlt
        obtain ⟨z, hz⟩ : ∃ z, numL ((bys s).take k) = z := ⟨_, rfl⟩
        rw [hz] at HN z0 z2 ⊢
        clear z1 hz
        have hle : z * 256 + (s[k].toNat : Int) < 4294967296 := by omega
        go_wp2_with fail
        go_round
        case rel => exact ⟨k + 1, by go_num, by omega, int_eq HN.out.symm⟩
        case measure => simp [intOf]; omega
      · obtain rfl : k = s.size := by omega
        go_wp2_with fail
        go_ret
        exact ⟨by rw [HR.out]; rfl, rfl⟩
/-- What Bytes answers. -/
def bysV (n c : Int) : ByteArray := if inB c 1 4 = true ∧ inB n 0 (256 ^ c.toNat - 1) = true then bytV c.toNat n else ⟨#[]⟩
theorem row_end {xs : List Value} {l : List Int} (h : xs.drop 0 = l.map (Value.int .u8)) : xs = l.map (Value.int .u8) := by simpa using h
theorem drop_set (xs : List Value) (a : Nat) (v : Value) (l : List Int) (x : Int) (hv : v = .int .u8 x) (h : xs.drop (a + 1) = l.map (Value.int .u8)) (ha : a < xs.length) : (xs.set a v).drop a = (x :: l).map (Value.int .u8) := by
  rw [List.drop_eq_getElem_cons (by simpa using ha), List.getElem_set_self, hv, List.map_cons]
  congr 1
  rw [List.drop_set_of_lt (by omega)]
  exact h
theorem bytL_step (a : Nat) (m : Int) (l : List Int) : bytL (a + 1) m ++ l = bytL a (m / 256) ++ (m % 256 :: l) := by simp [bytL]
theorem wrap_byte (m : Int) : IntKind.u8.wrap m = m % 256 := by rw [IntKind.wrap_u8]

set_option maxHeartbeats 1000000 in
theorem specBytes7 (n : Int) (c : Nat) (w : World) (h0 : 0 ≤ n) (h1 : n ≤ 9223372036854775807) (hc1 : 1 ≤ c) (hc : c ≤ 4) :
    Calls Tryd.prog 51 #[.int .i64 n, .int .i64 c] w fun e w' => e = .returned (.string (bytV c n)) ∧ Below w.heap.size w w' := by
  obtain ⟨M, hM, hmk⟩ := make_row 22 5 (.int .u8 0) 1 1 Tryd.underlying22 (by kernel_rfl) rfl (by decide) (by decide) c (by omega)
  have ho := owns_made w M 5 1 c hM (by omega)
  have hMl : M.toList.length = c := by simp [hM]
  obtain ⟨L, hL⟩ : ∃ L, bytL c n = L := ⟨_, rfl⟩
  have hv : bytV c n = strOf L := by unfold bytV; rw [hL]
  have HX : Hid (∀ x ∈ L, 0 ≤ x ∧ x ≤ 255) := by show ∀ x ∈ _, _; rw [← hL]; exact bytL_range c n
  rw [hv]
  have HL := hide hL
  clear hv hL
  go_enter Tryd.func51, Tryd.ntmps51
  go_wp2_with fail
  go_loopw [0, 6] (fun nv i wr => ∃ (a : Nat) (m : Int) (xs : List Value) (l : List Int), i = .int .i64 ((a : Int) - 1) ∧ nv = .int .i64 m ∧ a ≤ c ∧ 0 ≤ m ∧ m ≤ 9223372036854775807 ∧ L = bytL a m ++ l ∧ xs.drop a = l.map (Value.int .u8) ∧ wr.ownsRow w.heap.size 5 1 (.slice (some ⟨w.heap.size, 0, none⟩) c c) c xs ∧ Below w.heap.size w wr) (fun _ i _ => (intOf i + 1).toNat)
  case atStart => exact ⟨c, n, _, [], rfl, rfl, Nat.le_refl _, h0, h1, by rw [HL.out]; simp, by simp [← hMl], ho, (Below.refl _ _).alloc (Nat.le_refl _) _⟩
  case round =>
    obtain ⟨a, m, xs, l, rfl, rfl, ha, m0, m1, hpre, hd, hown, hb⟩ := hrel
    have hxl := hown.1
    cases a with
    | zero =>
      have hxs := row_end hd
      subst hxs
      have hLl : L = l := by rw [hpre]; rfl
      have hcv := row_string (l := l) (by simpa using hown) (by rw [← hLl]; exact HX.out)
      rw [← hLl] at hcv
      clear hpre hd hown hLl
      go_wp2_with fail
      go_ret
      exact ⟨rfl, hb⟩
    | succ a =>
      obtain ⟨g, cap', e1, e2, e3, e4, _, _, e5, e6⟩ := owns_open hown (by omega)
      simp only [Value.slice.injEq, Option.some.injEq, Addr.mk.injEq] at e1
      obtain ⟨⟨rfl, _, _⟩, _, rfl⟩ := e1
      obtain ⟨u0, hu0⟩ : ∃ u, wr.cell? ⟨w.heap.size, a, none⟩ = some u := ⟨_, e5 _ _ (List.getElem?_eq_getElem (by omega))⟩
      have HO := hide (owns_set hown rfl a (.int .u8 (m % 256)))
      have HD := hide (drop_set xs a (.int .u8 (m % 256)) l (m % 256) rfl hd (by omega))
      have HP := hide (hpre.trans (bytL_step a m l))
      have hi1 : (((a + 1 : Nat) : Int) - 1) = a := by omega
      rw [hi1]
      clear hpre hd hown e5 e2 hi1
      go_wp2_with fail
      exact ⟨⟨a, m / 256, _, _, by go_num, rfl, by omega, by omega, by omega, HP.out, HD.out, HO.out, hb.setCell (by simp) _⟩, by first | (simp [intOf]; done) | (simp [intOf]; omega)⟩
set_option maxHeartbeats 1000000 in
theorem implLow8 (c : Int) (w : World) (h1 : 1 ≤ c) (h4 : c ≤ 4) : Calls Tryd.prog 47 #[.int .i64 (c * 8)] w fun e w' => e = .returned (.int .i64 (256 ^ c.toNat - 1)) ∧ w' = w := by
  have : c = 1 ∨ c = 2 ∨ c = 3 ∨ c = 4 := by omega
  rcases this with rfl | rfl | rfl | rfl
  all_goals
    go_enter Tryd.func47, Tryd.ntmps47
    go_wp2_with fail
    go_ret
    exact ⟨rfl, rfl⟩
set_option maxHeartbeats 1000000 in
theorem implBytes (n c : Int) (w : World) :
    Calls Tryd.prog 21 #[.int .i64 n, .int .i64 c] w fun e w' => e = .returned (.string (bysV n c)) ∧ Below w.heap.size w w' := by
  cases hc : inB c 1 4
  · have hv : bysV n c = ⟨#[]⟩ := by simp [bysV, hc]
    rw [hv]
    go_enter Tryd.func21, Tryd.ntmps21
    go_wp2_with fail
    refine (implWithin _ _ _ _).mono ?_; rw [hc]; rintro e w1 ⟨rfl, rfl⟩
    go_wp2_with fail
    go_ret
    exact ⟨rfl, Below.refl _ _⟩
  obtain ⟨hc1, hc4⟩ := inB_true hc
  cases hn : inB n 0 (256 ^ c.toNat - 1)
  · have hv : bysV n c = ⟨#[]⟩ := by simp [bysV, hn]
    rw [hv]
    go_enter Tryd.func21, Tryd.ntmps21
    go_wp2_with fail
    refine (implWithin _ _ _ _).mono ?_; rw [hc]; rintro e w1 ⟨rfl, rfl⟩
    go_wp2_with fail
    refine (implLow8 c _ hc1 hc4).mono ?_; rintro e w1 ⟨rfl, rfl⟩
    go_wp2_with fail
    refine (implWithin _ _ _ _).mono ?_; rw [hn]; rintro e w1 ⟨rfl, rfl⟩
    go_wp2_with fail
    go_ret
    exact ⟨rfl, Below.refl _ _⟩
  obtain ⟨h0, h1⟩ := inB_true hn
  obtain ⟨C, rfl⟩ : ∃ C : Nat, c = C := ⟨c.toNat, by omega⟩
  rw [Int.toNat_natCast] at hn h1
  have hv : bysV n C = bytV C n := by unfold bysV; rw [Int.toNat_natCast, if_pos ⟨hc, hn⟩]
  have h1' : n ≤ 9223372036854775807 := by
    have : (256 : Int) ^ C ≤ 256 ^ 4 := by exact_mod_cast Nat.pow_le_pow_right (by omega : 0 < 256) (by omega : C ≤ 4)
    omega
  obtain ⟨M, hM, hmk⟩ := make_row 22 5 (.int .u8 0) 1 1 Tryd.underlying22 (by kernel_rfl) rfl (by decide) (by decide) C (by omega)
  have ho := owns_made w M 5 1 C hM (by omega)
  have hMl : M.toList.length = C := by simp [hM]
  obtain ⟨L, hL⟩ : ∃ L, bytL C n = L := ⟨_, rfl⟩
  have hv2 : bytV C n = strOf L := by unfold bytV; rw [hL]
  have HX : Hid (∀ x ∈ L, 0 ≤ x ∧ x ≤ 255) := by show ∀ x ∈ _, _; rw [← hL]; exact bytL_range C n
  rw [hv, hv2]
  have HL := hide hL
  have HN := hide hn
  clear hv hL hv2 h1 hn
  go_enter Tryd.func21, Tryd.ntmps21
  go_wp2_with fail
  refine (implWithin _ _ _ _).mono ?_; rw [hc]; rintro e w1 ⟨rfl, rfl⟩
  go_wp2_with fail
  refine (implLow8 (C : Int) _ hc1 hc4).mono ?_; rintro e w1 ⟨rfl, rfl⟩
  go_wp2_with fail
  refine (implWithin _ _ _ _).mono ?_; rw [HN.out]; rintro e w1 ⟨rfl, rfl⟩
  go_wp2_with fail
  go_loopw [0, 6] (fun nv i wr => ∃ (a : Nat) (m : Int) (xs : List Value) (l : List Int), i = .int .i64 ((a : Int) - 1) ∧ nv = .int .i64 m ∧ a ≤ C ∧ 0 ≤ m ∧ m ≤ 9223372036854775807 ∧ L = bytL a m ++ l ∧ xs.drop a = l.map (Value.int .u8) ∧ wr.ownsRow w1.heap.size 5 1 (.slice (some ⟨w1.heap.size, 0, none⟩) C C) C xs ∧ Below w1.heap.size w1 wr) (fun _ i _ => (intOf i + 1).toNat)
  case atStart => exact ⟨C, n, _, [], rfl, rfl, Nat.le_refl _, h0, h1', by rw [HL.out]; simp, by simp [← hMl], ho, (Below.refl _ _).alloc (Nat.le_refl _) _⟩
  case round =>
    obtain ⟨a, m, xs, l, rfl, rfl, ha, m0, m1, hpre, hd, hown, hb⟩ := hrel
    have hxl := hown.1
    cases a with
    | zero =>
      have hxs := row_end hd
      subst hxs
      have hLl : L = l := by rw [hpre]; rfl
      have hcv := row_string (l := l) (by simpa using hown) (by rw [← hLl]; exact HX.out)
      rw [← hLl] at hcv
      clear hpre hd hown hLl
      go_wp2_with fail
      go_ret
      exact ⟨rfl, hb⟩
    | succ a =>
      obtain ⟨g, cap', e1, e2, e3, e4, _, _, e5, e6⟩ := owns_open hown (by omega)
      simp only [Value.slice.injEq, Option.some.injEq, Addr.mk.injEq] at e1
      obtain ⟨⟨rfl, _, _⟩, _, rfl⟩ := e1
      obtain ⟨u0, hu0⟩ : ∃ u, wr.cell? ⟨w1.heap.size, a, none⟩ = some u := ⟨_, e5 _ _ (List.getElem?_eq_getElem (by omega))⟩
      have HO := hide (owns_set hown rfl a (.int .u8 (m % 256)))
      have HD := hide (drop_set xs a (.int .u8 (m % 256)) l (m % 256) rfl hd (by omega))
      have HP := hide (hpre.trans (bytL_step a m l))
      have hi1 : (((a + 1 : Nat) : Int) - 1) = a := by omega
      rw [hi1]
      clear hpre hd hown e5 e2 hi1
      go_wp2_with fail
      exact ⟨⟨a, m / 256, _, _, by go_num, rfl, by omega, by omega, by omega, HP.out, HD.out, HO.out, hb.setCell (by simp) _⟩, by first | (simp [intOf]; done) | (simp [intOf]; omega)⟩
set_option maxHeartbeats 1000000 in
theorem specBytes (n c : Int) (w : World) :
    Calls Tryd.prog 24 #[.int .i64 n, .int .i64 c] w fun e w' => e = .returned (.string (bysV n c)) ∧ Below w.heap.size w w' := by
  cases hc : inB c 1 4
  · have hv : bysV n c = ⟨#[]⟩ := by simp [bysV, hc]
    rw [hv]
    go_enter Tryd.func24, Tryd.ntmps24
    go_wp2_with fail
    refine (specIn _ _ _ _).mono ?_; rw [hc]; rintro e w1 ⟨rfl, rfl⟩
    go_wp2_with fail
    go_ret
    exact ⟨rfl, Below.refl _ _⟩
  obtain ⟨hc1, hc4⟩ := inB_true hc
  cases hn : inB n 0 (256 ^ c.toNat - 1)
  · have hv : bysV n c = ⟨#[]⟩ := by simp [bysV, hn]
    rw [hv]
    clear hv
    have : c = 1 ∨ c = 2 ∨ c = 3 ∨ c = 4 := by omega
    rcases this with rfl | rfl | rfl | rfl
    all_goals
      have hn' : inB n 0 _ = false := hn
      simp only [Int.reducePow, Int.reduceSub, Int.reduceToNat] at hn'
      clear hn
      go_enter Tryd.func24, Tryd.ntmps24
      go_wp2_with fail
      refine (specIn _ _ _ _).mono ?_; rw [hc]; rintro e w1 ⟨rfl, rfl⟩
      go_wp2_with fail
      refine (specMin _ _ _).mono ?_; rintro e w1 ⟨rfl, rfl⟩
      go_wp2_with fail
      refine (specMax _ _ _).mono ?_; rintro e w1 ⟨rfl, rfl⟩
      go_wp2_with fail
      refine (specIn _ _ _ _).mono ?_; rw [hn']; rintro e w1 ⟨rfl, rfl⟩
      go_wp2_with fail
      go_ret
      exact ⟨rfl, Below.refl _ _⟩
  · obtain ⟨h0, h1⟩ := inB_true hn
    have hv : bysV n c = bytV c.toNat n := by simp [bysV, hc, hn]
    rw [hv]
    clear hv
    have : c = 1 ∨ c = 2 ∨ c = 3 ∨ c = 4 := by omega
    rcases this with rfl | rfl | rfl | rfl
    all_goals
      have hn' : inB n 0 _ = true := hn
      simp only [Int.reducePow, Int.reduceSub, Int.reduceToNat] at hn' h1
      clear hn
      go_enter Tryd.func24, Tryd.ntmps24
      go_wp2_with fail
      refine (specIn _ _ _ _).mono ?_; rw [hc]; rintro e w1 ⟨rfl, rfl⟩
      go_wp2_with fail
      refine (specMin _ _ _).mono ?_; rintro e w1 ⟨rfl, rfl⟩
      go_wp2_with fail
      refine (specMax _ _ _).mono ?_; rintro e w1 ⟨rfl, rfl⟩
      go_wp2_with fail
      refine (specIn _ _ _ _).mono ?_; rw [hn']; rintro e w1 ⟨rfl, rfl⟩
      go_wp2_with fail
    · refine (specBytes7 n 1 _ h0 (by omega) (by omega) (by omega)).mono ?_; rintro e w1 ⟨rfl, hb1⟩
      go_wp2_with fail
      go_ret
      exact ⟨rfl, hb1⟩
    · refine (specBytes7 n 2 _ h0 (by omega) (by omega) (by omega)).mono ?_; rintro e w1 ⟨rfl, hb1⟩
      go_wp2_with fail
      go_ret
      exact ⟨rfl, hb1⟩
    · refine (specBytes7 n 3 _ h0 (by omega) (by omega) (by omega)).mono ?_; rintro e w1 ⟨rfl, hb1⟩
      go_wp2_with fail
      go_ret
      exact ⟨rfl, hb1⟩
    · refine (specBytes7 n 4 _ h0 (by omega) (by omega) (by omega)).mono ?_; rintro e w1 ⟨rfl, hb1⟩
      go_wp2_with fail
      go_ret
      exact ⟨rfl, hb1⟩
end Go.Proofs.YtelcnojmfkoboaaDoor
