/- What chapter 4's laws draw: some text, whatever it is; of what was there the cursor alone has moved. -/
import Derived.Test.YtiilmbbgngpleaaBend2
import Derived.Test.YtiilmbbgngpleaaOpenCode
import Derived.Test.YtiilmbbgngpleaaLitRead3
import Derived.Laws.MakeOwn
import Derived.Handy
namespace Go.Proofs.Ytiilmbbgngpleaa
open Go.RowKit
set_option linter.unusedSimpArgs false
set_option linter.unusedVariables false

theorem owns_all (w : World) (M : Array Value) (e : TypeId) (size R : Nat) (h : M.size = R * size) (hR : R ≤ 1048576) : (w.alloc (.cells M e)).ownsRow w.heap.size e size (.slice (some ⟨w.heap.size, 0, none⟩) R R) R M.toList :=
  ⟨by simp [h], .inr ⟨w.heap.size, R, M, rfl, Nat.le_refl _, heap_alloc_new w _, Nat.le_refl _, by unfold maxLen; omega, h, by rw [← h, ← Array.length_toList, List.take_length]⟩⟩
/-- A row of 200 noughts is made, and is a text. -/
theorem made200 (w : World) : ∃ (w2 : World) (z : ByteArray), z.size = 200 ∧ (∀ w', w' = w2 → (w' = w2)) ∧ (Instr.makeSlice 22 (.int .i64 200) (.int .i64 200)).run Try.prog w = .ok (.slice (some ⟨w.heap.size, 0, none⟩) 200 200) w2 ∧ (convert 22 9 (.slice (some ⟨w.heap.size, 0, none⟩) 200 200)).run Try.prog w2 = .ok (.string z) w2 ∧ ∃ o, w2 = w.alloc o := by
  obtain ⟨i0, hi, hz0, hz1, hz2⟩ := info_parts (P := Try.prog) (e := 5) (z := .int .u8 0) (size := 1) (bytes := 1) (by kernel_rfl)
  have h := run_makeSlice (P := Try.prog) w 22 5 i0 (.int .u8 0) Try.underlying22 hi hz0 .i64 .i64 200 200 (by omega) (by omega) (by rw [hz1]; decide) (by rw [hz2]; decide) (by omega)
  rw [hz1] at h
  obtain ⟨z, hs, hcv⟩ := row_to_string (owns_all w (madeCells (Value.int .u8 0).cells (200 * 1)) 5 1 200 (size_madeCells _ _) (by omega)) (by
    intro u hu
    simp only [madeCells, Array.toList_map, List.mem_map] at hu
    obtain ⟨j, _, rfl⟩ := hu
    have e : (Value.int .u8 0).cells = #[Value.int .u8 0] := rfl
    rw [e]
    have e2 : j % (#[Value.int .u8 0] : Array Value).size = 0 := Nat.mod_one j
    rw [e2]
    exact ⟨0, rfl, by omega, by omega⟩)
  exact ⟨_, z, hs, fun _ h => h, h, hcv, _, rfl⟩

set_option maxHeartbeats 2000000 in
theorem text4 (g B : Nat) (w : World) (hc : Cur w g B) :
    Calls Try.prog 25 #[.pointer (some ⟨g, 0, none⟩)] w fun e w' => ∃ t : ByteArray, t.size ≤ 300 ∧ e = .returned (.string t) ∧ Cur w' g B ∧ Moves g w w' := by
  have hgw := hc.lt
  go_enter Try.func25, Try.ntmps25
  go_wp2_with fail
  refine (below1 g B 12 _ hc (by omega)).mono ?_; rintro e w1 ⟨x, x0, x1, x2, rfl, hc1, hm1⟩
  have x3 := x1 (by omega)
  go_wp2_with fail
  go_loopw [3, 4] (fun v n wr => ∃ (m : Nat) (t : ByteArray), n = .int .i64 m ∧ v = .string t ∧ t.size + m ≤ 12 ∧ Cur wr g B ∧ Moves g w wr) (fun _ n _ => (intOf n).toNat)
  case atStart =>
    obtain ⟨m, rfl⟩ : ∃ m : Nat, x = m := ⟨x.toNat, by omega⟩
    exact ⟨m, ⟨#[]⟩, rfl, rfl, by simp [ByteArray.size]; omega, hc1, hm1⟩
  case round =>
    obtain ⟨m, t, rfl, rfl, hmt, hcr, hmr⟩ := hrel
    have hsr := hmr.size
    by_cases hm : 0 < m
    · obtain ⟨m', rfl⟩ : ∃ m', m = m' + 1 := ⟨m - 1, by omega⟩
      go_wp2_with fail
      refine (below1 g B 11 _ hcr (by omega)).mono ?_; rintro e w2 ⟨y, y0, y1, y2, rfl, hc2, hm2⟩
      have y4 : y < 11 := y1 (by omega)
      obtain ⟨y, rfl⟩ : ∃ y' : Nat, y = y' := ⟨y.toNat, by omega⟩
      have y5 : y < 11 := by omega
      obtain ⟨q, hq⟩ : ∃ q : Int, (((⟨#[97, 98, 99, 120, 121, 122, 45, 46, 47, 58, 61]⟩ : ByteArray)[y]'y5).toNat : Int) = q := ⟨_, rfl⟩
      have q0 : 0 ≤ q := by omega
      have q1 : q ≤ 255 := by rw [← hq]; have := ((⟨#[97, 98, 99, 120, 121, 122, 45, 46, 47, 58, 61]⟩ : ByteArray)[y]'y5).toNat_lt; omega
      have hcv := row_string (l := [q]) (ownsRow_one w2 5 (Value.int .u8 q)) (by intro x hx; simp at hx; omega)
      have hss : (strOf [q]).size = 1 := by rw [strOf_size]; rfl
      have htm : t.size ≤ 12 := by omega
      go_wp2_with fail
      go_roundw
      case rel => exact ⟨m', t ++ strOf [q], by go_num, rfl, by rw [ba_size_append, hss]; omega, hc2.alloc _, (hmr.trans hm2).alloc _⟩
      case measure => simp [intOf]
    · obtain rfl : m = 0 := by omega
      go_wp2_with fail
      refine (once1 g B 8 _ hcr (by omega)).mono ?_; rintro e w2 ⟨v, rfl, hc2, hm2⟩
      have hmw := hmr.trans hm2
      have htm : t.size ≤ 12 := by omega
      have hq1 : (⟨#[81]⟩ : ByteArray).size = 1 := rfl
      cases v
      · go_wp2_with fail
        refine (once1 g B 30 _ hc2 (by omega)).mono ?_; rintro e w3 ⟨v, rfl, hc3, hm3⟩
        cases v
        · go_wp2_with fail
          go_ret
          exact ⟨t, by omega, rfl, hc3, hmw.trans hm3⟩
        · obtain ⟨w4, z, hz, _, hmk, hcv, o, rfl⟩ := made200 w3
          go_wp2_with fail
          go_ret
          exact ⟨t ++ z, by rw [ba_size_append]; omega, rfl, hc3.alloc _, (hmw.trans hm3).alloc _⟩
      · obtain ⟨t2, ht2⟩ : ∃ t2 : ByteArray, t ++ ⟨#[81]⟩ = t2 := ⟨_, rfl⟩
        have htm2 : t2.size ≤ 13 := by rw [← ht2, ba_size_append, hq1]; omega
        go_wp2_with fail
        refine (once1 g B 30 _ hc2 (by omega)).mono ?_; rintro e w3 ⟨v, rfl, hc3, hm3⟩
        cases v
        · go_wp2_with fail
          go_ret
          exact ⟨t2, by omega, by rw [← ht2]; rfl, hc3, hmw.trans hm3⟩
        · obtain ⟨w4, z, hz, _, hmk, hcv, o, rfl⟩ := made200 w3
          go_wp2_with fail
          go_ret
          exact ⟨t2 ++ z, by rw [ba_size_append]; omega, by rw [← ht2]; rfl, hc3.alloc _, (hmw.trans hm3).alloc _⟩

theorem drawPacked (a : Option Addr) (len cap : Nat) (w : World) (hl : len ≤ 4096) (hcode : CodeAt w a len w.heap.size) :
    Calls Try.prog 17 #[.slice a len cap] w fun e w' => ∃ s : ByteArray, s.size ≤ 300 ∧ e = .returned (.string s) ∧ Below w.heap.size w w' := by
  go_enter Try.func17, Try.ntmps17
  go_wp2_with fail
  refine (new1 a len cap _ hl hcode).mono ?_; rintro x w1 ⟨g, rfl, hg, hc1, hb1⟩
  go_wp2_with fail
  refine (text4 g _ _ hc1).mono ?_; rintro x w2 ⟨t, ht, rfl, hc2, hm2⟩
  have hB2 : Below w.heap.size w w2 := hb1.trans (hm2.below hg hb1.size)
  go_wp2_with fail
  go_ret
  exact ⟨t, ht, rfl, hB2⟩
theorem drawLiteral (a : Option Addr) (len cap : Nat) (w : World) (hl : len ≤ 4096) (hcode : CodeAt w a len w.heap.size) :
    Calls Try.prog 10 #[.slice a len cap] w fun e w' => ∃ s : ByteArray, s.size ≤ 300 ∧ e = .returned (.string s) ∧ Below w.heap.size w w' := by
  go_enter Try.func10, Try.ntmps10
  go_wp2_with fail
  refine (drawPacked a len cap _ hl hcode).mono ?_; rintro x w2 ⟨t, ht, rfl, hB2⟩
  go_wp2_with fail
  go_ret
  exact ⟨t, ht, rfl, hB2⟩

theorem pkV_small (t : ByteArray) : (pkV t).1.size ≤ 126 := by
  unfold pkV
  split
  · rename_i h
    cases ho : (l4V t).2
    · have : l4V t = (⟨#[]⟩, false) := by
        unfold l4V at ho ⊢
        split at ho
        · cases ho
        · rename_i q; rw [if_neg q]
      rw [this]; exact Nat.zero_le _
    · rw [l4V_size ho]; omega
  · exact Nat.zero_le _
theorem litV_small (t : ByteArray) : (litV t).size ≤ 206 := by
  by_cases h : 200 < t.size
  · rw [litV_long h]; exact Nat.zero_le _
  · obtain ⟨m, x, p, e, hp, hm, hx, ho, _⟩ := lit_form (t := t) (by omega)
    rw [e, ba_size_append, hp]
    have := (law_size ho).2.1
    omega

set_option maxHeartbeats 1000000 in
theorem drawUnpacked (a : Option Addr) (len cap : Nat) (w : World) (hl : len ≤ 4096) (hcode : CodeAt w a len w.heap.size) :
    Calls Try.prog 19 #[.slice a len cap] w fun e w' => ∃ s : ByteArray, s.size ≤ 300 ∧ e = .returned (.string s) ∧ Below w.heap.size w w' := by
  go_enter Try.func19, Try.ntmps19
  go_wp2_with fail
  refine (new1 a len cap _ hl hcode).mono ?_; rintro x w1 ⟨g, rfl, hg, hc1, hb1⟩
  go_wp2_with fail
  refine (text4 g _ _ hc1).mono ?_; rintro x w2 ⟨t, ht, rfl, hc2, hm2⟩
  have hB2 : Below w.heap.size w w2 := hb1.trans (hm2.below hg hb1.size)
  go_wp2_with fail
  refine (specPacked t _ (by unfold maxLen; omega)).mono ?_; rintro x w3 ⟨rfl, hb3⟩
  have hB3 := bchain hB2 hb3
  have hps := pkV_small t
  go_wp2_with fail
  refine (once1 g _ 2 _ (hc2.below hb3) (by omega)).mono ?_; rintro x w4 ⟨v, rfl, hc4, hm4⟩
  have hB4 : Below w.heap.size w w4 := hB3.trans (hm4.below hg hB3.size)
  cases v
  · go_wp2_with fail
    go_ret
    exact ⟨_, by omega, rfl, hB4⟩
  · go_wp2_with fail
    refine (bend1 g _ _ _ _ hc4 (by omega) (by decide) (by decide)).mono ?_; rintro x w5 ⟨u, hu, rfl, hc5, hm5⟩
    have hB5 : Below w.heap.size w w5 := hB4.trans (hm5.below hg hB4.size)
    go_wp2_with fail
    go_ret
    exact ⟨u, by omega, rfl, hB5⟩

set_option maxHeartbeats 1000000 in
theorem drawReadLiteral (a : Option Addr) (len cap : Nat) (w : World) (hl : len ≤ 4096) (hcode : CodeAt w a len w.heap.size) :
    Calls Try.prog 12 #[.slice a len cap] w fun e w' => ∃ s : ByteArray, s.size ≤ 300 ∧ e = .returned (.string s) ∧ Below w.heap.size w w' := by
  go_enter Try.func12, Try.ntmps12
  go_wp2_with fail
  refine (new1 a len cap _ hl hcode).mono ?_; rintro x w1 ⟨g, rfl, hg, hc1, hb1⟩
  go_wp2_with fail
  refine (text4 g _ _ hc1).mono ?_; rintro x w2 ⟨t, ht, rfl, hc2, hm2⟩
  have hB2 : Below w.heap.size w w2 := hb1.trans (hm2.below hg hb1.size)
  go_wp2_with fail
  refine (specLiteral t _ (by unfold maxLen; omega)).mono ?_; rintro x w3 ⟨rfl, hb3⟩
  have hB3 := bchain hB2 hb3
  have hps := litV_small t
  go_wp2_with fail
  refine (text1 g _ 2 _ (hc2.below hb3) (by omega) (by omega)).mono ?_; rintro x w4 ⟨v, hv, rfl, hc4, hm4⟩
  have hB4 : Below w.heap.size w w4 := hB3.trans (hm4.below hg hB3.size)
  have hv2 : v.size ≤ 2 := by omega
  obtain ⟨S, hS⟩ : ∃ S, litV t ++ v = S := ⟨_, rfl⟩
  have hSs : S.size ≤ 208 := by rw [← hS, ba_size_append]; omega
  go_wp2_with fail
  refine (once1 g _ 2 _ hc4 (by omega)).mono ?_; rintro x w5 ⟨c, rfl, hc5, hm5⟩
  have hB5 : Below w.heap.size w w5 := hB4.trans (hm5.below hg hB4.size)
  cases c
  · go_wp2_with fail
    go_ret
    exact ⟨S, by omega, rfl, hB5⟩
  · go_wp2_with fail
    refine (bend1 g _ _ _ _ hc5 (by omega) (by decide) (by decide)).mono ?_; rintro x w6 ⟨u, hu, rfl, hc6, hm6⟩
    have hB6 : Below w.heap.size w w6 := hB5.trans (hm6.below hg hB5.size)
    go_wp2_with fail
    go_ret
    exact ⟨u, by omega, rfl, hB6⟩
end Go.Proofs.Ytiilmbbgngpleaa
