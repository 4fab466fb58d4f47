/- What the laws of tokens draw: digits, texts of a few. -/
import Derived.Test.YtnadephjbglcfaaGreatDoorTokSpec4
import Derived.Test.YtnadephjbglcfaaGreatDoorCurTurn
import Derived.Test.YtnadephjbglcfaaGreatDoorOpenCode

namespace Go.Proofs.YtnadephjbglcfaaGreatDoor
open Go.RowKit
set_option maxRecDepth 100000
set_option linter.unusedSimpArgs false
set_option linter.unusedVariables false
set_option maxHeartbeats 2000000 in
theorem lawDigits (n : Nat) (w : World) (hn : n ≤ 4611686018427387904) : Calls Tryz.prog 17 #[.int .i64 n] w fun x w' => x = .returned (.string (strOf (decL n))) ∧ Below w.heap.size w w' := by
  obtain ⟨A, hA⟩ : ∃ A, decL n = A := ⟨_, rfl⟩
  rw [hA]
  have HA := hide hA
  clear hA
  go_enter Tryz.func17, Tryz.ntmps17
  go_wp2_with fail
  go_loopw [0, 3] (fun v s wr => ∃ (m : Nat) (t : List Int), v = .int .i64 m ∧ m ≤ n ∧ t.length + m ≤ n + 1 ∧ s = .string (strOf t) ∧ Hid (∀ x ∈ t, 48 ≤ x ∧ x ≤ 57) ∧ Hid ((t = [] ∧ m = n) ∨ (t ≠ [] ∧ A = (if m = 0 then t else decL m ++ t))) ∧ Hid (Below w.heap.size w wr)) (fun v s _ => (intOf v).toNat + (match s with | .string s => (if s.size = 0 then 1 else 0) | _ => 0))
  case atStart => exact ⟨n, [], rfl, Nat.le_refl _, by simp, rfl, by show ∀ x ∈ [], _; simp, .inl ⟨rfl, rfl⟩, Below.refl _ _⟩
  case round =>
    obtain ⟨m, t, rfl, hm, htm, rfl, HT, HD, HB⟩ := hrel
    have hd0 : (0 : Int) ≤ ((m % 10 : Nat) : Int) ∧ ((m % 10 : Nat) : Int) ≤ 9 := by omega
    obtain ⟨dg, hdg⟩ : ∃ z : Int, ((m % 10 : Nat) : Int) = z := ⟨_, rfl⟩
    rw [hdg] at hd0
    have e1 : (m : Int).tmod 10 = dg := by rw [← hdg, Int.tmod_eq_emod_of_nonneg (by omega)]; omega
    have e2 : (m : Int).tdiv 10 = ((m / 10 : Nat) : Int) := by rw [Int.tdiv_eq_ediv_of_nonneg (by omega)]; omega
    obtain ⟨d0, d9⟩ := hd0
    have hcv := row_string (l := [48 + dg]) (ownsRow_one wr 5 (.int .u8 (48 + dg))) (by intro x hx; simp at hx; omega)
    have hcc : strOf [48 + dg] ++ strOf t = strOf ((48 + dg) :: t) := strOf_cons _ _ (by omega) (fun x hx => by have := HT.out x hx; omega)
    obtain ⟨t1, ht1⟩ : ∃ t1, strOf [48 + dg] = t1 := ⟨_, rfl⟩
    have h1s : t1.size = 1 := by rw [← ht1, strOf_size]; rfl
    rw [ht1] at hcv hcc
    have hsum : t1.size + (strOf t).size ≤ maxLen := by rw [h1s, strOf_size]; unfold maxLen; omega
    have hsumI : (t1.size : Int) + ((strOf t).size : Int) ≤ 9223372036854775807 := by unfold maxLen at hsum; omega
    have hm10 : t.length + 1 + m / 10 ≤ n + 1 ∨ m = 0 := by omega
    have HM10 := hide hm10
    clear hm10 h1s
    have HT2 : Hid (∀ x ∈ (48 + dg) :: t, 48 ≤ x ∧ x ≤ 57) := by
      show ∀ x ∈ _, _
      intro x hx
      rcases List.mem_cons.1 hx with rfl | h
      · omega
      · exact HT.out x h
    have hst : (strOf t).size = t.length := strOf_size t
    have HD2 : t = [] ∨ m ≠ 0 → Hid ((48 + dg) :: t ≠ [] ∧ A = (if m / 10 = 0 then (48 + dg) :: t else decL (m / 10) ++ ((48 + dg) :: t))) := by
      intro hc
      refine ⟨by simp, ?_⟩
      have hnx := dec_next m
      rw [hdg] at hnx
      rcases HD.out with ⟨rfl, rfl⟩ | ⟨hne, hA2⟩
      · rw [← HA.out, hnx]
      · have hm0 : m ≠ 0 := hc.resolve_left hne
        rw [hA2, if_neg hm0, hnx]
        split <;> simp
    have hlt : ((48 + dg) :: t).length = t.length + 1 := rfl
    have hsz2 : (strOf ((48 + dg) :: t)).size ≠ 0 := by rw [strOf_size]; simp
    rcases HD.out with ⟨rfl, rfl⟩ | ⟨hne, hA2⟩
    · have HD3 := hide (HD2 (.inl rfl))
      have e0 : strOf [] = (⟨#[]⟩ : ByteArray) := rfl
      have he : t1 ++ (⟨#[]⟩ : ByteArray) = strOf [48 + dg] := by rw [← ht1]; exact ba_append_nil _
      rw [e0]
      have HSZ := hide hsz2
      clear HD HD2 hdg ht1 hcc hst hlt hsz2 e0
      go_wp2_with fail
      go_roundw
      case rel => exact ⟨m / 10, [48 + dg], by go_num, by omega, by simp; omega, by first | rfl | rw [he] | simp [he], HT2, .inr HD3.out, hide (bo_alloc HB.out _)⟩
      case measure => have h2 := HSZ.out; simp only [intOf]; rw [if_neg (by first | exact h2 | (rw [he]; exact h2)), if_pos (show (⟨#[]⟩ : ByteArray).size = 0 from rfl)]; omega
    · by_cases hm0 : m = 0
      · subst hm0
        have HF : Hid (A = t) := by show A = t; rw [hA2, if_pos rfl]
        have hpos : 0 < (strOf t).size := by rw [hst]; exact List.length_pos_iff.2 hne
        have hl1 := list_ne hpos
        have hl2 := list_isEmpty hpos
        clear HD HD2 hcv hcc HT2 e1 e2 hst hsz2 hlt hA2
        go_wp2_with fail
        go_ret
        exact ⟨by rw [HF.out]; rfl, HB.out⟩
      · have HD3 := hide (HD2 (.inr hm0))
        have hpos : 0 < (strOf t).size := by rw [hst]; exact List.length_pos_iff.2 hne
        have hl1 := list_ne hpos
        have hl2 := list_isEmpty hpos
        have hm1 : (0 : Int) < m := by omega
        have HSZ := hide hsz2
        have HSP := hide hpos
        clear HD HD2 hdg ht1 hst hlt hsz2 hA2 hpos
        go_wp2_with fail
        go_roundw
        case rel => exact ⟨m / 10, (48 + dg) :: t, by go_num, by omega, by have := HM10.out; simp only [List.length_cons]; omega, rfl, HT2, .inr HD3.out, hide (bo_alloc HB.out _)⟩
        case measure => have h2 := HSP.out; simp only [intOf]; rw [if_neg HSZ.out, if_neg (by omega)]; omega
theorem drawMac (a : Option Addr) (len cap : Nat) (w : World) (hl : len ≤ 4096) (hcode : CodeAt w a len w.heap.size) :
    Calls Tryz.prog 10 #[.slice a len cap] w fun e w' => ∃ (x y : ByteArray), e = .returned (.tuple #[.string x, .string y]) ∧ x.size ≤ 100 ∧ y.size ≤ 100 ∧ Below w.heap.size w w' := by
  go_enter Tryz.func10, Tryz.ntmps10
  go_wp2_with fail
  refine (new1 a len cap _ hl hcode).mono ?_; rintro x w1 ⟨g, rfl, hg, hc1, hb1⟩
  go_wp2_with fail
  refine (text1 g _ 5 _ hc1 (by omega) (by omega)).mono ?_; rintro x w2 ⟨x2, hx2, rfl, hc2, hm2⟩
  go_wp2_with fail
  refine (text1 g _ 5 _ hc2 (by omega) (by omega)).mono ?_; rintro x w3 ⟨x3, hx3, rfl, hc3, hm3⟩
  go_wp2_with fail
  go_ret2
  exact ⟨x2, x3, rfl, by omega, by omega, (hb1.trans ((hm2.trans hm3).below (by omega) (by have := hb1.size; omega)))⟩
set_option maxHeartbeats 1000000 in
theorem drawName14 (g B : Nat) (w : World) (hc : Cur w g B) :
    Calls Tryz.prog 19 #[.pointer (some ⟨g, 0, none⟩)] w fun e w' => ∃ z : ByteArray, z.size ≤ 100 ∧ e = .returned (.string z) ∧ Cur w' g B ∧ Moves g w w' := by
  have hgw := hc.lt
  go_enter Tryz.func19, Tryz.ntmps19
  go_wp2_with fail
  refine (once1 g B 14 _ hc (by omega)).mono ?_; rintro e w1 ⟨v, rfl, hc1, hm1⟩
  have hg1 := hc1.lt
  cases v
  · go_wp2_with fail
    obtain ⟨VA, hVA⟩ : ∃ V, w1.alloc (.cells #[.string ⟨#[97, 110, 110, 97]⟩, .string ⟨#[98, 101, 114, 116]⟩] 9) = V := ⟨_, rfl⟩
    have RA : RowIs VA w1.heap.size 9 [.string ⟨#[97, 110, 110, 97]⟩, .string ⟨#[98, 101, 114, 116]⟩] := by rw [← hVA]; exact rowIs_new w1 _ _
    have hbA : Below w1.heap.size w1 VA := by rw [← hVA]; exact (Below.refl _ _).alloc (Nat.le_refl _) _
    rw [hVA]
    clear hVA
    refine (below1 g B 2 _ (hc1.below hbA) (by omega)).mono ?_; rintro e w2 ⟨q, q0, q1, _, rfl, hc2, hm2⟩
    have q6 := q1 (by omega)
    replace RA := RA.moves hm2 (by omega)
    obtain ⟨qn, rfl⟩ : ∃ n : Nat, q = n := ⟨q.toNat, by omega⟩
    obtain ⟨z, hz0, hz⟩ : ∃ z : ByteArray, z.size ≤ 100 ∧ w2.cell? ⟨w1.heap.size, qn, none⟩ = some (.string z) := by
      have : qn = 0 ∨ qn = 1 := by omega
      rcases this with rfl | rfl <;> exact ⟨_, by decide, RA.cell rfl⟩
    have hlA := RA.lt
    have hmm := (hm1.trans (Moves.of_below hbA)).trans hm2
    clear q1 RA hbA hm2 hm1
    go_wp2_with fail
    go_ret
    exact ⟨z, hz0, rfl, hc2, hmm⟩
  · go_wp2_with fail
    obtain ⟨VA, hVA⟩ : ∃ V, w1.alloc (.cells #[.string ⟨#[]⟩, .string ⟨#[65]⟩, .string ⟨#[97, 98, 99, 100, 101, 102, 103, 104, 105, 106, 107, 108, 109, 110, 111, 112, 113, 114, 115, 116]⟩, .string ⟨#[97, 98, 99, 100, 101, 102, 103, 104, 105, 106, 107, 108, 109, 110, 111, 112, 113, 114, 115, 116, 117]⟩, .string ⟨#[100, 111, 114, 97]⟩] 9) = V := ⟨_, rfl⟩
    have RA : RowIs VA w1.heap.size 9 [.string ⟨#[]⟩, .string ⟨#[65]⟩, .string ⟨#[97, 98, 99, 100, 101, 102, 103, 104, 105, 106, 107, 108, 109, 110, 111, 112, 113, 114, 115, 116]⟩, .string ⟨#[97, 98, 99, 100, 101, 102, 103, 104, 105, 106, 107, 108, 109, 110, 111, 112, 113, 114, 115, 116, 117]⟩, .string ⟨#[100, 111, 114, 97]⟩] := by rw [← hVA]; exact rowIs_new w1 _ _
    have hbA : Below w1.heap.size w1 VA := by rw [← hVA]; exact (Below.refl _ _).alloc (Nat.le_refl _) _
    rw [hVA]
    clear hVA
    refine (below1 g B 5 _ (hc1.below hbA) (by omega)).mono ?_; rintro e w2 ⟨q, q0, q1, _, rfl, hc2, hm2⟩
    have q6 := q1 (by omega)
    replace RA := RA.moves hm2 (by omega)
    obtain ⟨qn, rfl⟩ : ∃ n : Nat, q = n := ⟨q.toNat, by omega⟩
    obtain ⟨z, hz0, hz⟩ : ∃ z : ByteArray, z.size ≤ 100 ∧ w2.cell? ⟨w1.heap.size, qn, none⟩ = some (.string z) := by
      have : qn = 0 ∨ qn = 1 ∨ qn = 2 ∨ qn = 3 ∨ qn = 4 := by omega
      rcases this with rfl | rfl | rfl | rfl | rfl <;> exact ⟨_, by decide, RA.cell rfl⟩
    have hlA := RA.lt
    have hmm := (hm1.trans (Moves.of_below hbA)).trans hm2
    clear q1 RA hbA hm2 hm1
    go_wp2_with fail
    go_ret
    exact ⟨z, hz0, rfl, hc2, hmm⟩
end Go.Proofs.YtnadephjbglcfaaGreatDoor
