/- Chapter 14's model: a number's text, and a text's number. -/
import Derived.Test.YtfemmnhfllbgjaaGreatDoorTokSpec1
import Derived.Test.YtfemmnhfllbgjaaGreatDoorCur
import Derived.Deep.Cut
import Derived.Deep.DeepCutAuto

namespace Go.Proofs.YtfemmnhfllbgjaaGreatDoor
open Go.RowKit
set_option maxRecDepth 100000
set_option linter.unusedSimpArgs false
set_option linter.unusedVariables false
theorem dec_next (m : Nat) : decL m = if m / 10 = 0 then [48 + ((m % 10 : Nat) : Int)] else decL (m / 10) ++ [48 + ((m % 10 : Nat) : Int)] := by
  by_cases h : m < 10
  · rw [decL_one h, if_pos (by omega), Nat.mod_eq_of_lt h]
  · rw [decL_step h, if_neg (by omega)]
theorem strOf_cons (b : Int) (t : List Int) (hb : 0 ≤ b ∧ b ≤ 255) (ht : ∀ x ∈ t, 0 ≤ x ∧ x ≤ 255) : strOf [b] ++ strOf t = strOf (b :: t) := by
  refine bys_inj ?_
  rw [bys_append, bys_strOf (by intro x hx; simp at hx; omega), bys_strOf ht, bys_strOf (by intro x hx; rcases List.mem_cons.1 hx with rfl | h; exact hb; exact ht x h)]
  rfl
set_option maxHeartbeats 2000000 in
theorem specInt (n : Nat) (w : World) (hn : n ≤ 4611686018427387904) : Calls Tryz.prog 77 #[.int .i64 n] w fun x w' => x = .returned (.string (strOf (decL n))) ∧ Below w.heap.size w w' := by
  obtain ⟨A, hA⟩ : ∃ A, decL n = A := ⟨_, rfl⟩
  rw [hA]
  have HA := hide hA
  clear hA
  have hneg : decide ((n : Int) < 0) = false := decide_eq_false (by omega)
  go_enter Tryz.func77, Tryz.ntmps77
  go_wp2_with fail
  go_loopw [0, 3] (fun v s wr => ∃ (m : Nat) (t : List Int), v = .int .i64 m ∧ m ≤ n ∧ t.length + m ≤ n + 1 ∧ s = .string (strOf t) ∧ Hid (∀ x ∈ t, 48 ≤ x ∧ x ≤ 57) ∧ Hid ((t = [] ∧ m = n) ∨ (t ≠ [] ∧ A = (if m = 0 then t else decL m ++ t))) ∧ Hid (Below w.heap.size w wr)) (fun v s _ => (intOf v).toNat + (match s with | .string s => (if s.size = 0 then 1 else 0) | _ => 0))
  case atStart => exact ⟨n, [], rfl, Nat.le_refl _, by simp, rfl, by show ∀ x ∈ [], _; simp, .inl ⟨rfl, rfl⟩, Below.refl _ _⟩
  case round =>
    obtain ⟨m, t, rfl, hm, htm, rfl, HT, HD, HB⟩ := hrel
    have hd0 : (0 : Int) ≤ ((m % 10 : Nat) : Int) ∧ ((m % 10 : Nat) : Int) ≤ 9 := by omega
    obtain ⟨dg, hdg⟩ : ∃ z : Int, ((m % 10 : Nat) : Int) = z := ⟨_, rfl⟩
    rw [hdg] at hd0
    have e1 : (m : Int).tmod 10 = dg := by rw [← hdg, Int.tmod_eq_emod_of_nonneg (by omega)]; omega
    have e2 : (m : Int).tdiv 10 = ((m / 10 : Nat) : Int) := by rw [Int.tdiv_eq_ediv_of_nonneg (by omega)]; omega
    obtain ⟨d0, d9⟩ := hd0
    have hcv := row_string (l := [48 + dg]) (ownsRow_one wr 5 (.int .u8 (48 + dg))) (by intro x hx; simp at hx; omega)
    have hcc : strOf [48 + dg] ++ strOf t = strOf ((48 + dg) :: t) := strOf_cons _ _ (by omega) (fun x hx => by have := HT.out x hx; omega)
    obtain ⟨t1, ht1⟩ : ∃ t1, strOf [48 + dg] = t1 := ⟨_, rfl⟩
    have h1s : t1.size = 1 := by rw [← ht1, strOf_size]; rfl
    rw [ht1] at hcv hcc
    have hsum : t1.size + (strOf t).size ≤ maxLen := by rw [h1s, strOf_size]; unfold maxLen; omega
    have hsumI : (t1.size : Int) + ((strOf t).size : Int) ≤ 9223372036854775807 := by unfold maxLen at hsum; omega
    have hm10 : t.length + 1 + m / 10 ≤ n + 1 ∨ m = 0 := by omega
    have HM10 := hide hm10
    clear hm10 h1s
    have HT2 : Hid (∀ x ∈ (48 + dg) :: t, 48 ≤ x ∧ x ≤ 57) := by
      show ∀ x ∈ _, _
      intro x hx
      rcases List.mem_cons.1 hx with rfl | h
      · omega
      · exact HT.out x h
    have hst : (strOf t).size = t.length := strOf_size t
    have HD2 : t = [] ∨ m ≠ 0 → Hid ((48 + dg) :: t ≠ [] ∧ A = (if m / 10 = 0 then (48 + dg) :: t else decL (m / 10) ++ ((48 + dg) :: t))) := by
      intro hc
      refine ⟨by simp, ?_⟩
      have hnx := dec_next m
      rw [hdg] at hnx
      rcases HD.out with ⟨rfl, rfl⟩ | ⟨hne, hA2⟩
      · rw [← HA.out, hnx]
      · have hm0 : m ≠ 0 := hc.resolve_left hne
        rw [hA2, if_neg hm0, hnx]
        split <;> simp
    have hlt : ((48 + dg) :: t).length = t.length + 1 := rfl
    have hsz2 : (strOf ((48 + dg) :: t)).size ≠ 0 := by rw [strOf_size]; simp
    rcases HD.out with ⟨rfl, rfl⟩ | ⟨hne, hA2⟩
    · have HD3 := hide (HD2 (.inl rfl))
      have e0 : strOf [] = (⟨#[]⟩ : ByteArray) := rfl
      have he : t1 ++ (⟨#[]⟩ : ByteArray) = strOf [48 + dg] := by rw [← ht1]; exact ba_append_nil _
      rw [e0]
      have HSZ := hide hsz2
      clear HD HD2 hdg ht1 hcc hst hlt hsz2 e0
      go_wp2_with fail
      go_roundw
      case rel => exact ⟨m / 10, [48 + dg], by go_num, by omega, by simp; omega, by first | rfl | rw [he] | simp [he], HT2, .inr HD3.out, hide (bo_alloc HB.out _)⟩
      case measure => have h2 := HSZ.out; simp only [intOf]; rw [if_neg (by first | exact h2 | (rw [he]; exact h2)), if_pos (show (⟨#[]⟩ : ByteArray).size = 0 from rfl)]; omega
    · by_cases hm0 : m = 0
      · subst hm0
        have HF : Hid (A = t) := by show A = t; rw [hA2, if_pos rfl]
        have hpos : 0 < (strOf t).size := by rw [hst]; exact List.length_pos_iff.2 hne
        have hl1 := list_ne hpos
        have hl2 := list_isEmpty hpos
        clear HD HD2 hcv hcc HT2 e1 e2 hst hsz2 hlt hA2
        go_wp2_with fail
        go_ret
        exact ⟨by rw [HF.out]; rfl, HB.out⟩
      · have HD3 := hide (HD2 (.inr hm0))
        have hpos : 0 < (strOf t).size := by rw [hst]; exact List.length_pos_iff.2 hne
        have hl1 := list_ne hpos
        have hl2 := list_isEmpty hpos
        have hm1 : ((m : Int) != 0) = true := by simp; omega
        have HSZ := hide hsz2
        have HSP := hide hpos
        clear HD HD2 hdg ht1 hst hlt hsz2 hA2 hpos
        go_wp2_with fail
        go_roundw
        case rel => exact ⟨m / 10, (48 + dg) :: t, by go_num, by omega, by have := HM10.out; simp only [List.length_cons]; omega, rfl, HT2, .inr HD3.out, hide (bo_alloc HB.out _)⟩
        case measure => have h2 := HSP.out; simp only [intOf]; rw [if_neg HSZ.out, if_neg (by omega)]; omega
theorem val_bound {l : List Int} (h : ∀ x ∈ l, 48 ≤ x ∧ x ≤ 57) : 0 ≤ valL 0 l ∧ valL 0 l < 10 ^ l.length := by
  have key : ∀ (l : List Int) (n : Int), (∀ x ∈ l, 48 ≤ x ∧ x ≤ 57) → 0 ≤ n → 0 ≤ valL n l ∧ valL n l < (n + 1) * 10 ^ l.length := by
    intro l
    induction l with
    | nil => intro n _ hn; simp only [valL, List.length_nil]; omega
    | cons x l ih =>
      intro n hx hn
      have h1 := hx x (by simp)
      have h2 := ih (n * 10 + (x - 48)) (fun y hy => hx y (by simp [hy])) (by omega)
      refine ⟨h2.1, ?_⟩
      simp only [valL, List.length_cons]
      have h3 : (n * 10 + (x - 48) + 1) * (10 : Int) ^ l.length ≤ ((n + 1) * 10) * 10 ^ l.length := Int.mul_le_mul_of_nonneg_right (by omega) (Int.pow_nonneg (by decide))
      have h4 : (n + 1) * (10 : Int) ^ (l.length + 1) = ((n + 1) * 10) * 10 ^ l.length := by rw [Int.pow_succ, Int.mul_comm ((10 : Int) ^ l.length) 10, Int.mul_assoc]
      omega
  have := key l 0 h (by decide)
  simpa using this
theorem val_small {l : List Int} (h : ∀ x ∈ l, 48 ≤ x ∧ x ≤ 57) (hl : l.length ≤ 10) : 0 ≤ valL 0 l ∧ valL 0 l ≤ 10000000000 := by
  have := val_bound h
  have h2 : (10 : Int) ^ l.length ≤ 10 ^ 10 := by
    have h := Int.ofNat_le.2 (Nat.pow_le_pow_right (n := 10) (by decide) hl)
    rw [Int.natCast_pow, Int.natCast_pow] at h
    exact h
  have h3 : (10 : Int) ^ 10 = 10000000000 := by decide
  omega
theorem byte_at {s : ByteArray} {k : Nat} (h : k < s.size) : (bys s)[k]? = some (s[k].toNat : Int) := by
  have hl : k < (bys s).length := by rw [bys_len]; exact h
  rw [List.getElem?_eq_getElem hl]
  simp [bys]; rfl
theorem val_take {l : List Int} {k : Nat} {b : Int} (h : l[k]? = some b) : valL 0 (l.take (k + 1)) = valL 0 (l.take k) * 10 + (b - 48) := by
  rw [List.take_add_one, h, valL_app]; rfl
set_option maxHeartbeats 4000000 in
theorem digits14 (s : ByteArray) (off most : Nat) (neg : Bool) (w : World) (hs : s.size ≤ maxLen) (ho : off ≤ 1) (hoff : off ≤ s.size) (hm1 : most ≤ 10)
    (hneg : (neg = true ∧ off = 1 ∧ 0 < s.size ∧ (bys s).head? = some 45) ∨ (neg = false ∧ off = 0 ∧ (bys s).head? ≠ some 45)) :
    Calls Tryz.prog 66 #[.string s, .int .i64 most] w fun x w' => x = .returned (.tuple #[.int .i64 (digL neg ((bys s).drop off) most).1, .bool (digL neg ((bys s).drop off) most).2]) ∧ w' = w := by
  unfold maxLen at hs
  obtain ⟨l, hl⟩ : ∃ l, (bys s).drop off = l := ⟨_, rfl⟩
  have hll : l.length + off = s.size := by rw [← hl, List.length_drop, bys_len]; omega
  have hat : ∀ k (h : off + k < s.size), l[k]? = some ((s[off + k]).toNat : Int) := fun k h => by rw [← hl, List.getElem?_drop]; exact byte_at h
  obtain ⟨A, hA⟩ : ∃ A, digL neg l most = A := ⟨_, rfl⟩
  rw [hl, hA]
  have HA := hide hA; have HAT := hide hat; have HLL := hide hll
  clear hA hat hl hll
  have hd : ∀ (h : 0 < s.size), neg = true ∨ (((s[0].toNat : Int) == 45) = false) := fun h => by
    rcases hneg with h1 | h1
    · exact .inl h1.1
    · right
      have := byte_at h
      have e : (bys s).head? = some (s[0].toNat : Int) := by rw [List.head?_eq_getElem?]; exact this
      rw [e] at h1
      simpa using h1.2.2
  go_enter Tryz.func66, Tryz.ntmps66
  go_upto_region 3 with fail
  go_cut [11, 12, 13, 14, 15, 16] (fun _ _ _ _ _ b wc => b = .bool neg ∧ wc = w)
  case first =>
    by_cases h0 : 0 < s.size
    · have hl1 := list_ne h0
      have hl2 := list_isEmpty h0
      have h0I : (0 : Int) < s.size := by omega
      have hb := byte_at h0
      have e : (bys s).head? = some (s[0].toNat : Int) := by rw [List.head?_eq_getElem?]; exact hb
      rcases hneg with ⟨rfl, -, -, h45⟩ | ⟨rfl, -, h45⟩
      · have hq : (s[0].toNat : Int) = 45 := by rw [e] at h45; simpa using h45
        have hq2 : ((s[0].toNat : Int) == 45) = true := by simp [hq]
        clear hb e h45 hd
        go_wp2_with fail
        go_meet
        case rel => first | exact ⟨rfl, rfl⟩ | (simp [hq])
      · have hq2 : ((s[0].toNat : Int) == 45) = false := by rw [e] at h45; simpa using h45
        clear hb e h45 hd
        go_wp2_with fail
        go_meet
        case rel => first | exact ⟨rfl, rfl⟩ | (simp [hq2])
    · have hs0 : s = ⟨#[]⟩ := ba_empty (by omega)
      have hnf : neg = false := by
        rcases hneg with ⟨_, _, h, _⟩ | ⟨h, _⟩
        · omega
        · exact h
      subst hnf hs0
      go_wp2_with fail
      go_meet
      case rel => exact ⟨rfl, rfl⟩
  case rest =>
    obtain ⟨rfl, rfl⟩ := hcut
    clear hd
    go_upto_if 16 with fail
    go_cut [6, 7, 16] (fun a b c wx => a = .int .i64 off ∧ b = .bool neg ∧ wx = wc)
    case first =>
      rcases hneg with ⟨rfl, rfl, -, -⟩ | ⟨rfl, rfl, -⟩
      · go_wp2_with fail
        go_meet
        case rel => exact ⟨rfl, rfl, rfl⟩
      · go_wp2_with fail
        go_meet
        case rel => exact ⟨rfl, rfl, rfl⟩
    case rest =>
      obtain ⟨rfl, rfl, rfl⟩ := hcut
      have hln := HLL.out
      have elen : IntKind.i64.wrap ((s.size : Int) - off) = (l.length : Int) := by rw [IntKind.wrap_i64]; omega
      by_cases h1 : (l.length : Int) < 1
      · have HF : Hid (A = (0, false)) := by show A = _; rw [← HA.out]; unfold digL; rw [if_pos (.inl (by omega))]
        go_wp2_with fail
        go_ret2
        rw [HF.out]
        exact ⟨rfl, rfl⟩
      by_cases h2 : (most : Int) < l.length
      · have HF : Hid (A = (0, false)) := by show A = _; rw [← HA.out]; unfold digL; rw [if_pos (.inr (by omega))]
        go_wp2_with fail
        go_ret2
        rw [HF.out]
        exact ⟨rfl, rfl⟩
      have hl1 : 1 ≤ l.length := by omega
      have hl10 : l.length ≤ most := by omega
      have HD : Hid (A = (if l.all (fun b => inB b 48 57) = false then (0, false) else if l.head? = some 48 ∧ (neg = true ∨ 1 < l.length) then (0, false) else (if neg = true then - valL 0 l else valL 0 l, true))) := by show A = _; rw [← HA.out]; unfold digL; rw [if_neg (by omega)]
      clear HA
      go_wp2_with fail
      go_loop [8, 9] (fun n i => ∃ k : Nat, i = .int .i64 ((off + k : Nat) : Int) ∧ k ≤ l.length ∧ n = .int .i64 (valL 0 (l.take k)) ∧ Hid (∀ x ∈ l.take k, 48 ≤ x ∧ x ≤ 57)) (fun _ i => s.size - (intOf i).toNat)
      case atStart => exact ⟨0, by simp, by omega, by simp [valL], by show ∀ x ∈ l.take 0, _; simp⟩
      case round =>
        obtain ⟨k, rfl, hk, rfl, HN⟩ := hrel
        by_cases hlt : k < l.length
        · have hos : off + k < s.size := by omega
          have hosI : ((off + k : Nat) : Int) < s.size := by omega
          have hb := HAT.out k hos
          obtain ⟨b, hbe⟩ : ∃ b, (s[off + k].toNat : Int) = b := ⟨_, rfl⟩
          have hb0 : 0 ≤ b ∧ b ≤ 255 := by have := s[off + k].toNat_lt; omega
          rw [hbe] at hb
          have hvt := val_take hb
          have hvs := val_small HN.out (by rw [List.length_take]; omega)
          obtain ⟨v, hv⟩ : ∃ v, valL 0 (l.take k) = v := ⟨_, rfl⟩
          rw [hv] at hvt hvs ⊢
          have hbm : b ∈ l := by obtain ⟨h9, e⟩ := List.getElem?_eq_some_iff.1 hb; rw [← e]; exact List.getElem_mem h9
          have HBE := hide hbe
          by_cases g1 : b < 48
          · have HF : Hid (A = (0, false)) := by
              show A = _
              rw [HD.out, if_pos (List.all_eq_false.2 ⟨b, hbm, by rw [inB_not (by omega)]; simp⟩)]
            clear hb hvt hv hbm
            go_wp2_with fail
            go_ret2
            rw [HF.out]
            exact ⟨rfl, rfl⟩
          by_cases g2 : 57 < b
          · have HF : Hid (A = (0, false)) := by
              show A = _
              rw [HD.out, if_pos (List.all_eq_false.2 ⟨b, hbm, by rw [inB_not (by omega)]; simp⟩)]
            clear hb hvt hv hbm
            go_wp2_with fail
            go_ret2
            rw [HF.out]
            exact ⟨rfl, rfl⟩
          have HN2 : Hid (∀ x ∈ l.take (k + 1), 48 ≤ x ∧ x ≤ 57) := by
            show ∀ x ∈ _, _
            intro x hx
            rw [List.take_add_one, hb] at hx
            rcases List.mem_append.1 hx with h | h
            · exact HN.out x h
            · simp at h; omega
          have HVT := hide hvt
          have e1 : IntKind.i64.wrap (v * 10) = v * 10 := by rw [IntKind.wrap_i64]; omega
          have e2 : IntKind.u8.wrap (b - 48) = b - 48 := by unfold IntKind.wrap; simp [IntKind.signed, IntKind.bits]; omega
          have e3 : IntKind.i64.wrap (v * 10 + (b - 48)) = v * 10 + (b - 48) := by rw [IntKind.wrap_i64]; omega
          clear hb hvt hv hbm
          go_wp2_with fail
          go_round
          case rel => exact ⟨k + 1, by go_num, by omega, by rw [HVT.out], HN2⟩
          case measure => simp [intOf]; omega
        · obtain rfl : k = l.length := by omega
          have hosI : ¬ ((off + l.length : Nat) : Int) < s.size := by omega
          have htk : l.take l.length = l := List.take_of_length_le (Nat.le_refl _)
          rw [htk] at HN ⊢
          have HD2 : Hid (A = (if l.head? = some 48 ∧ (neg = true ∨ 1 < l.length) then (0, false) else (if neg = true then - valL 0 l else valL 0 l, true))) := by
            show A = _
            rw [HD.out, if_neg]
            intro c
            obtain ⟨x, hx, hq⟩ := List.all_eq_false.1 c
            have := HN.out x hx
            rw [inB_of this.1 this.2] at hq
            simp at hq
          have hvs := val_small HN.out (by omega)
          have h0s : off < s.size := by omega
          have h0I : (off : Int) < s.size := by omega
          have hb := HAT.out 0 (by omega)
          simp only [Nat.add_zero] at hb
          obtain ⟨b, hbe⟩ : ∃ b, (s[off].toNat : Int) = b := ⟨_, rfl⟩
          rw [hbe] at hb
          have hhd : l.head? = some b := by rw [List.head?_eq_getElem?]; exact hb
          rw [hhd] at HD2
          obtain ⟨v, hv⟩ : ∃ v, valL 0 l = v := ⟨_, rfl⟩
          rw [hv] at hvs HD2 ⊢
          obtain ⟨v0, v1⟩ := hvs
          have HBE := hide hbe
          have hs1 : neg = true ∨ (1 < (s.size : Int) ↔ 1 < l.length) := by
            rcases hneg with ⟨h, _⟩ | ⟨_, h, _⟩
            · exact .inl h
            · right; omega
          have wn : IntKind.i64.wrap (-v) = -v := by rw [IntKind.wrap_i64]; omega
          clear hb hhd hv htk HD
          by_cases b48 : b = 48
          · subst b48
            cases neg with
            | true =>
              have HF : Hid (A = (0, false)) := by show A = _; rw [HD2.out, if_pos ⟨rfl, .inl rfl⟩]
              go_wp2_with fail
              go_ret2
              rw [HF.out]
              exact ⟨rfl, rfl⟩
            | false =>
              have hs2 := hs1.resolve_left (by simp)
              by_cases h9 : (1 : Int) < s.size
              · have HF : Hid (A = (0, false)) := by show A = _; rw [HD2.out, if_pos ⟨rfl, .inr (hs2.1 h9)⟩]
                clear hs1 hs2
                go_wp2_with fail
                go_ret2
                rw [HF.out]
                exact ⟨rfl, rfl⟩
              · have HF : Hid (A = (v, true)) := by show A = _; rw [HD2.out, if_neg (by rintro ⟨_, h | h⟩; cases h; exact h9 (hs2.2 h)), if_neg (by simp)]
                clear hs1 hs2
                go_wp2_with fail
                go_ret2
                rw [HF.out]
                exact ⟨rfl, rfl⟩
          · have hbq : (b == 48) = false := by simpa using b48
            cases neg with
            | true =>
              have HF : Hid (A = (-v, true)) := by show A = _; rw [HD2.out, if_neg (by rintro ⟨h, _⟩; exact b48 (by simpa using h)), if_pos rfl]
              clear hs1
              go_wp2_with fail
              go_ret2
              rw [HF.out]
              exact ⟨rfl, rfl⟩
            | false =>
              have HF : Hid (A = (v, true)) := by show A = _; rw [HD2.out, if_neg (by rintro ⟨h, _⟩; exact b48 (by simpa using h)), if_neg (by simp)]
              clear hs1
              go_wp2_with fail
              go_ret2
              rw [HF.out]
              exact ⟨rfl, rfl⟩
theorem specDigits (s : ByteArray) (most : Nat) (w : World) (hs : s.size ≤ maxLen) (hm1 : most ≤ 10) : Calls Tryz.prog 66 #[.string s, .int .i64 most] w fun x w' => x = .returned (.tuple #[.int .i64 (digV s most).1, .bool (digV s most).2]) ∧ w' = w := by
  by_cases h : (bys s).head? = some 45
  · have h0 : 0 < s.size := by
      rw [← bys_len]
      cases hb : bys s with
      | nil => rw [hb] at h; simp at h
      | cons x l => simp
    have := digits14 s 1 most true w hs (by omega) (by omega) hm1 (.inl ⟨rfl, rfl, h0, h⟩)
    unfold digV
    rw [if_pos h]
    exact this
  · have := digits14 s 0 most false w hs (by omega) (by omega) hm1 (.inr ⟨rfl, rfl, h⟩)
    rw [List.drop_zero] at this
    unfold digV
    rw [if_neg h]
    exact this
theorem specReadT (s : ByteArray) (w : World) (hs : s.size ≤ maxLen) : Calls Tryz.prog 65 #[.string s] w fun x w' => x = .returned (.tuple #[.int .i64 (digV s 9).1, .bool (digV s 9).2]) ∧ w' = w := by
  go_enter Tryz.func65, Tryz.ntmps65
  go_wp2_with fail
  refine (specDigits s 9 _ hs (by decide)).mono ?_; rintro e w1 ⟨rfl, hsame⟩; obtain rfl := hsame.symm; clear hsame
  go_wp2_with fail
  go_ret2
  exact ⟨rfl, rfl⟩
end Go.Proofs.YtfemmnhfllbgjaaGreatDoor
