/- Chapter 14's model: times, names, the mac, a number's text. -/
import Derived.Test.YtfemmnhfllbgjaaGreatDoorTokMath
import Derived.Test.YtfemmnhfllbgjaaGreatDoorHeapRows
import Derived.Test.YtfemmnhfllbgjaaGreatDoorLater
import Derived.Test.YtfemmnhfllbgjaaGreatDoorRowIs
import Derived.Deep.Cut
import Derived.Deep.DeepCutAuto

namespace Go.Proofs.YtfemmnhfllbgjaaGreatDoor
open Go.RowKit
set_option maxRecDepth 100000
set_option linter.unusedSimpArgs false
set_option linter.unusedVariables false
theorem specTime14 (t : Int) (w : World) : Calls Tryz.prog 37 #[.int .i64 t] w fun e w' => e = .returned (.bool (timeB t)) ∧ w' = w := by
  go_enter Tryz.func37, Tryz.ntmps37
  go_wp2_with fail
  refine (specIn _ _ _ _).mono ?_; rintro e w1 ⟨rfl, hsame⟩; obtain rfl := hsame.symm; clear hsame
  go_wp2_with fail
  go_ret
  exact ⟨rfl, rfl⟩
theorem nameB_no {s : ByteArray} {k : Nat} (hk : k < s.size) (h : ¬ (97 ≤ (s[k].toNat : Int) ∧ (s[k].toNat : Int) ≤ 122)) : nameB s = false := by
  unfold nameB
  have : (bys s).all (fun b => inB b 97 122) = false := by
    refine List.all_eq_false.2 ⟨(s[k].toNat : Int), ?_, ?_⟩
    · have := bys_drop s k hk
      exact List.mem_of_mem_drop (by rw [this]; simp)
    · rw [inB_not h]; simp
  rw [this]; rfl
theorem nameB_yes {s : ByteArray} (h : ∀ j (hj : j < s.size), 97 ≤ (s[j].toNat : Int) ∧ (s[j].toNat : Int) ≤ 122) : nameB s = inB (s.size : Int) 1 20 := by
  unfold nameB
  have : (bys s).all (fun b => inB b 97 122) = true := by
    refine List.all_eq_true.2 fun x hx => ?_
    obtain ⟨j, hj, rfl⟩ := List.mem_iff_getElem.1 hx
    have hj' : j < s.size := by rw [bys_len] at hj; exact hj
    have e : (bys s)[j] = (s[j].toNat : Int) := by simp [bys]; rfl
    rw [e]
    exact inB_of (h j hj').1 (h j hj').2
  rw [this]; simp
set_option maxHeartbeats 1000000 in
theorem specName (s : ByteArray) (w : World) (hs : s.size ≤ maxLen) : Calls Tryz.prog 45 #[.string s] w fun x w' => x = .returned (.bool (nameB s)) ∧ Below w.heap.size w w' := by
  unfold maxLen at hs
  obtain ⟨A, hA⟩ : ∃ A, nameB s = A := ⟨_, rfl⟩
  rw [hA]
  have HA := hide hA
  clear hA
  go_enter Tryz.func45, Tryz.ntmps45
  go_wp2_with fail
  go_loop [3] (fun i => ∃ k : Nat, i = .int .i64 k ∧ k ≤ s.size ∧ Hid (∀ j (hj : j < s.size), j < k → 97 ≤ (s[j].toNat : Int) ∧ (s[j].toNat : Int) ≤ 122)) (fun i => s.size - (intOf i).toNat)
  case atStart => exact ⟨0, rfl, Nat.zero_le _, fun j _ hj => absurd hj (Nat.not_lt_zero _)⟩
  case round =>
    obtain ⟨k, rfl, hk, HN⟩ := hrel
    by_cases hlt : k < s.size
    · have hltI : (k : Int) < s.size := by omega
      obtain ⟨b, hb⟩ : ∃ b, (s[k].toNat : Int) = b := ⟨_, rfl⟩
      have hb0 : 0 ≤ b ∧ b ≤ 255 := by have := s[k].toNat_lt; omega
      have HB := hide hb
      by_cases h1 : b < 97
      · have HF : Hid (A = false) := by show A = false; rw [← HA.out]; exact nameB_no hlt (by rw [hb]; omega)
        go_wp2_with fail
        go_ret
        exact ⟨by rw [HF.out]; rfl, (by repeat' (first | (with_reducible exact Below.refl _ _) | (with_reducible refine Below.drew ?_) | (with_reducible refine bo_drewN _ ?_) | (with_reducible refine bo_alloc ?_ _) | (refine bchain ?_ (by with_reducible assumption)) | (with_reducible refine Below.setCell ?_ ?_ _) | go_size))⟩
      · by_cases h2 : 122 < b
        · have HF : Hid (A = false) := by show A = false; rw [← HA.out]; exact nameB_no hlt (by rw [hb]; omega)
          go_wp2_with fail
          go_ret
          exact ⟨by rw [HF.out]; rfl, (by repeat' (first | (with_reducible exact Below.refl _ _) | (with_reducible refine Below.drew ?_) | (with_reducible refine bo_drewN _ ?_) | (with_reducible refine bo_alloc ?_ _) | (refine bchain ?_ (by with_reducible assumption)) | (with_reducible refine Below.setCell ?_ ?_ _) | go_size))⟩
        · have HN2 : Hid (∀ j (hj : j < s.size), j < k + 1 → 97 ≤ (s[j].toNat : Int) ∧ (s[j].toNat : Int) ≤ 122) := fun j hj hjk => by
            by_cases e : j = k
            · subst e; rw [HB.out]; omega
            · exact HN.out j hj (by omega)
          go_wp2_with fail
          go_round
          case rel => exact ⟨k + 1, by go_num, by omega, HN2⟩
          case measure => simp [intOf]; omega
    · obtain rfl : k = s.size := by omega
      have HF : Hid (A = inB (s.size : Int) 1 20) := by show A = _; rw [← HA.out]; exact nameB_yes (fun j hj => HN.out j hj hj)
      by_cases h1 : (1 : Int) ≤ s.size
      · by_cases h2 : (s.size : Int) ≤ 20
        · have e : inB (s.size : Int) 1 20 = true := inB_of h1 h2
          go_wp2_with fail
          go_ret
          exact ⟨by rw [HF.out, e]; rfl, (by repeat' (first | (with_reducible exact Below.refl _ _) | (with_reducible refine Below.drew ?_) | (with_reducible refine bo_drewN _ ?_) | (with_reducible refine bo_alloc ?_ _) | (refine bchain ?_ (by with_reducible assumption)) | (with_reducible refine Below.setCell ?_ ?_ _) | go_size))⟩
        · have e : inB (s.size : Int) 1 20 = false := inB_not (by omega)
          go_wp2_with fail
          go_ret
          exact ⟨by rw [HF.out, e]; rfl, (by repeat' (first | (with_reducible exact Below.refl _ _) | (with_reducible refine Below.drew ?_) | (with_reducible refine bo_drewN _ ?_) | (with_reducible refine bo_alloc ?_ _) | (refine bchain ?_ (by with_reducible assumption)) | (with_reducible refine Below.setCell ?_ ?_ _) | go_size))⟩
      · have e : inB (s.size : Int) 1 20 = false := inB_not (by omega)
        go_wp2_with fail
        go_ret
        exact ⟨by rw [HF.out, e]; rfl, (by repeat' (first | (with_reducible exact Below.refl _ _) | (with_reducible refine Below.drew ?_) | (with_reducible refine bo_drewN _ ?_) | (with_reducible refine bo_alloc ?_ _) | (refine bchain ?_ (by with_reducible assumption)) | (with_reducible refine Below.setCell ?_ ?_ _) | go_size))⟩
theorem mac_take {h : Int} {s : ByteArray} {k : Nat} (hk : k < s.size) : macL h ((bys s).take (k + 1)) = macS (macL h ((bys s).take k)) (s[k].toNat : Int) := by
  have hl : k < (bys s).length := by rw [bys_len]; exact hk
  have e : (bys s)[k] = (s[k].toNat : Int) := by simp [bys]; rfl
  rw [List.take_add_one, List.getElem?_eq_getElem hl, e, macL_app]; rfl
def partL (P : List ByteArray) : List Int := P.flatMap bys
set_option maxHeartbeats 2000000 in
theorem specMac (key text : ByteArray) (w : World) (hk : key.size ≤ maxLen) (ht : text.size ≤ maxLen) : Calls Tryz.prog 78 #[.string key, .string text] w fun x w' => x = .returned (.int .i64 (macV key text)) ∧ Below w.heap.size w w' := by
  unfold maxLen at hk ht
  obtain ⟨nl, hnl⟩ : ∃ nl : ByteArray, nl = ⟨#[10]⟩ := ⟨_, rfl⟩
  have hnb : bys nl = [10] := by rw [hnl]; rfl
  have hns : nl.size = 1 := by rw [hnl]; rfl
  obtain ⟨P, hP⟩ : ∃ P : List ByteArray, P = [key, nl, text, nl, key] := ⟨_, rfl⟩
  have HV : Hid (macV key text = macL 17 (partL P)) := by show _ = _; unfold macV partL; rw [hP]; simp [hnb]
  have hPs : ∀ x ∈ P, x.size ≤ 9223372036854775807 := by rw [hP]; intro x hx; simp at hx; rcases hx with rfl | rfl | rfl | rfl | rfl <;> omega
  have HPS := hide hPs
  have hPl : P.length = 5 := by rw [hP]; rfl
  have HPL := hide hPl
  have hcs : ∀ j : Nat, [Value.string key, .string nl, .string text, .string nl, .string key][j]? = (P[j]?).map Value.string := by
    intro j
    rw [hP]
    exact List.getElem?_map (f := Value.string) (l := [key, nl, text, nl, key]) (i := j)
  have HCS := hide hcs
  obtain ⟨A, hA⟩ : ∃ A, macV key text = A := ⟨_, rfl⟩
  rw [hA] at HV ⊢
  clear hA hP hPs hPl hcs hnb hns
  go_enter Tryz.func78, Tryz.ntmps78
  go_upto_region 3 with fail
  have e10 : (⟨#[10]⟩ : ByteArray) = nl := hnl.symm
  have hX : RowIs (w.alloc (.cells #[.string key, .string nl, .string text, .string nl, .string key] 9)) w.heap.size 9 [.string key, .string nl, .string text, .string nl, .string key] := rowIs_new w 9 _
  have hbX : Below w.heap.size w (w.alloc (.cells #[.string key, .string nl, .string text, .string nl, .string key] 9)) := (Below.refl _ _).alloc (Nat.le_refl _) _
  try rw [e10]
  generalize w.alloc (.cells #[.string key, .string nl, .string text, .string nl, .string key] 9) = X at *
  have HX := hide hX; have HBX := hide hbX
  have hlX := hX.lt
  clear hX hbX e10 hnl
  go_wp2_with fail
  go_loop [5, 7] (fun h i => ∃ k : Nat, i = .int .i64 k ∧ k ≤ 5 ∧ h = .int .i64 (macL 17 (partL (P.take k)))) (fun _ i => 5 - (intOf i).toNat)
  case atStart => exact ⟨0, rfl, by omega, rfl⟩
  case round =>
    obtain ⟨k, rfl, hk5, rfl⟩ := hrel
    by_cases hlt : k < 5
    · have hltI : (k : Int) < 5 := by omega
      have hkP : k < P.length := by rw [HPL.out]; exact hlt
      obtain ⟨s, hs⟩ : ∃ s, P[k] = s := ⟨_, rfl⟩
      have cs : X.cell? ⟨w.heap.size, k, none⟩ = some (.string s) := by refine HX.out.cell ?_; rw [HCS.out k, List.getElem?_eq_getElem hkP, hs]; rfl
      have hss : s.size ≤ 9223372036854775807 := by rw [← hs]; exact HPS.out _ (List.getElem_mem hkP)
      have HT : Hid (partL (P.take (k + 1)) = partL (P.take k) ++ bys s) := by
        show _ = _
        unfold partL
        rw [List.take_add_one, List.getElem?_eq_getElem hkP, hs, List.flatMap_append]; simp
      obtain ⟨h0, hh0⟩ : ∃ h, macL 17 (partL (P.take k)) = h := ⟨_, rfl⟩
      have hr0 : 0 ≤ h0 ∧ h0 ≤ 2147483646 := by rw [← hh0]; exact macL_range _ (by decide) (by decide)
      rw [hh0]
      have HH0 := hide hh0
      clear hh0 hs
      go_wp2_with fail
      go_loop [5, 8] (fun h j => ∃ q : Nat, j = .int .i64 q ∧ q ≤ s.size ∧ h = .int .i64 (macL h0 ((bys s).take q))) (fun _ j => s.size - (intOf j).toNat)
      case atStart => exact ⟨0, rfl, by omega, by rw [List.take_zero]; rfl⟩
      case round =>
        obtain ⟨q, rfl, hq, rfl⟩ := hrel
        by_cases hqs : q < s.size
        · have hqI : (q : Int) < s.size := by omega
          have hmt := mac_take (h := h0) hqs
          obtain ⟨h1, hh1⟩ : ∃ h, macL h0 ((bys s).take q) = h := ⟨_, rfl⟩
          have hr1 : 0 ≤ h1 ∧ h1 ≤ 2147483646 := by rw [← hh1]; exact macL_range _ hr0.1 hr0.2
          rw [hh1] at hmt ⊢
          obtain ⟨b, hb⟩ : ∃ b, (s[q].toNat : Int) = b := ⟨_, rfl⟩
          have hb0 : 0 ≤ b ∧ b ≤ 255 := by have := s[q].toNat_lt; omega
          rw [hb] at hmt
          obtain ⟨r0, r1⟩ := hr1
          obtain ⟨b0, b1⟩ := hb0
          have e1 : IntKind.i64.wrap (h1 * 1000003) = h1 * 1000003 := by rw [IntKind.wrap_i64]; omega
          have e2 : IntKind.i64.wrap (h1 * 1000003 + b) = h1 * 1000003 + b := by rw [IntKind.wrap_i64]; omega
          have e3 : IntKind.i64.wrap (h1 * 1000003 + b + 1) = h1 * 1000003 + b + 1 := by rw [IntKind.wrap_i64]; omega
          have e4 : (h1 * 1000003 + b + 1).tmod 2147483647 = macS h1 b := by unfold macS; exact Int.tmod_eq_emod_of_nonneg (by omega)
          have hm1 := macS_range h1 b
          have e5 : IntKind.i64.wrap (macS h1 b) = macS h1 b := by rw [IntKind.wrap_i64]; omega
          have HMT := hide hmt
          clear hh1 hmt
          go_wp2_with fail
          go_round
          case rel => exact ⟨q + 1, by go_num, by omega, by rw [HMT.out]⟩
          case measure => simp [intOf]; omega
        · obtain rfl : q = s.size := by omega
          have HE : Hid (macL h0 ((bys s).take s.size) = macL 17 (partL (P.take (k + 1)))) := by
            show _ = _
            rw [HT.out, macL_app, HH0.out, List.take_of_length_le (by rw [bys_len]; omega)]
          go_wp2_with fail
          go_round
          case rel => exact ⟨k + 1, by go_num, by omega, by rw [HE.out]⟩
          case measure => simp [intOf]; omega
    · obtain rfl : k = 5 := by omega
      have HE : Hid (macL 17 (partL (P.take 5)) = A) := by show _ = A; rw [HV.out, List.take_of_length_le (by rw [HPL.out]; omega)]
      go_wp2_with fail
      go_ret
      exact ⟨by rw [← HE.out]; rfl, HBX.out⟩
end Go.Proofs.YtfemmnhfllbgjaaGreatDoor
