/- Chapter 14's program: whether a place is listed. -/
import Derived.Test.YtfemmnhfllbgjaaGreatDoorTokList
import Derived.Test.YtfemmnhfllbgjaaGreatDoorLibStr
import Derived.Lib.IndexBytes
import Derived.Shelf.Small.Wraps
import Derived.Shelf.Strings.Prefix

namespace Go.Proofs.YtfemmnhfllbgjaaGreatDoor
open Go.RowKit
set_option maxRecDepth 100000
set_option linter.unusedSimpArgs false
set_option linter.unusedVariables false
theorem ba_list {a b : ByteArray} : a = b ↔ a.data.toList = b.data.toList := by
  constructor
  · intro h; rw [h]
  · intro h
    obtain ⟨⟨x⟩⟩ := a
    obtain ⟨⟨y⟩⟩ := b
    simp at h
    rw [h]
theorem hit_lib (t x : ByteArray) : hitB t x = (decide (x = t) || (Lib.hasPrefix x.data.toList [42] && Lib.hasSuffix t.data.toList (Lib.trimPrefix x.data.toList [42]))) := by
  unfold hitB
  congr 1
  have hl : x.data.toList.length = x.size := (Lib.size_eq x).symm
  have htl : t.data.toList.length = t.size := (Lib.size_eq t).symm
  by_cases hp : ∃ r, x.data.toList = 42 :: r
  · obtain ⟨r, hr⟩ := hp
    have h1 : 1 ≤ x.size := by rw [← hl, hr]; simp
    have hh : (bys x).head? = some 42 := by unfold bys; rw [hr]; rfl
    have hpre : Lib.hasPrefix x.data.toList [42] = true := by rw [hr]; simp [Lib.hasPrefix]
    have htr : Lib.trimPrefix x.data.toList [42] = r := by unfold Lib.trimPrefix; rw [if_pos hpre, hr]; rfl
    have hrl : r.length = x.size - 1 := by rw [← hl, hr]; simp
    have e1 : (x.extract 1 x.size).data.toList = r := by rw [Lib.extract_to_end, hr]; rfl
    have e2 : (t.extract (t.size - (x.size - 1)) t.size).data.toList = t.data.toList.drop (t.size - (x.size - 1)) := Lib.extract_to_end _ _
    have hs : Lib.hasSuffix t.data.toList r = true ↔ r = t.data.toList.drop (t.size - (x.size - 1)) := by
      unfold Lib.hasSuffix
      rw [List.isSuffixOf_iff_suffix, List.suffix_iff_eq_drop, htl, hrl]
    rw [hpre, htr, decide_eq_true h1, decide_eq_true hh, Bool.true_and, Bool.true_and, Bool.true_and]
    apply Bool.eq_iff_iff.2
    rw [Bool.and_eq_true, decide_eq_true_eq, decide_eq_true_eq, hs, ba_list, e1, e2]
    constructor
    · intro h; exact h.2.symm
    · intro h
      refine ⟨?_, h.symm⟩
      have := congrArg List.length h
      rw [List.length_drop, htl, hrl] at this
      omega
  · have hpre : Lib.hasPrefix x.data.toList [42] = false := by
      cases hx : x.data.toList with
      | nil => rfl
      | cons c r =>
        have : c ≠ 42 := fun e => hp ⟨r, by rw [hx, e]⟩
        have h42 : ((42 : UInt8) == c) = false := beq_eq_false_iff_ne.2 (Ne.symm this)
        simp [Lib.hasPrefix, List.isPrefixOf, h42]
    have hh : (bys x).head? ≠ some 42 := by
      unfold bys
      cases hx : x.data.toList with
      | nil => simp
      | cons c r =>
        intro e
        have e2 : (c.toNat : Int) = 42 := by simpa using e
        exact hp ⟨r, by rw [hx]; congr 1; exact UInt8.toNat_inj.1 (by show c.toNat = 42; omega)⟩
    rw [hpre, decide_eq_false hh]
    simp
theorem libCutPrefix (s p : ByteArray) (w : World) : Calls Tryz.prog 48 #[.string s, .string p] w fun e w' => e = .returned (.tuple #[.string ⟨(Lib.trimPrefix s.data.toList p.data.toList).toArray⟩, .bool (Lib.hasPrefix s.data.toList p.data.toList)]) ∧ w' = w := Any.strings_CutPrefix cutpLays s p w
theorem libHasSuffix (s p : ByteArray) (w : World) (hs : s.size ≤ 9223372036854775807) : Calls Tryz.prog 49 #[.string s, .string p] w fun e w' => e = .returned (.bool (Lib.hasSuffix s.data.toList p.data.toList)) ∧ w' = w := Any.strings_HasSuffix hsufLays s p w hs
def plcB (L : List ByteArray) : Bool := decide (L.length ≤ 20 ∧ ∀ x ∈ L, x.size ≤ 60)
theorem implPlaces (L : List ByteArray) (v : Value) (w : World) (hr : Reads w v L.length 1 (L.map Value.string)) (hLs : ∀ x ∈ L, x.size ≤ maxLen) : Calls Tryz.prog 47 #[v] w fun x w' => x = .returned (.bool (plcB L)) ∧ w' = w := by
  obtain ⟨hl, ad, cap, rfl, hcap, hcm, hc⟩ := hr
  unfold maxLen at hcm
  have HC := hide hc; have HLS := hide hLs
  clear hc hLs hl
  obtain ⟨A, hA⟩ : ∃ A, plcB L = A := ⟨_, rfl⟩
  rw [hA]
  have HA := hide hA
  clear hA
  by_cases h20 : (20 : Int) < L.length
  · have HF : Hid (A = false) := by show A = false; rw [← HA.out]; exact decide_eq_false (fun c => by omega)
    go_enter Tryz.func47, Tryz.ntmps47
    go_wp2_with fail
    go_ret
    exact ⟨by rw [HF.out]; rfl, rfl⟩
  go_enter Tryz.func47, Tryz.ntmps47
  go_wp2_with fail
  go_loop [10] (fun i => ∃ k : Nat, i = .int .i64 k ∧ k ≤ L.length ∧ Hid (∀ x ∈ L.take k, x.size ≤ 60)) (fun i => L.length - (intOf i).toNat)
  case atStart => exact ⟨0, rfl, by omega, by show ∀ x ∈ L.take 0, _; simp⟩
  case round =>
    obtain ⟨k, rfl, hk, HS⟩ := hrel
    by_cases hlt : k < L.length
    · have hltI : (k : Int) < L.length := by omega
      obtain ⟨b, o, rfl, hbw, hcc⟩ := HC.out (by omega)
      obtain ⟨x, hx⟩ : ∃ x, L[k] = x := ⟨_, rfl⟩
      have cx := hcc k (.string x) (by rw [List.getElem?_map, List.getElem?_eq_getElem hlt, hx]; rfl)
      have hxm : x.size ≤ 9223372036854775807 := by have := HLS.out x (by rw [← hx]; exact List.getElem_mem hlt); unfold maxLen at this; exact this
      clear hcc
      by_cases hx60 : (60 : Int) < x.size
      · have HF : Hid (A = false) := by show A = false; rw [← HA.out]; exact decide_eq_false (fun c => by have := c.2 x (by rw [← hx]; exact List.getElem_mem hlt); omega)
        clear hx
        go_wp2_with fail
        go_ret
        exact ⟨by rw [HF.out]; rfl, rfl⟩
      have HS2 : Hid (∀ y ∈ L.take (k + 1), y.size ≤ 60) := by
        show ∀ y ∈ _, _
        intro y hy
        rw [List.take_add_one, List.getElem?_eq_getElem hlt, hx] at hy
        rcases List.mem_append.1 hy with h | h
        · exact HS.out y h
        · simp at h; subst h; omega
      clear hx
      go_wp2_with fail
      go_round
      case rel => exact ⟨k + 1, by go_num, by omega, HS2⟩
      case measure => simp [intOf]; omega
    · obtain rfl : k = L.length := by omega
      have HF : Hid (A = true) := by
        show A = true
        rw [← HA.out]
        exact decide_eq_true ⟨by omega, by have := HS.out; rw [List.take_of_length_le (Nat.le_refl _)] at this; exact this⟩
      go_wp2_with fail
      go_ret
      exact ⟨by rw [HF.out]; rfl, rfl⟩
set_option maxHeartbeats 2000000 in
theorem implListed (L : List ByteArray) (t : ByteArray) (v : Value) (w : World) (hr : Reads w v L.length 1 (L.map Value.string)) (hLs : ∀ x ∈ L, x.size ≤ maxLen) (ht : t.size ≤ maxLen) : Calls Tryz.prog 19 #[v, .string t] w fun x w' => x = .returned (.bool (listV L t)) ∧ Below w.heap.size w w' := by
  have hpl := implPlaces L v w hr hLs
  obtain ⟨hl, ad, cap, rfl, hcap, hcm, hc⟩ := hr
  unfold maxLen at ht hcm
  have HC := hide hc; have HLS := hide hLs
  clear hc hLs hl
  obtain ⟨A, hA⟩ : ∃ A, listV L t = A := ⟨_, rfl⟩
  rw [hA]
  have HA := hide hA
  clear hA
  have hin := fun w => implWithin (t.size : Int) 1 60 w
  cases hpb : plcB L
  · have HF : Hid (A = false) := by show A = false; rw [← HA.out]; exact list_no (fun c => of_decide_eq_false hpb ⟨c.1, c.2.2.2⟩)
    rw [hpb] at hpl
    go_enter Tryz.func19, Tryz.ntmps19
    go_wp2_with fail
    refine hpl.mono ?_; rintro e w1 ⟨rfl, hsame⟩; obtain rfl := hsame.symm; clear hsame
    go_wp2_with fail
    go_ret
    exact ⟨by rw [HF.out]; rfl, (by repeat' (first | (with_reducible exact Below.refl _ _) | (with_reducible refine Below.drew ?_) | (with_reducible refine bo_drewN _ ?_) | (with_reducible refine bo_alloc ?_ _) | (refine bchain ?_ (by with_reducible assumption)) | (with_reducible refine Below.setCell ?_ ?_ _) | go_size))⟩
  rw [hpb] at hpl
  cases h60 : inB (t.size : Int) 1 60
  · rw [h60] at hin
    have HF : Hid (A = false) := by show A = false; rw [← HA.out]; exact list_no (fun c => inB_false h60 (by omega))
    go_enter Tryz.func19, Tryz.ntmps19
    go_wp2_with fail
    refine hpl.mono ?_; rintro e w1 ⟨rfl, hsame⟩; obtain rfl := hsame.symm; clear hsame
    go_wp2_with fail
    refine (hin _).mono ?_; rintro e w1 ⟨rfl, hsame⟩; obtain rfl := hsame.symm; clear hsame
    go_wp2_with fail
    go_ret
    exact ⟨by rw [HF.out]; rfl, (by repeat' (first | (with_reducible exact Below.refl _ _) | (with_reducible refine Below.drew ?_) | (with_reducible refine bo_drewN _ ?_) | (with_reducible refine bo_alloc ?_ _) | (refine bchain ?_ (by with_reducible assumption)) | (with_reducible refine Below.setCell ?_ ?_ _) | go_size))⟩
  rw [h60] at hin
  obtain ⟨t1, t60⟩ := inB_true h60
  have hq := of_decide_eq_true hpb
  have HV : Hid (A = L.any (hitB t)) := by show A = _; rw [← HA.out]; unfold listV; rw [if_pos ⟨hq.1, by omega, by omega, hq.2⟩]
  clear h60 hpb hq
  go_enter Tryz.func19, Tryz.ntmps19
  go_wp2_with fail
  refine hpl.mono ?_; rintro e w1 ⟨rfl, hsame⟩; obtain rfl := hsame.symm; clear hsame
  clear hpl
  go_wp2_with fail
  refine (hin _).mono ?_; rintro e w1 ⟨rfl, hsame⟩; obtain rfl := hsame.symm; clear hsame
  clear hin
  go_wp2_with fail
  go_loop [20] (fun i => ∃ k : Nat, i = .int .i64 k ∧ k ≤ L.length ∧ Hid ((L.take k).any (hitB t) = false)) (fun i => L.length - (intOf i).toNat)
  case atStart => exact ⟨0, rfl, by omega, by show (L.take 0).any _ = _; simp⟩
  case round =>
    obtain ⟨k, rfl, hk, HS⟩ := hrel
    by_cases hlt : k < L.length
    · have hltI : (k : Int) < L.length := by omega
      obtain ⟨b, o, rfl, hbw, hcc⟩ := HC.out (by omega)
      obtain ⟨x, hx⟩ : ∃ x, L[k] = x := ⟨_, rfl⟩
      have cx := hcc k (.string x) (by rw [List.getElem?_map, List.getElem?_eq_getElem hlt, hx]; rfl)
      have hxm : x.size ≤ 9223372036854775807 := by have := HLS.out x (by rw [← hx]; exact List.getElem_mem hlt); unfold maxLen at this; exact this
      have hat := any_take (t := t) hlt
      rw [hx, HS.out, Bool.false_or, hit_lib] at hat
      have HXM : Hid (hitB t x = true → A = true) := by
        show _ → _
        intro h
        rw [HV.out]
        exact List.any_eq_true.2 ⟨x, by rw [← hx]; exact List.getElem_mem hlt, h⟩
      rw [hit_lib] at HXM
      clear hcc hx
      have hcut := fun w => libCutPrefix x ⟨#[42]⟩ w
      obtain ⟨pre, hpre⟩ : ∃ p, Lib.hasPrefix x.data.toList [42] = p := ⟨_, rfl⟩
      obtain ⟨e, he⟩ : ∃ e : ByteArray, (⟨(Lib.trimPrefix x.data.toList [42]).toArray⟩ : ByteArray) = e := ⟨_, rfl⟩
      have hel : Lib.trimPrefix x.data.toList [42] = e.data.toList := by rw [← he]
      rw [hpre, hel] at hat HXM
      have hcut2 : ∀ w, Calls Tryz.prog 48 #[.string x, .string ⟨#[42]⟩] w fun e' w' => e' = .returned (.tuple #[.string e, .bool pre]) ∧ w' = w := fun w => by
        have h := hcut w
        rw [show (⟨#[42]⟩ : ByteArray).data.toList = [42] from rfl, hpre, he] at h
        exact h
      have HAT := hide hat
      clear hcut hpre he hel hat
      by_cases hxt : x = t
      · subst hxt
        have HR : Hid (A = true) := HXM.out (by simp)
        clear HAT HXM
        go_wp2_with fail
        refine (hcut2 _).mono ?_; rintro e w1 ⟨rfl, hsame⟩; obtain rfl := hsame.symm; clear hsame
        go_wp2_with fail
        go_ret
        exact ⟨by rw [HR.out]; rfl, (by repeat' (first | (with_reducible exact Below.refl _ _) | (with_reducible refine Below.drew ?_) | (with_reducible refine bo_drewN _ ?_) | (with_reducible refine bo_alloc ?_ _) | (refine bchain ?_ (by with_reducible assumption)) | (with_reducible refine Below.setCell ?_ ?_ _) | go_size))⟩
      have hne := tl_ne hxt
      cases pre
      · have HR : Hid ((L.take (k + 1)).any (hitB t) = false) := by show _ = false; rw [HAT.out]; simp [hxt]
        clear HAT HXM
        go_wp2_with fail
        refine (hcut2 _).mono ?_; rintro e w1 ⟨rfl, hsame⟩; obtain rfl := hsame.symm; clear hsame
        go_wp2_with fail
        go_round
        case rel => exact ⟨k + 1, by go_num, by omega, HR⟩
        case measure => simp [intOf]; omega
      have hsf := fun w => libHasSuffix t e w (by omega)
      cases hs : Lib.hasSuffix t.data.toList e.data.toList
      · rw [hs] at hsf HAT
        have HR : Hid ((L.take (k + 1)).any (hitB t) = false) := by show _ = false; rw [HAT.out]; simp [hxt]
        clear HAT HXM hs
        go_wp2_with fail
        refine (hcut2 _).mono ?_; rintro e w1 ⟨rfl, hsame⟩; obtain rfl := hsame.symm; clear hsame
        go_wp2_with fail
        refine (hsf _).mono ?_; rintro e w1 ⟨rfl, hsame⟩; obtain rfl := hsame.symm; clear hsame
        go_wp2_with fail
        go_round
        case rel => exact ⟨k + 1, by go_num, by omega, HR⟩
        case measure => simp [intOf]; omega
      · rw [hs] at hsf HXM
        have HR : Hid (A = true) := HXM.out (by simp)
        clear HAT HXM hs
        go_wp2_with fail
        refine (hcut2 _).mono ?_; rintro e w1 ⟨rfl, hsame⟩; obtain rfl := hsame.symm; clear hsame
        go_wp2_with fail
        refine (hsf _).mono ?_; rintro e w1 ⟨rfl, hsame⟩; obtain rfl := hsame.symm; clear hsame
        go_wp2_with fail
        go_ret
        exact ⟨by rw [HR.out]; rfl, (by repeat' (first | (with_reducible exact Below.refl _ _) | (with_reducible refine Below.drew ?_) | (with_reducible refine bo_drewN _ ?_) | (with_reducible refine bo_alloc ?_ _) | (refine bchain ?_ (by with_reducible assumption)) | (with_reducible refine Below.setCell ?_ ?_ _) | go_size))⟩
    · obtain rfl : k = L.length := by omega
      have HF : Hid (A = false) := by
        show A = false
        rw [HV.out]
        have := HS.out
        rw [List.take_of_length_le (Nat.le_refl _)] at this
        exact this
      go_wp2_with fail
      go_ret
      exact ⟨by rw [HF.out]; rfl, (by repeat' (first | (with_reducible exact Below.refl _ _) | (with_reducible refine Below.drew ?_) | (with_reducible refine bo_drewN _ ?_) | (with_reducible refine bo_alloc ?_ _) | (refine bchain ?_ (by with_reducible assumption)) | (with_reducible refine Below.setCell ?_ ?_ _) | go_size))⟩
end Go.Proofs.YtfemmnhfllbgjaaGreatDoor
