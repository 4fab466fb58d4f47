/- Several small texts of one level, one behind the other. -/
import Derived.Test.YtfemmnhfllbgjaaGreatDoorQG6
import Derived.Test.YtfemmnhfllbgjaaGreatDoorQG3
import Derived.Test.YtfemmnhfllbgjaaGreatDoorQG5
import Derived.Deep.DeepMust
import Derived.Test.YtfemmnhfllbgjaaGreatDoorQG2
import Derived.Lib.IndexBytes
import Derived.Shelf.Small.Wraps
import Derived.Shelf.Strings.Prefix
import Derived.Deep.RegionHeld3
import Derived.Deep.DeepCutAuto
import Derived.Test.YtfemmnhfllbgjaaGreatDoorRows
import Derived.LaidLaws
import Derived.LaidHandle
import Derived.Lib.LaidTab
import Derived.Lib.LaidIn
import Derived.Stop.LaidErr
import Derived.Stop.ErrReads
import Derived.Shelf.Vars
/- Chapter 14's model: a text parted at its points, tokens made, read and signed. -/
namespace Go.Proofs.YtfemmnhfllbgjaaGreatDoor
open Go.RowKit
set_option maxRecDepth 100000
set_option linter.unusedSimpArgs false
set_option linter.unusedVariables false
def splitV (s : ByteArray) : List ByteArray := (splitL (bys s)).map strOf
def sv14 (L : List (List Int)) : List Value := L.map fun l => Value.string (strOf l)
theorem sv14_app (A B : List (List Int)) : sv14 (A ++ B) = sv14 A ++ sv14 B := by simp [sv14]
theorem sv14_len (A : List (List Int)) : (sv14 A).length = A.length := by simp [sv14]
theorem sv14_one (A : List (List Int)) : ∀ u ∈ sv14 A, u.oneCell' = true := by
  intro u hu
  obtain ⟨x, _, rfl⟩ := List.mem_map.1 hu
  rfl
theorem piece_is (s : ByteArray) (f k : Nat) : strOf (((bys s).drop f).take (k - f)) = s.extract f k := by
  refine bys_inj ?_
  rw [bys_strOf (fun x hx => bys_range s x (List.mem_of_mem_drop (List.mem_of_mem_take hx))), bys_extract, List.drop_take]
set_option maxHeartbeats 4000000 in
theorem specSplit (s : ByteArray) (w : World) (hs : s.size ≤ 2000000) : Calls Tryz.prog 64 #[.string s, .int .u8 46] w fun x w' => ∃ v', x = .returned v' ∧ w'.ownsRow w.heap.size 9 1 v' (splitL (bys s)).length (sv14 (splitL (bys s))) ∧ Below w.heap.size w w' := by
  obtain ⟨A, hA⟩ : ∃ A, splitL (bys s) = A := ⟨_, rfl⟩
  rw [hA]
  have HA := hide hA
  clear hA
  go_enter Tryz.func64, Tryz.ntmps64
  go_upto_region 2 with fail
  have hbV : Below w.heap.size w (w.alloc (.cells #[] 9)) := (Below.refl _ _).alloc (Nat.le_refl _) _
  have hoV : (w.alloc (.cells #[] 9)).ownsRow w.heap.size 9 1 (.slice (some ⟨w.heap.size, 0, none⟩) 0 0) 0 [] := owns_lit w 9 1 0 #[] rfl (by omega)
  generalize w.alloc (.cells #[] 9) = V at *
  have HBV := hide hbV; have HOV := hide hoV
  clear hbV hoV
  go_wp2_with fail
  go_loopw [5, 6, 7] (fun o f i wr => ∃ (k fr : Nat) (O : List (List Int)) (a : Option Addr) (p : Nat), i = .int .i64 k ∧ f = .int .i64 fr ∧ o = .slice a O.length p ∧ O.length ≤ k ∧ k ≤ s.size + 1 ∧ fr ≤ k ∧ Hid ((k ≤ s.size ∧ (∀ x ∈ ((bys s).drop fr).take (k - fr), x ≠ 46) ∧ A = O ++ splitL ((bys s).drop fr)) ∨ (k = s.size + 1 ∧ O = A)) ∧ Hid (wr.ownsRow w.heap.size 9 1 (.slice a O.length p) O.length (sv14 O)) ∧ Hid (Below w.heap.size w wr)) (fun _ _ i _ => s.size + 1 - (intOf i).toNat)
  case atStart => exact ⟨0, 0, [], _, _, rfl, rfl, rfl, by simp, by omega, by omega, .inl ⟨by omega, by simp, by rw [List.drop_zero, HA.out]; rfl⟩, HOV, HBV⟩
  case round =>
    clear HOV HBV
    obtain ⟨k, fr, O, a, p, rfl, rfl, rfl, hOk, hk, hfk, HI, HO, HB⟩ := hrel
    by_cases hlt : k ≤ s.size
    · have hltI : (k : Int) ≤ s.size := by omega
      have hinv : (∀ x ∈ ((bys s).drop fr).take (k - fr), x ≠ 46) ∧ A = O ++ splitL ((bys s).drop fr) := by
        rcases HI.out with ⟨_, h⟩ | ⟨h, _⟩
        · exact h
        · omega
      have hsl : ∀ w : World, (Instr.slice 9 (.string s) (some (.int .i64 fr)) (some (.int .i64 k)) none).run Tryz.prog w = .ok (.string (s.extract fr k)) w := fun w => by
        have h := run_slice_string (P := Tryz.prog) w 9 s .i64 .i64 (fr : Int) (k : Int) Tryz.underlying9 (by omega) (by omega) (by omega)
        simpa using h
      obtain ⟨pc, hpc⟩ : ∃ pc, s.extract fr k = pc := ⟨_, rfl⟩
      rw [hpc] at hsl
      have hpe := piece_is s fr k
      rw [hpc] at hpe
      obtain ⟨pl, hpl⟩ : ∃ pl, ((bys s).drop fr).take (k - fr) = pl := ⟨_, rfl⟩
      rw [hpl] at hpe hinv
      have hX : Below wr.heap.size wr (wr.alloc (.cells #[.string pc] 9)) := (Below.refl _ _).alloc (Nat.le_refl _) _
      have hownX := owns_new HO.out hX
      have hRd : Reads (wr.alloc (.cells #[.string pc] 9)) (.slice (some ⟨wr.heap.size, 0, none⟩) 1 1) 1 1 (sv14 [pl]) := by
        have h := reads_of_owns (owns_lit wr 9 1 1 #[.string pc] rfl (by omega))
        simpa [sv14, hpe] using h
      have hbX := bchain HB.out hX
      have sX := hbX.size
      have HINV := hide hinv
      have HPL := hide hpl
      clear hinv hpl HI hpe hpc
      by_cases hend : k = s.size
      · have hendI : ((k : Int) == (s.size : Int)) = true := by simp; omega
        have HF : Hid (O ++ [pl] = A) := by
          show _ = A
          rw [HINV.out.2]
          have e : pl = (bys s).drop fr := by rw [← HPL.out, List.take_of_length_le (by rw [List.length_drop, bys_len]; omega)]
          rw [← e, splitL_none HINV.out.1]
        have HEND := hide hend
        clear hend
        go_wp2_with (at_builtin; go_must (refine wpList_app _ (by rfl) _ _ 30 (by rfl) 9 (.string ⟨#[]⟩) 1 16 Tryz.underlying30 (by kernel_rfl) rfl (by decide) w.heap.size _ O.length (sv14 O) (by rfl) hownX _ 1 (sv14 [pl]) (by rfl) hRd (sv14_one _) (by omega) (by decide) sX ?_))
        intro ad7 cap7 w7 hown7 hg7 hat7
        have HB7 := hide (hbX.grown hg7 sX (fun z hz => (hownX.lt z hz).1))
        have HO7 : Hid (w7.ownsRow w.heap.size 9 1 (.slice ad7 (O ++ [pl]).length cap7) (O ++ [pl]).length (sv14 (O ++ [pl]))) := by
          show World.ownsRow _ _ _ _ _ _ _
          rw [sv14_app]
          simpa using hown7
        clear hown7 hg7 hat7 hownX hRd hbX sX hX HO HB
        go_wp2_with fail
        go_roundw
        case rel => exact ⟨k + 1, k + 1, O ++ [pl], ad7, cap7, by go_num, by go_num, by simp, by simp; omega, by have := HEND.out; omega, by omega, .inr ⟨by have := HEND.out; omega, HF.out⟩, HO7, HB7⟩
        case measure => simp [intOf]; omega
      · have hendI : ((k : Int) == (s.size : Int)) = false := by simp; omega
        have hks : k < s.size := by omega
        have hksI : (k : Int) < s.size := by omega
        have hbk := bys_drop s k hks
        have hdf : (bys s).drop fr = pl ++ (bys s).drop k := by
          rw [← HPL.out]
          have h := List.take_append_drop (k - fr) ((bys s).drop fr)
          rw [List.drop_drop] at h
          have e : fr + (k - fr) = k := by omega
          rw [e] at h
          exact h.symm
        obtain ⟨b, hbe⟩ : ∃ b, (s[k].toNat : Int) = b := ⟨_, rfl⟩
        rw [hbe] at hbk
        have HBE := hide hbe
        rw [hbk] at hdf
        by_cases hb46 : b = 46
        · subst hb46
          have HF : Hid (A = (O ++ [pl]) ++ splitL ((bys s).drop (k + 1))) := by
            show A = _
            rw [HINV.out.2, hdf, splitL_app HINV.out.1]; simp
          clear hdf hbk
          go_wp2_with (at_builtin; go_must (refine wpList_app _ (by rfl) _ _ 30 (by rfl) 9 (.string ⟨#[]⟩) 1 16 Tryz.underlying30 (by kernel_rfl) rfl (by decide) w.heap.size _ O.length (sv14 O) (by rfl) hownX _ 1 (sv14 [pl]) (by rfl) hRd (sv14_one _) (by omega) (by decide) sX ?_))
          intro ad7 cap7 w7 hown7 hg7 hat7
          have HB7 := hide (hbX.grown hg7 sX (fun z hz => (hownX.lt z hz).1))
          have HO7 : Hid (w7.ownsRow w.heap.size 9 1 (.slice ad7 (O ++ [pl]).length cap7) (O ++ [pl]).length (sv14 (O ++ [pl]))) := by
            show World.ownsRow _ _ _ _ _ _ _
            rw [sv14_app]
            simpa using hown7
          clear hown7 hg7 hat7 hownX hRd hbX sX hX HO HB
          go_wp2_with fail
          go_roundw
          case rel => exact ⟨k + 1, k + 1, O ++ [pl], ad7, cap7, by go_num, by go_num, by simp, by simp; omega, by omega, by omega, .inl ⟨by omega, by simp, HF.out⟩, HO7, HB7⟩
          case measure => simp [intOf]; omega
        · have hbq : (b == 46) = false := by simpa using hb46
          have HN : Hid (∀ x ∈ ((bys s).drop fr).take (k + 1 - fr), x ≠ 46) := by
            show ∀ x ∈ _, _
            have e : k + 1 - fr = (k - fr) + 1 := by omega
            rw [e, List.take_add_one, HPL.out]
            intro x hx
            rcases List.mem_append.1 hx with h | h
            · exact HINV.out.1 x h
            · rw [List.getElem?_drop, show fr + (k - fr) = k by omega, byte_at hks] at h
              simp at h
              rw [h, HBE.out]; exact hb46
          have HE : Hid (A = O ++ splitL ((bys s).drop fr)) := HINV.out.2
          clear hdf hbk hownX hRd hbX sX hX hsl HINV
          go_wp2_with fail
          go_roundw
          case rel => exact ⟨k + 1, fr, O, a, p, by go_num, rfl, rfl, by omega, by omega, by omega, .inl ⟨by omega, HN.out, HE.out⟩, HO, HB⟩
          case measure => simp [intOf]; omega
    · have hltI : ¬ (k : Int) ≤ s.size := by omega
      have HF : Hid (O = A) := by
        rcases HI.out with ⟨h, _⟩ | ⟨_, h⟩
        · omega
        · exact h
      go_wp2_with fail
      go_ret
      have e := HF.out
      subst e
      exact ⟨_, rfl, HO.out, HB.out⟩
end Go.Proofs.YtfemmnhfllbgjaaGreatDoor
/- Chapter 14's program: whether a place is listed. -/
namespace Go.Proofs.YtfemmnhfllbgjaaGreatDoor
open Go.RowKit
set_option maxRecDepth 100000
set_option linter.unusedSimpArgs false
set_option linter.unusedVariables false
theorem ba_list {a b : ByteArray} : a = b ↔ a.data.toList = b.data.toList := by
  constructor
  · intro h; rw [h]
  · intro h
    obtain ⟨⟨x⟩⟩ := a
    obtain ⟨⟨y⟩⟩ := b
    simp at h
    rw [h]
theorem hit_lib (t x : ByteArray) : hitB t x = (decide (x = t) || (Lib.hasPrefix x.data.toList [42] && Lib.hasSuffix t.data.toList (Lib.trimPrefix x.data.toList [42]))) := by
  unfold hitB
  congr 1
  have hl : x.data.toList.length = x.size := (Lib.size_eq x).symm
  have htl : t.data.toList.length = t.size := (Lib.size_eq t).symm
  by_cases hp : ∃ r, x.data.toList = 42 :: r
  · obtain ⟨r, hr⟩ := hp
    have h1 : 1 ≤ x.size := by rw [← hl, hr]; simp
    have hh : (bys x).head? = some 42 := by unfold bys; rw [hr]; rfl
    have hpre : Lib.hasPrefix x.data.toList [42] = true := by rw [hr]; simp [Lib.hasPrefix]
    have htr : Lib.trimPrefix x.data.toList [42] = r := by unfold Lib.trimPrefix; rw [if_pos hpre, hr]; rfl
    have hrl : r.length = x.size - 1 := by rw [← hl, hr]; simp
    have e1 : (x.extract 1 x.size).data.toList = r := by rw [Lib.extract_to_end, hr]; rfl
    have e2 : (t.extract (t.size - (x.size - 1)) t.size).data.toList = t.data.toList.drop (t.size - (x.size - 1)) := Lib.extract_to_end _ _
    have hs : Lib.hasSuffix t.data.toList r = true ↔ r = t.data.toList.drop (t.size - (x.size - 1)) := by
      unfold Lib.hasSuffix
      rw [List.isSuffixOf_iff_suffix, List.suffix_iff_eq_drop, htl, hrl]
    rw [hpre, htr, decide_eq_true h1, decide_eq_true hh, Bool.true_and, Bool.true_and, Bool.true_and]
    apply Bool.eq_iff_iff.2
    rw [Bool.and_eq_true, decide_eq_true_eq, decide_eq_true_eq, hs, ba_list, e1, e2]
    constructor
    · intro h; exact h.2.symm
    · intro h
      refine ⟨?_, h.symm⟩
      have := congrArg List.length h
      rw [List.length_drop, htl, hrl] at this
      omega
  · have hpre : Lib.hasPrefix x.data.toList [42] = false := by
      cases hx : x.data.toList with
      | nil => rfl
      | cons c r =>
        have : c ≠ 42 := fun e => hp ⟨r, by rw [hx, e]⟩
        have h42 : ((42 : UInt8) == c) = false := beq_eq_false_iff_ne.2 (Ne.symm this)
        simp [Lib.hasPrefix, List.isPrefixOf, h42]
    have hh : (bys x).head? ≠ some 42 := by
      unfold bys
      cases hx : x.data.toList with
      | nil => simp
      | cons c r =>
        intro e
        have e2 : (c.toNat : Int) = 42 := by simpa using e
        exact hp ⟨r, by rw [hx]; congr 1; exact UInt8.toNat_inj.1 (by show c.toNat = 42; omega)⟩
    rw [hpre, decide_eq_false hh]
    simp
theorem libCutPrefix (s p : ByteArray) (w : World) : Calls Tryz.prog 48 #[.string s, .string p] w fun e w' => e = .returned (.tuple #[.string ⟨(Lib.trimPrefix s.data.toList p.data.toList).toArray⟩, .bool (Lib.hasPrefix s.data.toList p.data.toList)]) ∧ w' = w := Any.strings_CutPrefix cutpLays s p w
theorem libHasSuffix (s p : ByteArray) (w : World) (hs : s.size ≤ 9223372036854775807) : Calls Tryz.prog 49 #[.string s, .string p] w fun e w' => e = .returned (.bool (Lib.hasSuffix s.data.toList p.data.toList)) ∧ w' = w := Any.strings_HasSuffix hsufLays s p w hs
def plcB (L : List ByteArray) : Bool := decide (L.length ≤ 20 ∧ ∀ x ∈ L, x.size ≤ 60)
theorem implPlaces (L : List ByteArray) (v : Value) (w : World) (hr : Reads w v L.length 1 (L.map Value.string)) (hLs : ∀ x ∈ L, x.size ≤ maxLen) : Calls Tryz.prog 47 #[v] w fun x w' => x = .returned (.bool (plcB L)) ∧ w' = w := by
  obtain ⟨hl, ad, cap, rfl, hcap, hcm, hc⟩ := hr
  unfold maxLen at hcm
  have HC := hide hc; have HLS := hide hLs
  clear hc hLs hl
  obtain ⟨A, hA⟩ : ∃ A, plcB L = A := ⟨_, rfl⟩
  rw [hA]
  have HA := hide hA
  clear hA
  by_cases h20 : (20 : Int) < L.length
  · have HF : Hid (A = false) := by show A = false; rw [← HA.out]; exact decide_eq_false (fun c => by omega)
    go_enter Tryz.func47, Tryz.ntmps47
    go_wp2_with fail
    go_ret
    exact ⟨by rw [HF.out]; rfl, rfl⟩
  go_enter Tryz.func47, Tryz.ntmps47
  go_wp2_with fail
  go_loop [10] (fun i => ∃ k : Nat, i = .int .i64 k ∧ k ≤ L.length ∧ Hid (∀ x ∈ L.take k, x.size ≤ 60)) (fun i => L.length - (intOf i).toNat)
  case atStart => exact ⟨0, rfl, by omega, by show ∀ x ∈ L.take 0, _; simp⟩
  case round =>
    obtain ⟨k, rfl, hk, HS⟩ := hrel
    by_cases hlt : k < L.length
    · have hltI : (k : Int) < L.length := by omega
      obtain ⟨b, o, rfl, hbw, hcc⟩ := HC.out (by omega)
      obtain ⟨x, hx⟩ : ∃ x, L[k] = x := ⟨_, rfl⟩
      have cx := hcc k (.string x) (by rw [List.getElem?_map, List.getElem?_eq_getElem hlt, hx]; rfl)
      have hxm : x.size ≤ 9223372036854775807 := by have := HLS.out x (by rw [← hx]; exact List.getElem_mem hlt); unfold maxLen at this; exact this
      clear hcc
      by_cases hx60 : (60 : Int) < x.size
      · have HF : Hid (A = false) := by show A = false; rw [← HA.out]; exact decide_eq_false (fun c => by have := c.2 x (by rw [← hx]; exact List.getElem_mem hlt); omega)
        clear hx
        go_wp2_with fail
        go_ret
        exact ⟨by rw [HF.out]; rfl, rfl⟩
      have HS2 : Hid (∀ y ∈ L.take (k + 1), y.size ≤ 60) := by
        show ∀ y ∈ _, _
        intro y hy
        rw [List.take_add_one, List.getElem?_eq_getElem hlt, hx] at hy
        rcases List.mem_append.1 hy with h | h
        · exact HS.out y h
        · simp at h; subst h; omega
      clear hx
      go_wp2_with fail
      go_round
      case rel => exact ⟨k + 1, by go_num, by omega, HS2⟩
      case measure => simp [intOf]; omega
    · obtain rfl : k = L.length := by omega
      have HF : Hid (A = true) := by
        show A = true
        rw [← HA.out]
        exact decide_eq_true ⟨by omega, by have := HS.out; rw [List.take_of_length_le (Nat.le_refl _)] at this; exact this⟩
      go_wp2_with fail
      go_ret
      exact ⟨by rw [HF.out]; rfl, rfl⟩
set_option maxHeartbeats 2000000 in
theorem implListed (L : List ByteArray) (t : ByteArray) (v : Value) (w : World) (hr : Reads w v L.length 1 (L.map Value.string)) (hLs : ∀ x ∈ L, x.size ≤ maxLen) (ht : t.size ≤ maxLen) : Calls Tryz.prog 19 #[v, .string t] w fun x w' => x = .returned (.bool (listV L t)) ∧ Below w.heap.size w w' := by
  have hpl := implPlaces L v w hr hLs
  obtain ⟨hl, ad, cap, rfl, hcap, hcm, hc⟩ := hr
  unfold maxLen at ht hcm
  have HC := hide hc; have HLS := hide hLs
  clear hc hLs hl
  obtain ⟨A, hA⟩ : ∃ A, listV L t = A := ⟨_, rfl⟩
  rw [hA]
  have HA := hide hA
  clear hA
  have hin := fun w => implWithin (t.size : Int) 1 60 w
  cases hpb : plcB L
  · have HF : Hid (A = false) := by show A = false; rw [← HA.out]; exact list_no (fun c => of_decide_eq_false hpb ⟨c.1, c.2.2.2⟩)
    rw [hpb] at hpl
    go_enter Tryz.func19, Tryz.ntmps19
    go_wp2_with fail
    refine hpl.mono ?_; rintro e w1 ⟨rfl, hsame⟩; obtain rfl := hsame.symm; clear hsame
    go_wp2_with fail
    go_ret
    exact ⟨by rw [HF.out]; rfl, (by repeat' (first | (with_reducible exact Below.refl _ _) | (with_reducible refine Below.drew ?_) | (with_reducible refine bo_drewN _ ?_) | (with_reducible refine bo_alloc ?_ _) | (refine bchain ?_ (by with_reducible assumption)) | (with_reducible refine Below.setCell ?_ ?_ _) | go_size))⟩
  rw [hpb] at hpl
  cases h60 : inB (t.size : Int) 1 60
  · rw [h60] at hin
    have HF : Hid (A = false) := by show A = false; rw [← HA.out]; exact list_no (fun c => inB_false h60 (by omega))
    go_enter Tryz.func19, Tryz.ntmps19
    go_wp2_with fail
    refine hpl.mono ?_; rintro e w1 ⟨rfl, hsame⟩; obtain rfl := hsame.symm; clear hsame
    go_wp2_with fail
    refine (hin _).mono ?_; rintro e w1 ⟨rfl, hsame⟩; obtain rfl := hsame.symm; clear hsame
    go_wp2_with fail
    go_ret
    exact ⟨by rw [HF.out]; rfl, (by repeat' (first | (with_reducible exact Below.refl _ _) | (with_reducible refine Below.drew ?_) | (with_reducible refine bo_drewN _ ?_) | (with_reducible refine bo_alloc ?_ _) | (refine bchain ?_ (by with_reducible assumption)) | (with_reducible refine Below.setCell ?_ ?_ _) | go_size))⟩
  rw [h60] at hin
  obtain ⟨t1, t60⟩ := inB_true h60
  have hq := of_decide_eq_true hpb
  have HV : Hid (A = L.any (hitB t)) := by show A = _; rw [← HA.out]; unfold listV; rw [if_pos ⟨hq.1, by omega, by omega, hq.2⟩]
  clear h60 hpb hq
  go_enter Tryz.func19, Tryz.ntmps19
  go_wp2_with fail
  refine hpl.mono ?_; rintro e w1 ⟨rfl, hsame⟩; obtain rfl := hsame.symm; clear hsame
  clear hpl
  go_wp2_with fail
  refine (hin _).mono ?_; rintro e w1 ⟨rfl, hsame⟩; obtain rfl := hsame.symm; clear hsame
  clear hin
  go_wp2_with fail
  go_loop [20] (fun i => ∃ k : Nat, i = .int .i64 k ∧ k ≤ L.length ∧ Hid ((L.take k).any (hitB t) = false)) (fun i => L.length - (intOf i).toNat)
  case atStart => exact ⟨0, rfl, by omega, by show (L.take 0).any _ = _; simp⟩
  case round =>
    obtain ⟨k, rfl, hk, HS⟩ := hrel
    by_cases hlt : k < L.length
    · have hltI : (k : Int) < L.length := by omega
      obtain ⟨b, o, rfl, hbw, hcc⟩ := HC.out (by omega)
      obtain ⟨x, hx⟩ : ∃ x, L[k] = x := ⟨_, rfl⟩
      have cx := hcc k (.string x) (by rw [List.getElem?_map, List.getElem?_eq_getElem hlt, hx]; rfl)
      have hxm : x.size ≤ 9223372036854775807 := by have := HLS.out x (by rw [← hx]; exact List.getElem_mem hlt); unfold maxLen at this; exact this
      have hat := any_take (t := t) hlt
      rw [hx, HS.out, Bool.false_or, hit_lib] at hat
      have HXM : Hid (hitB t x = true → A = true) := by
        show _ → _
        intro h
        rw [HV.out]
        exact List.any_eq_true.2 ⟨x, by rw [← hx]; exact List.getElem_mem hlt, h⟩
      rw [hit_lib] at HXM
      clear hcc hx
      have hcut := fun w => libCutPrefix x ⟨#[42]⟩ w
      obtain ⟨pre, hpre⟩ : ∃ p, Lib.hasPrefix x.data.toList [42] = p := ⟨_, rfl⟩
      obtain ⟨e, he⟩ : ∃ e : ByteArray, (⟨(Lib.trimPrefix x.data.toList [42]).toArray⟩ : ByteArray) = e := ⟨_, rfl⟩
      have hel : Lib.trimPrefix x.data.toList [42] = e.data.toList := by rw [← he]
      rw [hpre, hel] at hat HXM
      have hcut2 : ∀ w, Calls Tryz.prog 48 #[.string x, .string ⟨#[42]⟩] w fun e' w' => e' = .returned (.tuple #[.string e, .bool pre]) ∧ w' = w := fun w => by
        have h := hcut w
        rw [show (⟨#[42]⟩ : ByteArray).data.toList = [42] from rfl, hpre, he] at h
        exact h
      have HAT := hide hat
      clear hcut hpre he hel hat
      by_cases hxt : x = t
      · subst hxt
        have HR : Hid (A = true) := HXM.out (by simp)
        clear HAT HXM
        go_wp2_with fail
        refine (hcut2 _).mono ?_; rintro e w1 ⟨rfl, hsame⟩; obtain rfl := hsame.symm; clear hsame
        go_wp2_with fail
        go_ret
        exact ⟨by rw [HR.out]; rfl, (by repeat' (first | (with_reducible exact Below.refl _ _) | (with_reducible refine Below.drew ?_) | (with_reducible refine bo_drewN _ ?_) | (with_reducible refine bo_alloc ?_ _) | (refine bchain ?_ (by with_reducible assumption)) | (with_reducible refine Below.setCell ?_ ?_ _) | go_size))⟩
      have hne := tl_ne hxt
      cases pre
      · have HR : Hid ((L.take (k + 1)).any (hitB t) = false) := by show _ = false; rw [HAT.out]; simp [hxt]
        clear HAT HXM
        go_wp2_with fail
        refine (hcut2 _).mono ?_; rintro e w1 ⟨rfl, hsame⟩; obtain rfl := hsame.symm; clear hsame
        go_wp2_with fail
        go_round
        case rel => exact ⟨k + 1, by go_num, by omega, HR⟩
        case measure => simp [intOf]; omega
      have hsf := fun w => libHasSuffix t e w (by omega)
      cases hs : Lib.hasSuffix t.data.toList e.data.toList
      · rw [hs] at hsf HAT
        have HR : Hid ((L.take (k + 1)).any (hitB t) = false) := by show _ = false; rw [HAT.out]; simp [hxt]
        clear HAT HXM hs
        go_wp2_with fail
        refine (hcut2 _).mono ?_; rintro e w1 ⟨rfl, hsame⟩; obtain rfl := hsame.symm; clear hsame
        go_wp2_with fail
        refine (hsf _).mono ?_; rintro e w1 ⟨rfl, hsame⟩; obtain rfl := hsame.symm; clear hsame
        go_wp2_with fail
        go_round
        case rel => exact ⟨k + 1, by go_num, by omega, HR⟩
        case measure => simp [intOf]; omega
      · rw [hs] at hsf HXM
        have HR : Hid (A = true) := HXM.out (by simp)
        clear HAT HXM hs
        go_wp2_with fail
        refine (hcut2 _).mono ?_; rintro e w1 ⟨rfl, hsame⟩; obtain rfl := hsame.symm; clear hsame
        go_wp2_with fail
        refine (hsf _).mono ?_; rintro e w1 ⟨rfl, hsame⟩; obtain rfl := hsame.symm; clear hsame
        go_wp2_with fail
        go_ret
        exact ⟨by rw [HR.out]; rfl, (by repeat' (first | (with_reducible exact Below.refl _ _) | (with_reducible refine Below.drew ?_) | (with_reducible refine bo_drewN _ ?_) | (with_reducible refine bo_alloc ?_ _) | (refine bchain ?_ (by with_reducible assumption)) | (with_reducible refine Below.setCell ?_ ?_ _) | go_size))⟩
    · obtain rfl : k = L.length := by omega
      have HF : Hid (A = false) := by
        show A = false
        rw [HV.out]
        have := HS.out
        rw [List.take_of_length_le (Nat.le_refl _)] at this
        exact this
      go_wp2_with fail
      go_ret
      exact ⟨by rw [HF.out]; rfl, (by repeat' (first | (with_reducible exact Below.refl _ _) | (with_reducible refine Below.drew ?_) | (with_reducible refine bo_drewN _ ?_) | (with_reducible refine bo_alloc ?_ _) | (refine bchain ?_ (by with_reducible assumption)) | (with_reducible refine Below.setCell ?_ ?_ _) | go_size))⟩
end Go.Proofs.YtfemmnhfllbgjaaGreatDoor
/- The program's mac: a signer that folds its key once. -/
namespace Go.Proofs.YtfemmnhfllbgjaaGreatDoor
open Go.RowKit
set_option maxRecDepth 100000
set_option linter.unusedSimpArgs false
set_option linter.unusedVariables false
theorem fac_take {f : Int} {s : ByteArray} {k : Nat} (hk : k < s.size) : facL f ((bys s).take (k + 1)) = facL f ((bys s).take k) * 1000003 % 2147483647 := by
  have hl : k < (bys s).length := by rw [bys_len]; exact hk
  rw [List.take_add_one, List.getElem?_eq_getElem hl, facL_app]; rfl
set_option maxHeartbeats 1000000 in
/-- The key's bytes, folded into a factor and a number more. -/
theorem implFold (key : ByteArray) (d st : Int) (g : Nat) (w : World) (hk : key.size ≤ maxLen) (h : RowIs w g 119 [.string key, .int .u32 d, .int .i32 st, .int .u32 0, .int .i64 0, .int .i64 0]) :
    Calls Tryz.prog 117 #[.pointer (some ⟨g, 0, none⟩)] w fun x w' => x = .returned (.tuple #[]) ∧ RowIs w' g 119 [.string key, .int .u32 d, .int .i32 st, .int .u32 0, .int .i64 (facL 1 (bys key)), .int .i64 (macL 0 (bys key))] ∧ Below g w w' := by
  unfold maxLen at hk
  have R1 := hide (h.set 4 (.int .i64 1))
  have x4 := h.cell (j := 4) rfl
  have x9 := h.frozen 4
  have y0 := R1.out.cell (j := 0) rfl
  have B1 : Hid (Below g w (w.setCell ⟨g, 4, none⟩ (.int .i64 1))) := (Below.refl g w).setCell (p := ⟨g, 4, none⟩) (Nat.le_refl _) _
  clear h
  go_enter Tryz.func117, Tryz.ntmps117
  go_wp2_with fail
  clear x4 x9 y0
  go_loopw [11] (fun i wr => ∃ k : Nat, i = .int .i64 k ∧ k ≤ key.size ∧ RowIs wr g 119 [.string key, .int .u32 d, .int .i32 st, .int .u32 0, .int .i64 (facL 1 ((bys key).take k)), .int .i64 (macL 0 ((bys key).take k))] ∧ Below g w wr) (fun i wr => key.size - (intOf i).toNat)
  case atStart => exact ⟨0, rfl, Nat.zero_le _, R1.out, B1.out⟩
  case round =>
    obtain ⟨k, rfl, hks, R, hb⟩ := hrel
    clear R1 B1
    have HB := hide hb
    clear hb
    by_cases hlt : k < key.size
    · have hltI : (k : Int) < key.size := by omega
      have ht1 := fac_take (f := 1) hlt
      have ht2 := mac_take (h := 0) hlt
      obtain ⟨f, hf⟩ : ∃ f, facL 1 ((bys key).take k) = f := ⟨_, rfl⟩
      obtain ⟨m, hm⟩ : ∃ m, macL 0 ((bys key).take k) = m := ⟨_, rfl⟩
      have rf : 0 ≤ f ∧ f ≤ 2147483646 := by rw [← hf]; exact facL_range _ (by decide) (by decide)
      have rm : 0 ≤ m ∧ m ≤ 2147483646 := by rw [← hm]; exact macL_range _ (by decide) (by decide)
      rw [hf] at R ht1
      rw [hm] at R ht2
      obtain ⟨b, hbb⟩ : ∃ b, (key[k].toNat : Int) = b := ⟨_, rfl⟩
      have rb : 0 ≤ b ∧ b ≤ 255 := by have := key[k].toNat_lt; omega
      rw [hbb] at ht2
      have HT1 := hide ht1; have HT2 := hide ht2
      clear ht1 ht2 hf hm
      obtain ⟨f0, f1⟩ := rf
      obtain ⟨m0, m1⟩ := rm
      have e1 : IntKind.i64.wrap (f * 1000003) = f * 1000003 := by rw [IntKind.wrap_i64]; omega
      have e4 : (f * 1000003).tmod 2147483647 = f * 1000003 % 2147483647 := Int.tmod_eq_emod_of_nonneg (by omega)
      have hf1 := facS_range f
      obtain ⟨f', hf'⟩ : ∃ f', f * 1000003 % 2147483647 = f' := ⟨_, rfl⟩
      rw [hf'] at e4 hf1 HT1
      have e5 : IntKind.i64.wrap f' = f' := by rw [IntKind.wrap_i64]; omega
      have RS := hide R
      have y0 := R.cell (j := 0) rfl
      have y4 := R.cell (j := 4) rfl
      have y5 := R.cell (j := 5) rfl
      have z4 := R.frozen 4
      have z5 := R.frozen 5
      clear R
      go_wp2_with fail
      have R2 := hide (RS.out.set 4 (.int .i64 f'))
      have q0 := R2.out.cell (j := 0) rfl
      have q5 := R2.out.cell (j := 5) rfl
      have zq := R2.out.frozen 5
      refine wp_region_held_drew (S := (fun u => u.cell? ⟨g, 0, none⟩ = some (.string key))) (by kernel_rfl) q0 (fun hS => ?_)
      refine wpAnyH_take (i := 0) (v := ?_) rfl (by kernel_rfl) (by kernel_rfl) (by kernel_rfl) (fun _ _ _ h => h) (Or.inl ⟨by kernel_rfl, ?_⟩) hS ?_; rotate_left; focus (intro uu hu; clear hu; go_simp; try with_reducible rfl)
      refine wpAnyH_take (i := 1) (v := ?_) rfl (by kernel_rfl) (by kernel_rfl) (by kernel_rfl) (fun _ _ _ h => h) (Or.inl ⟨by kernel_rfl, ?_⟩) hS ?_; rotate_left; focus (intro uu hu; clear hu; go_simp; try with_reducible rfl)
      refine wpAnyH_take (i := 2) (v := ?_) rfl (by kernel_rfl) (by kernel_rfl) (by kernel_rfl) (fun _ _ _ h => h) (Or.inl ⟨by kernel_rfl, ?_⟩) hS ?_; rotate_left; focus (intro uu hu; clear hu; go_simp; try with_reducible rfl)
      refine wpAnyH_take (i := 3) (v := ?_) rfl (by kernel_rfl) (by kernel_rfl) (by kernel_rfl) (fun _ _ _ h => h) (Or.inl ⟨by kernel_rfl, ?_⟩) hS ?_; rotate_left; focus (intro uu hu; clear hu; go_simp; try with_reducible rfl)
      refine wpAnyH_take (i := 5) (v := ?_) rfl (by kernel_rfl) (by kernel_rfl) (by kernel_rfl) (fun _ _ _ h => h) (Or.inl ⟨by kernel_rfl, ?_⟩) hS ?_; rotate_left; focus (intro uu hu; clear hu; go_simp; try with_reducible rfl)
      refine wpAnyH_take (i := 6) (v := ?_) rfl (by kernel_rfl) (by kernel_rfl) (by kernel_rfl) (fun _ _ _ h => h) (Or.inl ⟨by kernel_rfl, ?_⟩) hS ?_; rotate_left; focus (intro uu hu; clear hu; go_simp; try with_reducible rfl)
      refine wpAnyH_take (i := 7) (v := ?_) rfl (by kernel_rfl) (by kernel_rfl) (by kernel_rfl) (fun _ _ _ h => h) (Or.inl ⟨by kernel_rfl, ?_⟩) hS ?_; rotate_left; focus (intro uu hu; clear hu; go_simp; try with_reducible rfl)
      refine wpAnyH_take (i := 8) (v := (.string key)) rfl (by kernel_rfl) (by kernel_rfl) (by kernel_rfl) (fun _ _ _ h => h) (Or.inl ⟨by kernel_rfl, ?ld⟩) hS ?_; case ld => (intro uu hu; have l0 := hu; clear hu; go_simp)
      refine wpAnyH_take (i := 9) (v := ?_) rfl (by kernel_rfl) (by kernel_rfl) (by kernel_rfl) (fun _ _ _ h => h) (Or.inl ⟨by kernel_rfl, ?_⟩) hS ?_; rotate_left; focus (intro uu hu; clear hu; go_simp; try with_reducible rfl)
      refine wpAnyH_take (i := 10) (v := (.int .u8 b)) rfl (by kernel_rfl) (by kernel_rfl) (by kernel_rfl) (fun _ _ _ h => h) (Or.inl ⟨by kernel_rfl, ?ld⟩) hS ?_; case ld => (intro uu hu; clear hu; go_simp)
      refine wpAnyH_ready (rs := [4]) (by kernel_rfl) (by simp) ?_; refine (AllReadyH.cons rfl (fun K hK => ?_) AllReadyH.nil); rw [if_pos (by kernel_rfl)]; go_simp
      refine hK.out _ _ hS (fun hS => ?_)
      clear hK K
      refine wpAnyH_ready (rs := [11]) (by kernel_rfl) (by simp) ?_; refine (AllReadyH.cons rfl (fun K hK => ?_) AllReadyH.nil); rw [if_pos (by kernel_rfl)]; go_simp
      refine (implMixed m b _ m0 m1 rb.1 rb.2).mono ?_; rintro e u1 ⟨rfl, hsame⟩; obtain rfl := hsame.symm; clear hsame
      refine hK.out _ _ hS (fun hS => ?_)
      clear hK K
      refine wpAnyH_take (i := 12) (v := ?_) rfl (by kernel_rfl) (by kernel_rfl) (by kernel_rfl) (fun _ _ _ h => h) (Or.inl ⟨by kernel_rfl, ?_⟩) hS ?_; rotate_left; focus (intro uu hu; clear hu; go_simp; try with_reducible rfl)
      refine wpAnyH_take (i := 13) (v := ?_) rfl (by kernel_rfl) (by kernel_rfl) (by kernel_rfl) (fun _ _ _ h => h) (Or.inl ⟨by kernel_rfl, ?_⟩) hS ?_; rotate_left; focus (intro uu hu; clear hu; go_simp; try with_reducible rfl)
      refine wpAnyH_ready (rs := [14]) (by kernel_rfl) (by simp) ?_; refine (AllReadyH.cons rfl (fun K hK => ?_) AllReadyH.nil); rw [if_pos (by kernel_rfl)]; go_simp
      have R3 := hide (R2.out.set 5 (.int .i64 (macS m b)))
      refine hK.out _ _ (R3.out.cell (j := 0) rfl) (fun hS => ?_)
      clear hK K
      refine wpAnyH_done (by kernel_rfl) ?_ _
      skip
      clear q0 q5 zq y0 y4 y5 z4 z5
      have HB2 : Hid (Below g w (((wr.setCell ⟨g, 4, none⟩ (.int .i64 f')).drew).setCell ⟨g, 5, none⟩ (.int .i64 (macS m b)))) := (((HB.out.setCell (p := ⟨g, 4, none⟩) (Nat.le_refl _) _).drew).setCell (p := ⟨g, 5, none⟩) (Nat.le_refl _) _)
      go_wp2_with fail
      go_round
      case rel => exact ⟨k + 1, by go_num, by omega, by rw [HT1.out, HT2.out]; exact R3.out, HB2.out⟩
      case measure => simp [intOf]; omega
    · obtain rfl : k = key.size := by omega
      have hE : (bys key).take key.size = bys key := List.take_of_length_le (by rw [bys_len]; omega)
      rw [hE] at R
      have RS := hide R
      clear R hE
      go_wp2_with fail
      go_end0
      exact ⟨rfl, RS.out, HB.out⟩
theorem onceNot (x : Bool) (w : World) : (Op.unary .not (.bool x)).run Tryz.prog w = .ok (.bool (!x)) w := rfl
set_option maxRecDepth 100000 in
set_option maxHeartbeats 1600000 in
theorem onceSlow (key : ByteArray) (g : Nat) (w : World) (hk : key.size ≤ maxLen) (h : RowIs w g 119 [.string key, .int .u32 0, .int .i32 0, .int .u32 0, .int .i64 0, .int .i64 0]) :
    Calls Tryz.prog 124 #[.pointer (some ⟨g, 1, none⟩), (.func (.func 117) #[.pointer (some ⟨g, 0, none⟩)] #[])] w fun e w' => e = .returned (.tuple #[]) ∧ RowIs w' g 119 [.string key, .int .u32 1, .int .i32 0, .int .u32 0, .int .i64 (facL 1 (bys key)), .int .i64 (macL 0 (bys key))] ∧ Below g w w' := by
  have R1 := h.set 2 (.int .i32 1)
  have B1 : Below g w (w.setCell ⟨g, 2, none⟩ (.int .i32 1)) := (Below.refl g w).setCell (p := ⟨g, 2, none⟩) (Nat.le_refl _) _
  have x2 := h.cell (j := 2) rfl
  have z2 := h.frozen 2
  have y1 := R1.cell (j := 1) rfl
  have hl := run_call_load (P := Tryz.prog) Tryz.func125 (by kernel_rfl) (by kernel_rfl) (by kernel_rfl) .u32 (by kernel_rfl) (w := w.setCell ⟨g, 2, none⟩ (.int .i32 1)) (a := ⟨g, 1, none⟩) (x := 0) y1
  have hnot := onceNot
  have HR1 := hide R1; have HB1 := hide B1
  clear R1 B1 h
  go_enter_defers Tryz.func124, Tryz.ntmps124
  go_wp2_with (go_at_call 126; refine (oLock ⟨g, 2, none⟩ _ x2 z2).mono ?_; rintro e w' ⟨rfl, rfl⟩)
  go_wp2_with (first | (go_at_call 123; go_in) | (go_at_call 117; refine (implFold key 0 1 g _ hk HR1.out).mono ?_; rintro e w2 ⟨rfl, R2, b2⟩; refine Hid.out ?_))
  have HR2 := hide R2
  have HB2 : Hid (Below g w w2) := HB1.out.trans b2
  clear R2 b2
  refine hide ?_
  go_wp2
  refine leaves_cons (f := 128) (args := #[.pointer (some ⟨g, 1, none⟩), .bool true]) (by simp) (by simp [go_sem]) ?_
  refine (oStore ⟨g, 1, none⟩ (.int .u32 0) .returning _ (HR2.out.cell (j := 1) rfl) (HR2.out.frozen 1)).mono ?_
  rintro e u' w3 ⟨rfl, rfl, rfl⟩
  refine leaves_cons (f := 127) (args := #[.pointer (some ⟨g, 2, none⟩)]) (by simp [settle]) (by simp [go_sem]) ?_
  have R3 : RowIs (w2.drew.setCell ⟨g, 1, none⟩ (.int .u32 1)) g 119 [.string key, .int .u32 1, .int .i32 1, .int .u32 0, .int .i64 (facL 1 (bys key)), .int .i64 (macL 0 (bys key))] := RowIs.set (w := w2.drew) HR2.out 1 (.int .u32 1)
  have R4 := R3.set 2 (.int .i32 0)
  have B4 : Below g w ((w2.drew.setCell ⟨g, 1, none⟩ (.int .u32 1)).setCell ⟨g, 2, none⟩ (.int .i32 0)) := ((HB2.out.drew.setCell (p := ⟨g, 1, none⟩) (Nat.le_refl _) _).setCell (p := ⟨g, 2, none⟩) (Nat.le_refl _) _)
  refine (oUnlock ⟨g, 2, none⟩ _ _ (R3.cell (j := 2) rfl) (R3.frozen 2)).mono ?_
  rintro e u' w4 ⟨rfl, rfl, rfl⟩
  have Q4 := hide (And.intro R4 B4)
  clear R3 R4 B4 HR2 HB2 HR1 HB1
  simp [Leaves, settle, results, Tryz.results124]
  exact Q4.out
set_option maxRecDepth 100000 in
set_option maxHeartbeats 1600000 in
theorem onceFirst (key : ByteArray) (g : Nat) (w : World) (hk : key.size ≤ maxLen) (h : RowIs w g 119 [.string key, .int .u32 0, .int .i32 0, .int .u32 0, .int .i64 0, .int .i64 0]) :
    Calls Tryz.prog 116 #[.pointer (some ⟨g, 1, none⟩), (.func (.func 117) #[.pointer (some ⟨g, 0, none⟩)] #[])] w fun e w' => e = .returned (.tuple #[]) ∧ RowIs w' g 119 [.string key, .int .u32 1, .int .i32 0, .int .u32 0, .int .i64 (facL 1 (bys key)), .int .i64 (macL 0 (bys key))] ∧ Below g w w' := by
  have x1 := h.cell (j := 1) rfl
  have hl := run_call_load (P := Tryz.prog) Tryz.func125 (by kernel_rfl) (by kernel_rfl) (by kernel_rfl) .u32 (by kernel_rfl) x1
  have hnot := onceNot
  have H := hide h
  clear h
  go_enter Tryz.func116, Tryz.ntmps116
  go_wp2_with (first | (go_at_call 123; go_in) | (go_at_call 124; refine (onceSlow key g _ hk H.out).mono ?_; rintro e w2 ⟨rfl, R2, b2⟩; refine Hid.out ?_))
  have Q := hide (And.intro R2 b2)
  clear R2 b2
  refine hide ?_
  go_wp2
  go_end0
  exact ⟨rfl, Q.out⟩
theorem onceDone (key : ByteArray) (f m : Int) (g : Nat) (w : World) (h : RowIs w g 119 [.string key, .int .u32 1, .int .i32 0, .int .u32 0, .int .i64 f, .int .i64 m]) (fv : Value) :
    Calls Tryz.prog 116 #[.pointer (some ⟨g, 1, none⟩), fv] w fun e w' => e = .returned (.tuple #[]) ∧ w' = w := by
  have x1 := h.cell (j := 1) rfl
  have hl := run_call_load (P := Tryz.prog) Tryz.func125 (by kernel_rfl) (by kernel_rfl) (by kernel_rfl) .u32 (by kernel_rfl) x1
  have hnot := onceNot
  clear h
  go_enter Tryz.func116, Tryz.ntmps116
  go_wp2
  go_end0
  exact ⟨rfl, rfl⟩
end Go.Proofs.YtfemmnhfllbgjaaGreatDoor
/- What the listed package-level variables hold when the call begins (strconv's table and errors, tables of math/bits and unicode/utf8), what follows of it for the walk, and a world in which they lie so. -/
namespace Go.Proofs.YtfemmnhfllbgjaaGreatDoor
open Go.RowKit
set_option maxRecDepth 100000
set_option linter.unusedSimpArgs false
set_option linter.unusedVariables false
theorem powData : (Rows.laid_internal_strconv_uint64pow10 : DataW Unit) = Lib.tabData .u64 Lib.pow10Tab := by kernel_rfl
theorem tabV_of {W : World} {r : List (String × DataW Unit)} (h : laidMet Tryz.prog (("internal/strconv.uint64pow10", Rows.laid_internal_strconv_uint64pow10) :: r) W) : TabV W := by
  rw [powData] at h
  exact Lib.tabIs_of_head (g := 3) (t := 148) (e := 127) (n := 20) (by kernel_rfl) (by kernel_rfl) Tryz.underlying148 Tryz.underlying127 (by kernel_rfl) (by kernel_rfl) h
theorem tabs_of3 {W : World} (h : laidMet Tryz.prog [("math/bits.deBruijn32tab", Rows.laid_math_bits_deBruijn32tab), ("math/bits.deBruijn64tab", Rows.laid_math_bits_deBruijn64tab), ("internal/strconv.uint64pow10", Rows.laid_internal_strconv_uint64pow10)] W) : TabV W := tabV_of h.tail.tail
theorem esStar14 : "*" ++ "errors.errorString" = "*errors.errorString" := by decide
theorem esRow14 (u : TypeId) (h : Tryz.prog.typeName? 3 u = some "*errors.errorString") : u = 159 :=
  typeName_ptr_named (nm := "errors.errorString") (by rw [esStar14]; kernel_rfl) (by kernel_rfl) (by decide) u (by rw [esStar14]; exact h)
theorem esCells14 : Tryz.prog.cellsOf 161 = 1 := by kernel_rfl
theorem strCells14 : Tryz.prog.cellsOf 9 = 1 := by kernel_rfl
theorem libs_of7 {W : World} (h : laidMet Tryz.prog [("math/bits.deBruijn32tab", Rows.laid_math_bits_deBruijn32tab), ("math/bits.deBruijn64tab", Rows.laid_math_bits_deBruijn64tab), ("internal/strconv.uint64pow10", Rows.laid_internal_strconv_uint64pow10), ("unicode/utf8.acceptRanges", Rows.laid_unicode_utf8_acceptRanges), ("strconv.ErrRange", Rows.laid_strconv_ErrRange), ("strconv.ErrSyntax", Rows.laid_strconv_ErrSyntax), ("unicode/utf8.first", Rows.laid_unicode_utf8_first)] W) (hs : W.ShapedOpen Tryz.prog) : TabV W ∧ ErrV W := by
  have h2 := h.tail.tail
  have h4 := h2.tail.tail
  have h5 := h4.tail
  obtain ⟨a0, s0, hv0, -, -, -⟩ := laid_sentinel h4 (g := 2) (ti := 93) (by kernel_rfl) (by kernel_rfl) Tryz.underlying93 esRow14 Tryz.underlying159 Tryz.underlying161 rfl rfl Tryz.underlying9 esCells14 strCells14
  obtain ⟨a1, s1, hv1, -, -, -⟩ := laid_sentinel h5 (g := 1) (ti := 93) (by kernel_rfl) (by kernel_rfl) Tryz.underlying93 esRow14 Tryz.underlying159 Tryz.underlying161 rfl rfl Tryz.underlying9 esCells14 strCells14
  exact ⟨tabV_of h2, ⟨_, _, hv1⟩, ⟨_, _, hv0⟩, cell_of_shapedOpen_int (zero := #[.int .i64 0]) (t := 3) hs (by decide) (by kernel_rfl) rfl (by kernel_rfl) (by kernel_rfl) Tryz.underlying3⟩
/-- A datum of numbers, cell by cell. -/
def flatD : Nat → DataW Unit → List Value
  | 0, _ => []
  | _ + 1, .lit (.int k z) => [.int k z]
  | n + 1, .agg ps => ps.flatMap (flatD n)
  | _ + 1, _ => []
def putV (h : Array Obj) (g : Nat) (cs : Array Value) : Array Obj := h.modify g fun
  | .cells _ t frozen => .cells cs t frozen
  | o => o
/-- The listed variables laid as they are listed; the two errors from block n on. -/
def putAll (h : Array Obj) (n : Nat) : Array Obj :=
  let h1 := putV h 6 (flatD 3 Rows.laid_math_bits_deBruijn32tab).toArray
  let h2 := putV h1 7 (flatD 3 Rows.laid_math_bits_deBruijn64tab).toArray
  let h3 := putV h2 3 (flatD 3 Rows.laid_internal_strconv_uint64pow10).toArray
  let h4 := putV h3 5 (flatD 3 Rows.laid_unicode_utf8_acceptRanges).toArray
  let h5 := putV h4 2 #[.iface 159 (.pointer (some ⟨n, 0, none⟩))]
  let h6 := putV h5 1 #[.iface 159 (.pointer (some ⟨n + 1, 0, none⟩))]
  putV h6 4 (flatD 3 Rows.laid_unicode_utf8_first).toArray
theorem laid3 (os : Os) (args : Array Value) : laidMet Tryz.prog [("math/bits.deBruijn32tab", Rows.laid_math_bits_deBruijn32tab), ("math/bits.deBruijn64tab", Rows.laid_math_bits_deBruijn64tab), ("internal/strconv.uint64pow10", Rows.laid_internal_strconv_uint64pow10)] (({ World.holding Tryz.prog os ⟨#[.cells #[.string ⟨#[118, 97, 108, 117, 101, 32, 111, 117, 116, 32, 111, 102, 32, 114, 97, 110, 103, 101]⟩] 161, .cells #[.string ⟨#[105, 110, 118, 97, 108, 105, 100, 32, 115, 121, 110, 116, 97, 120]⟩] 161], #[], []⟩ with heap := putAll (World.holding Tryz.prog os ⟨#[.cells #[.string ⟨#[118, 97, 108, 117, 101, 32, 111, 117, 116, 32, 111, 102, 32, 114, 97, 110, 103, 101]⟩] 161, .cells #[.string ⟨#[105, 110, 118, 97, 108, 105, 100, 32, 115, 121, 110, 116, 97, 120]⟩] 161], #[], []⟩).heap (World.settled Tryz.prog os).heap.size } : World).forCall (fun _ _ => 0) ⟨#[], args, []⟩).memory :=
  (LaidIn.of_run [6, 7, 3] 8 (by kernel_rfl) (by kernel_rfl) (by kernel_rfl) (by kernel_rfl)).met
theorem laid7 (os : Os) (args : Array Value) : laidMet Tryz.prog [("math/bits.deBruijn32tab", Rows.laid_math_bits_deBruijn32tab), ("math/bits.deBruijn64tab", Rows.laid_math_bits_deBruijn64tab), ("internal/strconv.uint64pow10", Rows.laid_internal_strconv_uint64pow10), ("unicode/utf8.acceptRanges", Rows.laid_unicode_utf8_acceptRanges), ("strconv.ErrRange", Rows.laid_strconv_ErrRange), ("strconv.ErrSyntax", Rows.laid_strconv_ErrSyntax), ("unicode/utf8.first", Rows.laid_unicode_utf8_first)] (({ World.holding Tryz.prog os ⟨#[.cells #[.string ⟨#[118, 97, 108, 117, 101, 32, 111, 117, 116, 32, 111, 102, 32, 114, 97, 110, 103, 101]⟩] 161, .cells #[.string ⟨#[105, 110, 118, 97, 108, 105, 100, 32, 115, 121, 110, 116, 97, 120]⟩] 161], #[], []⟩ with heap := putAll (World.holding Tryz.prog os ⟨#[.cells #[.string ⟨#[118, 97, 108, 117, 101, 32, 111, 117, 116, 32, 111, 102, 32, 114, 97, 110, 103, 101]⟩] 161, .cells #[.string ⟨#[105, 110, 118, 97, 108, 105, 100, 32, 115, 121, 110, 116, 97, 120]⟩] 161], #[], []⟩).heap (World.settled Tryz.prog os).heap.size } : World).forCall (fun _ _ => 0) ⟨#[], args, []⟩).memory :=
  (LaidIn.of_run [6, 7, 3, 5, 2, 1, 4, (World.settled Tryz.prog default).heap.size, (World.settled Tryz.prog default).heap.size + 1] 8 (by kernel_rfl) (by kernel_rfl) (by kernel_rfl) (by kernel_rfl)).met
end Go.Proofs.YtfemmnhfllbgjaaGreatDoor
