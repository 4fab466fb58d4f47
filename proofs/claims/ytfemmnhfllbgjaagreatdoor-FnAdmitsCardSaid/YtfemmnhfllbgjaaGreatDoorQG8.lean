/- Several small texts of one level, one behind the other. -/
import Derived.Test.YtfemmnhfllbgjaaGreatDoorQG7
import Derived.Deep.RegionHeld3
import Derived.Deep.DeepCutAuto
/- Chapter 14's model: tokens made, read and signed. -/
namespace Go.Proofs.YtfemmnhfllbgjaaGreatDoor
open Go.RowKit
set_option maxRecDepth 100000
set_option linter.unusedSimpArgs false
set_option linter.unusedVariables false
theorem tok_parts {name : ByteArray} {u : Int} {key : ByteArray} (h : nameB name = true ∧ timeB u = true ∧ key.size ≤ 40) :
    name ++ (⟨#[46]⟩ : ByteArray) ++ strOf (decL u.toNat) = strOf (tokB name u) ∧ strOf (tokB name u) ++ (⟨#[46]⟩ : ByteArray) ++ strOf (decL (macV key (strOf (tokB name u))).toNat) = tokV name u key := by
  have e46 : bys (⟨#[46]⟩ : ByteArray) = [46] := rfl
  have hd : ∀ k, ∀ x ∈ decL k, 0 ≤ x ∧ x ≤ 255 := fun k x hx => by have := decL_range k x hx; omega
  constructor
  · refine bys_inj ?_
    rw [bys_append, bys_append, e46, bys_strOf (hd _), bys_strOf tok_range, List.append_assoc]; rfl
  · refine bys_inj ?_
    unfold tokV
    rw [bys_append, bys_append, e46, bys_strOf (hd _), bys_strOf tok_range, bys_strOf tokL_range, List.append_assoc]
    unfold tokL
    rw [if_pos h]
theorem tokV_no {name : ByteArray} {u : Int} {key : ByteArray} (h : ¬ (nameB name = true ∧ timeB u = true ∧ key.size ≤ 40)) : tokV name u key = ⟨#[]⟩ := tok_empty.2 h
theorem name_size {s : ByteArray} (h : nameB s = true) : 1 ≤ s.size ∧ s.size ≤ 20 := by
  unfold nameB at h
  simp only [Bool.and_eq_true] at h
  have := inB_true h.2
  omega
set_option maxHeartbeats 2000000 in
theorem specToken (name : ByteArray) (u : Int) (key : ByteArray) (w : World) (hn : name.size ≤ maxLen) (hk : key.size ≤ maxLen) : Calls Tryz.prog 61 #[.string name, .int .i64 u, .string key] w fun x w' => x = .returned (.string (tokV name u key)) ∧ Below w.heap.size w w' := by
  have hnm := fun w => specName name w hn
  have htm := fun w => specTime14 u w
  have hmc := fun t w ht => specMac key t w hk ht
  unfold maxLen at hn hk
  cases h1 : nameB name
  · rw [h1] at hnm
    rw [tokV_no (by rw [h1]; simp)]
    go_enter Tryz.func61, Tryz.ntmps61
    go_wp2_with fail
    refine (hnm _).mono ?_; rintro x w1 ⟨rfl, hb1⟩
    go_wp2_with fail
    go_ret
    exact ⟨rfl, hb1⟩
  rw [h1] at hnm
  cases h2 : timeB u
  · rw [h2] at htm
    rw [tokV_no (by rw [h2]; simp)]
    go_enter Tryz.func61, Tryz.ntmps61
    go_wp2_with fail
    refine (hnm _).mono ?_; rintro x w1 ⟨rfl, hb1⟩
    go_wp2_with fail
    refine (htm _).mono ?_; rintro e w2 ⟨rfl, hsame⟩; obtain rfl := hsame.symm; clear hsame
    go_wp2_with fail
    go_ret
    exact ⟨rfl, hb1⟩
  rw [h2] at htm
  by_cases h3 : (40 : Int) < key.size
  · rw [tokV_no (by omega)]
    go_enter Tryz.func61, Tryz.ntmps61
    go_wp2_with fail
    refine (hnm _).mono ?_; rintro x w1 ⟨rfl, hb1⟩
    go_wp2_with fail
    refine (htm _).mono ?_; rintro e w2 ⟨rfl, hsame⟩; obtain rfl := hsame.symm; clear hsame
    go_wp2_with fail
    go_ret
    exact ⟨rfl, hb1⟩
  obtain ⟨p1, p2⟩ := tok_parts (name := name) (u := u) (key := key) ⟨h1, h2, by omega⟩
  obtain ⟨t0, t1⟩ := inB_true h2
  have hns := name_size h1
  obtain ⟨un, rfl⟩ : ∃ n : Nat, u = n := ⟨u.toNat, by omega⟩
  have hud : (decL un).length ≤ 7 := decL_short 7 un (by omega) (by decide)
  rw [Int.toNat_natCast] at p1
  obtain ⟨s1, hs1⟩ : ∃ s1, strOf (decL un) = s1 := ⟨_, rfl⟩
  have hz1 : s1.size ≤ 7 := by rw [← hs1, strOf_size]; exact hud
  obtain ⟨s2, hs2⟩ : ∃ s2, strOf (tokB name (un : Int)) = s2 := ⟨_, rfl⟩
  rw [hs1, hs2] at p1
  rw [hs2] at p2
  have hz2 : s2.size ≤ 28 := by rw [← p1, ba_size_append, ba_size_append]; show name.size + 1 + s1.size ≤ 28; omega
  have hmr := macV_range key s2
  obtain ⟨mn, hmn⟩ : ∃ n : Nat, macV key s2 = n := ⟨(macV key s2).toNat, by omega⟩
  have hmd : (decL mn).length ≤ 10 := decL_short 10 mn (by omega) (by decide)
  rw [hmn, Int.toNat_natCast] at p2
  obtain ⟨s3, hs3⟩ : ∃ s3, strOf (decL mn) = s3 := ⟨_, rfl⟩
  have hz3 : s3.size ≤ 10 := by rw [← hs3, strOf_size]; exact hmd
  rw [hs3] at p2
  have hmac := fun w => hmc s2 w (by unfold maxLen; omega)
  rw [hmn] at hmac
  have hi1 := fun w => specInt un w (by omega)
  have hi2 := fun w => specInt mn w (by omega)
  rw [hs1] at hi1
  rw [hs3] at hi2
  have hnI : (name.size : Int) ≤ 20 := by omega
  have q1 : (name ++ (⟨#[46]⟩ : ByteArray)).size ≤ 21 := by rw [ba_size_append]; show name.size + 1 ≤ 21; omega
  have q2 : (s2 ++ (⟨#[46]⟩ : ByteArray)).size ≤ 29 := by rw [ba_size_append]; show s2.size + 1 ≤ 29; omega
  have b1 : (name ++ (⟨#[46]⟩ : ByteArray)).size + s1.size ≤ 9223372036854775807 := by omega
  have b2 : (s2 ++ (⟨#[46]⟩ : ByteArray)).size + s3.size ≤ 9223372036854775807 := by omega
  obtain ⟨x1, hx1⟩ : ∃ x1, name ++ (⟨#[46]⟩ : ByteArray) = x1 := ⟨_, rfl⟩
  obtain ⟨x2, hx2⟩ : ∃ x2, s2 ++ (⟨#[46]⟩ : ByteArray) = x2 := ⟨_, rfl⟩
  rw [hx1] at p1 q1 b1
  rw [hx2] at p2 q2 b2
  obtain ⟨A, hA⟩ : ∃ A, tokV name (un : Int) key = A := ⟨_, rfl⟩
  rw [hA] at p2 ⊢
  clear hA hs1 hs2 hs3 hmn hmr h1 h2 hmc hn hk
  go_enter Tryz.func61, Tryz.ntmps61
  go_wp2_with fail
  refine (hnm _).mono ?_; rintro x w1 ⟨rfl, hb1⟩
  go_wp2_with fail
  refine (htm _).mono ?_; rintro e w2 ⟨rfl, hsame⟩; obtain rfl := hsame.symm; clear hsame
  go_wp2_with fail
  refine (hi1 _).mono ?_; rintro x w3 ⟨rfl, hb3⟩
  go_wp2_with fail
  refine (hmac _).mono ?_; rintro x w4 ⟨rfl, hb4⟩
  go_wp2_with fail
  refine (hi2 _).mono ?_; rintro x w5 ⟨rfl, hb5⟩
  go_wp2_with fail
  go_ret
  exact ⟨rfl, bchain (bchain (bchain hb1 hb3) hb4) hb5⟩
theorem split_len {l : List Int} : ∀ x ∈ splitL l, x.length ≤ l.length := by
  induction l with
  | nil => intro x hx; simp [splitL] at hx; subst hx; simp
  | cons b l ih =>
    intro x hx
    rw [splitL] at hx
    split at hx
    · rcases List.mem_cons.1 hx with rfl | h
      · simp
      · have := ih x h; simp; omega
    · split at hx
      · simp at hx; subst hx; simp
      · rename_i y r hy
        rcases List.mem_cons.1 hx with rfl | h
        · have := ih y (by rw [hy]; simp); simp; omega
        · have := ih x (by rw [hy]; simp [h]); simp; omega
theorem read_three {s : ByteArray} {x y z : List Int} (h : splitL (bys s) = [x, y, z]) : readV s = if nameB (strOf x) = true ∧ (digV (strOf y) 9).2 = true ∧ (digV (strOf z) 10).2 = true ∧ timeB (digV (strOf y) 9).1 = true ∧ inB (digV (strOf z) 10).1 0 2147483646 = true then (strOf x, (digV (strOf y) 9).1, true) else (⟨#[]⟩, 0, false) := by
  unfold readV; rw [h]
theorem read_other {s : ByteArray} (h : (splitL (bys s)).length ≠ 3) : readV s = (⟨#[]⟩, 0, false) := by
  unfold readV
  split
  · rename_i x y z e; rw [e] at h; simp at h
  · rfl
theorem read_size (s : ByteArray) : (readV s).1.size ≤ s.size := by
  unfold readV
  split
  · rename_i x y z e
    split
    · have := split_len (l := bys s) x (by rw [e]; simp)
      simp only [strOf_size]
      rw [bys_len] at this; exact this
    · show 0 ≤ _; omega
  · show 0 ≤ _; omega
set_option maxHeartbeats 2000000 in
theorem specReadToken (s : ByteArray) (w : World) (hs : s.size ≤ 2000000) : Calls Tryz.prog 38 #[.string s] w fun x w' => x = .returned (.tuple #[.string (readV s).1, .int .i64 (readV s).2.1, .bool (readV s).2.2]) ∧ Below w.heap.size w w' := by
  have hsp := specSplit s w hs
  obtain ⟨⟨an, au, ab⟩, hA⟩ : ∃ A, readV s = A := ⟨_, rfl⟩
  rw [hA]
  dsimp only
  by_cases h3 : (splitL (bys s)).length = 3
  rotate_left
  · have hr := read_other h3
    rw [hA] at hr
    simp only [Prod.mk.injEq] at hr
    obtain ⟨rfl, rfl, rfl⟩ := hr
    obtain ⟨L, hL⟩ : ∃ L, splitL (bys s) = L := ⟨_, rfl⟩
    rw [hL] at hsp h3
    have h3I : ((L.length : Int) != 3) = true := by simp; omega
    clear hA hL
    go_enter Tryz.func38, Tryz.ntmps38
    go_wp2_with fail
    refine hsp.mono ?_; rintro x w1 ⟨v, rfl, ho, hb1⟩
    obtain ⟨a1, p1, rfl, q1, q2⟩ := owns_form ho
    unfold maxLen at q2
    clear ho
    go_wp2_with fail
    go_ret3
    exact ⟨rfl, hb1⟩
  obtain ⟨x, y, z, hL⟩ : ∃ x y z, splitL (bys s) = [x, y, z] := by
    cases hl : splitL (bys s) with
    | nil => rw [hl] at h3; simp at h3
    | cons x l => cases l with
      | nil => rw [hl] at h3; simp at h3
      | cons y l => cases l with
        | nil => rw [hl] at h3; simp at h3
        | cons z l => cases l with
          | nil => exact ⟨x, y, z, rfl⟩
          | cons _ _ => rw [hl] at h3; simp at h3
  have hrd := read_three hL
  rw [hA] at hrd
  have hlx : ∀ t ∈ [x, y, z], (strOf t).size ≤ maxLen := fun t ht => by
    have := split_len (l := bys s) t (by rw [hL]; exact ht)
    rw [bys_len] at this
    rw [strOf_size]; unfold maxLen; omega
  rw [hL] at hsp
  have hn := fun w => specName (strOf x) w (hlx x (by simp))
  have hy := fun w => specReadT (strOf y) w (hlx y (by simp))
  have hz := fun w => specDigits (strOf z) 10 w (hlx z (by simp)) (by decide)
  obtain ⟨X, hX⟩ : ∃ X, strOf x = X := ⟨_, rfl⟩
  obtain ⟨Y, hY⟩ : ∃ Y, strOf y = Y := ⟨_, rfl⟩
  obtain ⟨Z, hZ⟩ : ∃ Z, strOf z = Z := ⟨_, rfl⟩
  have hsv : sv14 [x, y, z] = [.string X, .string Y, .string Z] := by rw [← hX, ← hY, ← hZ]; rfl
  rw [hsv] at hsp
  rw [hX, hY, hZ] at hrd
  rw [hX] at hn
  rw [hY] at hy
  rw [hZ] at hz
  obtain ⟨⟨yv, yb⟩, hyv⟩ : ∃ q, digV Y 9 = q := ⟨_, rfl⟩
  obtain ⟨⟨zv, zb⟩, hzv⟩ : ∃ q, digV Z 10 = q := ⟨_, rfl⟩
  rw [hyv] at hrd hy
  rw [hzv] at hrd hz
  dsimp only at hrd hy hz
  have htm := fun w => specTime14 yv w
  have hin := fun w => specIn zv 0 2147483646 w
  have HRD := hide hrd
  clear hrd hA hL hlx hsv hX hY hZ hyv hzv h3
  have hl3 : ([x, y, z] : List (List Int)).length = 3 := rfl
  rw [hl3] at hsp
  clear hl3
  go_enter Tryz.func38, Tryz.ntmps38
  go_wp2_with fail
  refine hsp.mono ?_; rintro e w1 ⟨v, rfl, ho, hb1⟩
  obtain ⟨a1, p1, rfl, q1, q2⟩ := owns_form ho
  unfold maxLen at q2
  obtain ⟨g', gc, hsl, _, _, hgl, _, _, hc, hf⟩ := owns_open ho (by decide)
  simp only [Value.slice.injEq] at hsl
  obtain ⟨rfl, -, -⟩ := hsl
  have c0 := hc 0 (.string X) rfl
  have c1 := hc 1 (.string Y) rfl
  have c2 := hc 2 (.string Z) rfl
  have HBW := hide hb1
  clear hsp ho hc hf hb1
  go_wp2_with fail
  refine (hn _).mono ?_
  cases h1 : nameB X
  · rintro e w2 ⟨rfl, hb2⟩
    have HF : Hid ((an, au, ab) = ((⟨#[]⟩ : ByteArray), (0 : Int), false)) := by show _ = _; rw [HRD.out, if_neg (by rw [h1]; simp)]
    have hf := HF.out
    simp only [Prod.mk.injEq] at hf
    obtain ⟨rfl, rfl, rfl⟩ := hf
    go_wp2_with fail
    go_ret3
    exact ⟨rfl, bchain HBW.out hb2⟩
  rintro e w2 ⟨rfl, hb2⟩
  replace c0 := (hb2.cell (p := ⟨g', 0, none⟩) hgl).trans c0
  replace c1 := (hb2.cell (p := ⟨g', 1, none⟩) hgl).trans c1
  replace c2 := (hb2.cell (p := ⟨g', 2, none⟩) hgl).trans c2
  have hgl2 : g' < w2.heap.size := Nat.lt_of_lt_of_le hgl hb2.size
  replace HBW := hide (bchain HBW.out hb2)
  clear hb2 hgl
  go_wp2_with fail
  refine (hy _).mono ?_; rintro e w3 ⟨rfl, hsame⟩; obtain rfl := hsame.symm; clear hsame
  go_wp2_with fail
  refine (hz _).mono ?_; rintro e w4 ⟨rfl, hsame⟩; obtain rfl := hsame.symm; clear hsame
  cases yb
  · (have HF : Hid ((an, au, ab) = ((⟨#[]⟩ : ByteArray), (0 : Int), false)) := (by show _ = _; rw [HRD.out, if_neg (by simp)])); (have hf := HF.out); simp only [Prod.mk.injEq] at hf; obtain ⟨rfl, rfl, rfl⟩ := hf
    go_wp2_with fail
    go_ret3
    exact ⟨rfl, HBW.out⟩
  cases zb
  · (have HF : Hid ((an, au, ab) = ((⟨#[]⟩ : ByteArray), (0 : Int), false)) := (by show _ = _; rw [HRD.out, if_neg (by simp)])); (have hf := HF.out); simp only [Prod.mk.injEq] at hf; obtain ⟨rfl, rfl, rfl⟩ := hf
    go_wp2_with fail
    go_ret3
    exact ⟨rfl, HBW.out⟩
  cases h2 : timeB yv
  · rw [h2] at htm
    (have HF : Hid ((an, au, ab) = ((⟨#[]⟩ : ByteArray), (0 : Int), false)) := (by show _ = _; rw [HRD.out, if_neg (by rw [h2]; simp)])); (have hf := HF.out); simp only [Prod.mk.injEq] at hf; obtain ⟨rfl, rfl, rfl⟩ := hf
    go_wp2_with fail
    refine (htm _).mono ?_; rintro e w5 ⟨rfl, hsame⟩; obtain rfl := hsame.symm; clear hsame
    go_wp2_with fail
    go_ret3
    exact ⟨rfl, HBW.out⟩
  rw [h2] at htm
  cases h4 : inB zv 0 2147483646
  · rw [h4] at hin
    (have HF : Hid ((an, au, ab) = ((⟨#[]⟩ : ByteArray), (0 : Int), false)) := (by show _ = _; rw [HRD.out, if_neg (by rw [h4]; simp)])); (have hf := HF.out); simp only [Prod.mk.injEq] at hf; obtain ⟨rfl, rfl, rfl⟩ := hf
    go_wp2_with fail
    refine (htm _).mono ?_; rintro e w5 ⟨rfl, hsame⟩; obtain rfl := hsame.symm; clear hsame
    go_wp2_with fail
    refine (hin _).mono ?_; rintro e w6 ⟨rfl, hsame⟩; obtain rfl := hsame.symm; clear hsame
    go_wp2_with fail
    go_ret3
    exact ⟨rfl, HBW.out⟩
  rw [h4] at hin
  have HF : Hid ((an, au, ab) = (X, yv, true)) := by show _ = _; rw [HRD.out, if_pos ⟨h1, rfl, rfl, h2, h4⟩]
  have hf := HF.out
  simp only [Prod.mk.injEq] at hf
  obtain ⟨rfl, rfl, rfl⟩ := hf
  go_wp2_with fail
  refine (htm _).mono ?_; rintro e w5 ⟨rfl, hsame⟩; obtain rfl := hsame.symm; clear hsame
  go_wp2_with fail
  refine (hin _).mono ?_; rintro e w6 ⟨rfl, hsame⟩; obtain rfl := hsame.symm; clear hsame
  go_wp2_with fail
  go_ret3
  exact ⟨rfl, HBW.out⟩
set_option maxHeartbeats 2000000 in
theorem specSigned (s key : ByteArray) (now : Int) (w : World) (hs : s.size ≤ 2000000) (hk : key.size ≤ maxLen) : Calls Tryz.prog 39 #[.string s, .string key, .int .i64 now] w fun x w' => x = .returned (.bool (signV s key now)) ∧ Below w.heap.size w w' := by
  have hr := specReadToken s w hs
  have hz := read_size s
  obtain ⟨A, hA⟩ : ∃ A, signV s key now = A := ⟨_, rfl⟩
  have HA : Hid (A = ((readV s).2.2 && decide (now < (readV s).2.1) && decide (s = tokV (readV s).1 (readV s).2.1 key))) := hA.symm
  rw [hA]
  clear hA
  obtain ⟨⟨an, au, ab⟩, hv⟩ : ∃ q, readV s = q := ⟨_, rfl⟩
  rw [hv] at hr hz HA
  dsimp only at hr hz HA
  have ht := fun w => specToken an au key w (by unfold maxLen; omega) hk
  clear hv
  cases ab
  · have HF : Hid (A = false) := by show A = false; rw [HA.out]; rfl
    go_enter Tryz.func39, Tryz.ntmps39
    go_wp2_with fail
    refine hr.mono ?_; rintro x w1 ⟨rfl, hb1⟩
    go_wp2_with fail
    go_ret
    exact ⟨by rw [HF.out]; rfl, hb1⟩
  by_cases h1 : now < au
  rotate_left
  · have HF : Hid (A = false) := by show A = false; rw [HA.out, decide_eq_false h1]; rfl
    go_enter Tryz.func39, Tryz.ntmps39
    go_wp2_with fail
    refine hr.mono ?_; rintro x w1 ⟨rfl, hb1⟩
    go_wp2_with fail
    go_ret
    exact ⟨by rw [HF.out]; rfl, hb1⟩
  by_cases h2 : s = tokV an au key
  · have HF : Hid (A = true) := by show A = true; rw [HA.out, decide_eq_true h1, decide_eq_true h2]; rfl
    rw [← h2] at ht
    clear h2
    go_enter Tryz.func39, Tryz.ntmps39
    go_wp2_with fail
    refine hr.mono ?_; rintro x w1 ⟨rfl, hb1⟩
    go_wp2_with fail
    refine (ht _).mono ?_; rintro x w2 ⟨rfl, hb2⟩
    go_wp2_with fail
    go_ret
    exact ⟨by rw [HF.out]; first | rfl | simp, bchain hb1 hb2⟩
  · have HF : Hid (A = false) := by show A = false; rw [HA.out, decide_eq_false h2]; simp
    have hne := tl_ne h2
    obtain ⟨t, hte⟩ : ∃ t, tokV an au key = t := ⟨_, rfl⟩
    rw [hte] at ht hne h2
    clear hte
    go_enter Tryz.func39, Tryz.ntmps39
    go_wp2_with fail
    refine hr.mono ?_; rintro x w1 ⟨rfl, hb1⟩
    go_wp2_with fail
    refine (ht _).mono ?_; rintro x w2 ⟨rfl, hb2⟩
    go_wp2_with fail
    go_ret
    exact ⟨by rw [HF.out]; first | rfl | simp [hne] | simp [h2], bchain hb1 hb2⟩
end Go.Proofs.YtfemmnhfllbgjaaGreatDoor
/- The program's mac: a number by the key that was folded. -/
namespace Go.Proofs.YtfemmnhfllbgjaaGreatDoor
open Go.RowKit
set_option maxRecDepth 100000
set_option linter.unusedSimpArgs false
set_option linter.unusedVariables false
set_option maxHeartbeats 1600000 in
theorem mixedKey1 (key : ByteArray) (h : Int) (g : Nat) (w : World) (hk : key.size ≤ maxLen) (h0 : 0 ≤ h) (h1 : h ≤ 2147483646) (R : RowIs w g 119 [.string key, .int .u32 0, .int .i32 0, .int .u32 0, .int .i64 0, .int .i64 0]) :
    Calls Tryz.prog 101 #[.pointer (some ⟨g, 0, none⟩), .int .i64 h] w fun e w' => e = .returned (.int .i64 (macL h (bys key))) ∧ RowIs w' g 119 [.string key, .int .u32 1, .int .i32 0, .int .u32 0, .int .i64 (facL 1 (bys key)), .int .i64 (macL 0 (bys key))] ∧ Below g w w' := by
  have ev := mac_fold (bys key) h0 h1
  have rv := macL_range (bys key) h0 h1
  have rf := facL_range (f := 1) (bys key) (by decide) (by decide)
  have rm := macL_range (h := 0) (bys key) (by decide) (by decide)
  have hfirst := onceFirst key g w hk R
  obtain ⟨F, hF⟩ : ∃ F, facL 1 (bys key) = F := ⟨_, rfl⟩
  obtain ⟨M, hM⟩ : ∃ M, macL 0 (bys key) = M := ⟨_, rfl⟩
  obtain ⟨V, hV⟩ : ∃ V, macL h (bys key) = V := ⟨_, rfl⟩
  rw [hF, hM] at ev hfirst ⊢
  rw [hV] at ev rv ⊢
  rw [hF] at rf
  rw [hM] at rm
  clear hF hM hV R
  have p0 : 0 ≤ h * F := Int.mul_nonneg h0 rf.1
  have p1 : h * F ≤ 2147483646 * 2147483646 := Int.mul_le_mul h1 rf.2 rf.1 (by decide)
  have e1 : IntKind.i64.wrap (h * F) = h * F := by rw [IntKind.wrap_i64]; omega
  have e2 : IntKind.i64.wrap (h * F + M) = h * F + M := by rw [IntKind.wrap_i64]; omega
  have e3 : (h * F + M).tmod 2147483647 = V := by rw [← ev]; exact Int.tmod_eq_emod_of_nonneg (by omega)
  have e4 : IntKind.i64.wrap V = V := by rw [IntKind.wrap_i64]; omega
  clear ev p0 p1
  have hmf : ∀ (fn : Fn) (first cap : Array Value) (w : World), (Instr.makeFunc fn first cap).run Tryz.prog w = .ok (.func fn first cap) w := fun _ _ _ _ => rfl
  go_enter Tryz.func101, Tryz.ntmps101
  go_wp2_with fail
  refine hfirst.mono ?_; rintro e w2 ⟨rfl, R2, b2⟩
  have HR := hide R2; have HB := hide b2
  clear R2 b2 hfirst
  go_wp2_with fail
  have y4 := HR.out.cell (j := 4) rfl; have y5 := HR.out.cell (j := 5) rfl; refine wp_region_held_drew (S := (fun u => u.cell? ⟨g, 4, none⟩ = some (.int .i64 F) ∧ u.cell? ⟨g, 5, none⟩ = some (.int .i64 M))) (by kernel_rfl) (And.intro y4 y5) (fun hS => ?_)
  refine wpAnyH_take (i := 0) (v := ?_) rfl (by kernel_rfl) (by kernel_rfl) (by kernel_rfl) (fun _ _ _ h => h) (Or.inl ⟨by kernel_rfl, ?_⟩) hS ?_; rotate_left; focus (intro uu hu; clear hu; go_simp; try with_reducible rfl)
  refine wpAnyH_take (i := 1) (v := ?_) rfl (by kernel_rfl) (by kernel_rfl) (by kernel_rfl) (fun _ _ _ h => h) (Or.inl ⟨by kernel_rfl, ?_⟩) hS ?_; rotate_left; focus (intro uu hu; clear hu; go_simp; try with_reducible rfl)
  refine wpAnyH_take (i := 2) (v := ?_) rfl (by kernel_rfl) (by kernel_rfl) (by kernel_rfl) (fun _ _ _ h => h) (Or.inl ⟨by kernel_rfl, ?_⟩) hS ?_; rotate_left; focus (intro uu hu; clear hu; go_simp; try with_reducible rfl)
  refine wpAnyH_take (i := 3) (v := ?_) rfl (by kernel_rfl) (by kernel_rfl) (by kernel_rfl) (fun _ _ _ h => h) (Or.inl ⟨by kernel_rfl, ?_⟩) hS ?_; rotate_left; focus (intro uu hu; clear hu; go_simp; try with_reducible rfl)
  refine wpAnyH_take (i := 4) (v := (.int .i64 F)) rfl (by kernel_rfl) (by kernel_rfl) (by kernel_rfl) (fun _ _ _ h => h) (Or.inl ⟨by kernel_rfl, ?ld⟩) hS ?_; case ld => (intro uu hu; have hu2 := hu; obtain ⟨l0, l1⟩ := hu2; clear hu; go_simp)
  refine wpAnyH_take (i := 5) (v := (.int .i64 (h * F))) rfl (by kernel_rfl) (by kernel_rfl) (by kernel_rfl) (fun _ _ _ h => h) (Or.inl ⟨by kernel_rfl, ?ld⟩) hS ?_; case ld => (intro uu hu; have hu2 := hu; obtain ⟨l0, l1⟩ := hu2; clear hu; go_simp)
  refine wpAnyH_take (i := 6) (v := ?_) rfl (by kernel_rfl) (by kernel_rfl) (by kernel_rfl) (fun _ _ _ h => h) (Or.inl ⟨by kernel_rfl, ?_⟩) hS ?_; rotate_left; focus (intro uu hu; clear hu; go_simp; try with_reducible rfl)
  refine wpAnyH_take (i := 7) (v := ?_) rfl (by kernel_rfl) (by kernel_rfl) (by kernel_rfl) (fun _ _ _ h => h) (Or.inl ⟨by kernel_rfl, ?_⟩) hS ?_; rotate_left; focus (intro uu hu; clear hu; go_simp; try with_reducible rfl)
  refine wpAnyH_take (i := 8) (v := ?_) rfl (by kernel_rfl) (by kernel_rfl) (by kernel_rfl) (fun _ _ _ h => h) (Or.inl ⟨by kernel_rfl, ?_⟩) hS ?_; rotate_left; focus (intro uu hu; clear hu; go_simp; try with_reducible rfl)
  refine wpAnyH_take (i := 9) (v := (.int .i64 M)) rfl (by kernel_rfl) (by kernel_rfl) (by kernel_rfl) (fun _ _ _ h => h) (Or.inl ⟨by kernel_rfl, ?ld⟩) hS ?_; case ld => (intro uu hu; have hu2 := hu; obtain ⟨l0, l1⟩ := hu2; clear hu; go_simp)
  refine wpAnyH_take (i := 10) (v := (.int .i64 (h * F + M))) rfl (by kernel_rfl) (by kernel_rfl) (by kernel_rfl) (fun _ _ _ h => h) (Or.inl ⟨by kernel_rfl, ?ld⟩) hS ?_; case ld => (intro uu hu; have hu2 := hu; obtain ⟨l0, l1⟩ := hu2; clear hu; go_simp)
  refine wpAnyH_take (i := 11) (v := (.int .i64 V)) rfl (by kernel_rfl) (by kernel_rfl) (by kernel_rfl) (fun _ _ _ h => h) (Or.inl ⟨by kernel_rfl, ?ld⟩) hS ?_; case ld => (intro uu hu; have hu2 := hu; obtain ⟨l0, l1⟩ := hu2; clear hu; go_simp)
  refine wpAnyH_take (i := 12) (v := ?_) rfl (by kernel_rfl) (by kernel_rfl) (by kernel_rfl) (fun _ _ _ h => h) (Or.inl ⟨by kernel_rfl, ?_⟩) hS ?_; rotate_left; focus (intro uu hu; clear hu; go_simp; try with_reducible rfl)
  refine wpAnyH_done (by kernel_rfl) ?_ _
  skip
  clear hS y4 y5
  go_simp
  go_wp2_with fail
  go_ret
  exact ⟨rfl, HR.out, HB.out.drew⟩
set_option maxHeartbeats 1600000 in
theorem mixedKey2 (key : ByteArray) (h : Int) (g : Nat) (w : World) (h0 : 0 ≤ h) (h1 : h ≤ 2147483646) (R : RowIs w g 119 [.string key, .int .u32 1, .int .i32 0, .int .u32 0, .int .i64 (facL 1 (bys key)), .int .i64 (macL 0 (bys key))]) :
    Calls Tryz.prog 101 #[.pointer (some ⟨g, 0, none⟩), .int .i64 h] w fun e w' => e = .returned (.int .i64 (macL h (bys key))) ∧ Below g w w' := by
  have ev := mac_fold (bys key) h0 h1
  have rv := macL_range (bys key) h0 h1
  have rf := facL_range (f := 1) (bys key) (by decide) (by decide)
  have rm := macL_range (h := 0) (bys key) (by decide) (by decide)
  obtain ⟨F, hF⟩ : ∃ F, facL 1 (bys key) = F := ⟨_, rfl⟩
  obtain ⟨M, hM⟩ : ∃ M, macL 0 (bys key) = M := ⟨_, rfl⟩
  obtain ⟨V, hV⟩ : ∃ V, macL h (bys key) = V := ⟨_, rfl⟩
  rw [hF, hM] at ev R
  rw [hV] at ev rv ⊢
  rw [hF] at rf
  rw [hM] at rm
  clear hF hM hV
  have p0 : 0 ≤ h * F := Int.mul_nonneg h0 rf.1
  have p1 : h * F ≤ 2147483646 * 2147483646 := Int.mul_le_mul h1 rf.2 rf.1 (by decide)
  have e1 : IntKind.i64.wrap (h * F) = h * F := by rw [IntKind.wrap_i64]; omega
  have e2 : IntKind.i64.wrap (h * F + M) = h * F + M := by rw [IntKind.wrap_i64]; omega
  have e3 : (h * F + M).tmod 2147483647 = V := by rw [← ev]; exact Int.tmod_eq_emod_of_nonneg (by omega)
  have e4 : IntKind.i64.wrap V = V := by rw [IntKind.wrap_i64]; omega
  clear ev p0 p1
  have hmf : ∀ (fn : Fn) (first cap : Array Value) (w : World), (Instr.makeFunc fn first cap).run Tryz.prog w = .ok (.func fn first cap) w := fun _ _ _ _ => rfl
  have HR := hide R
  clear R
  go_enter Tryz.func101, Tryz.ntmps101
  go_wp2_with fail
  refine (onceDone key F M g _ HR.out _).mono ?_; rintro e w2 ⟨rfl, hsame⟩; obtain rfl := hsame.symm; clear hsame
  go_wp2_with fail
  have y4 := HR.out.cell (j := 4) rfl; have y5 := HR.out.cell (j := 5) rfl; refine wp_region_held_drew (S := (fun u => u.cell? ⟨g, 4, none⟩ = some (.int .i64 F) ∧ u.cell? ⟨g, 5, none⟩ = some (.int .i64 M))) (by kernel_rfl) (And.intro y4 y5) (fun hS => ?_)
  refine wpAnyH_take (i := 0) (v := ?_) rfl (by kernel_rfl) (by kernel_rfl) (by kernel_rfl) (fun _ _ _ h => h) (Or.inl ⟨by kernel_rfl, ?_⟩) hS ?_; rotate_left; focus (intro uu hu; clear hu; go_simp; try with_reducible rfl)
  refine wpAnyH_take (i := 1) (v := ?_) rfl (by kernel_rfl) (by kernel_rfl) (by kernel_rfl) (fun _ _ _ h => h) (Or.inl ⟨by kernel_rfl, ?_⟩) hS ?_; rotate_left; focus (intro uu hu; clear hu; go_simp; try with_reducible rfl)
  refine wpAnyH_take (i := 2) (v := ?_) rfl (by kernel_rfl) (by kernel_rfl) (by kernel_rfl) (fun _ _ _ h => h) (Or.inl ⟨by kernel_rfl, ?_⟩) hS ?_; rotate_left; focus (intro uu hu; clear hu; go_simp; try with_reducible rfl)
  refine wpAnyH_take (i := 3) (v := ?_) rfl (by kernel_rfl) (by kernel_rfl) (by kernel_rfl) (fun _ _ _ h => h) (Or.inl ⟨by kernel_rfl, ?_⟩) hS ?_; rotate_left; focus (intro uu hu; clear hu; go_simp; try with_reducible rfl)
  refine wpAnyH_take (i := 4) (v := (.int .i64 F)) rfl (by kernel_rfl) (by kernel_rfl) (by kernel_rfl) (fun _ _ _ h => h) (Or.inl ⟨by kernel_rfl, ?ld⟩) hS ?_; case ld => (intro uu hu; have hu2 := hu; obtain ⟨l0, l1⟩ := hu2; clear hu; go_simp)
  refine wpAnyH_take (i := 5) (v := (.int .i64 (h * F))) rfl (by kernel_rfl) (by kernel_rfl) (by kernel_rfl) (fun _ _ _ h => h) (Or.inl ⟨by kernel_rfl, ?ld⟩) hS ?_; case ld => (intro uu hu; have hu2 := hu; obtain ⟨l0, l1⟩ := hu2; clear hu; go_simp)
  refine wpAnyH_take (i := 6) (v := ?_) rfl (by kernel_rfl) (by kernel_rfl) (by kernel_rfl) (fun _ _ _ h => h) (Or.inl ⟨by kernel_rfl, ?_⟩) hS ?_; rotate_left; focus (intro uu hu; clear hu; go_simp; try with_reducible rfl)
  refine wpAnyH_take (i := 7) (v := ?_) rfl (by kernel_rfl) (by kernel_rfl) (by kernel_rfl) (fun _ _ _ h => h) (Or.inl ⟨by kernel_rfl, ?_⟩) hS ?_; rotate_left; focus (intro uu hu; clear hu; go_simp; try with_reducible rfl)
  refine wpAnyH_take (i := 8) (v := ?_) rfl (by kernel_rfl) (by kernel_rfl) (by kernel_rfl) (fun _ _ _ h => h) (Or.inl ⟨by kernel_rfl, ?_⟩) hS ?_; rotate_left; focus (intro uu hu; clear hu; go_simp; try with_reducible rfl)
  refine wpAnyH_take (i := 9) (v := (.int .i64 M)) rfl (by kernel_rfl) (by kernel_rfl) (by kernel_rfl) (fun _ _ _ h => h) (Or.inl ⟨by kernel_rfl, ?ld⟩) hS ?_; case ld => (intro uu hu; have hu2 := hu; obtain ⟨l0, l1⟩ := hu2; clear hu; go_simp)
  refine wpAnyH_take (i := 10) (v := (.int .i64 (h * F + M))) rfl (by kernel_rfl) (by kernel_rfl) (by kernel_rfl) (fun _ _ _ h => h) (Or.inl ⟨by kernel_rfl, ?ld⟩) hS ?_; case ld => (intro uu hu; have hu2 := hu; obtain ⟨l0, l1⟩ := hu2; clear hu; go_simp)
  refine wpAnyH_take (i := 11) (v := (.int .i64 V)) rfl (by kernel_rfl) (by kernel_rfl) (by kernel_rfl) (fun _ _ _ h => h) (Or.inl ⟨by kernel_rfl, ?ld⟩) hS ?_; case ld => (intro uu hu; have hu2 := hu; obtain ⟨l0, l1⟩ := hu2; clear hu; go_simp)
  refine wpAnyH_take (i := 12) (v := ?_) rfl (by kernel_rfl) (by kernel_rfl) (by kernel_rfl) (fun _ _ _ h => h) (Or.inl ⟨by kernel_rfl, ?_⟩) hS ?_; rotate_left; focus (intro uu hu; clear hu; go_simp; try with_reducible rfl)
  refine wpAnyH_done (by kernel_rfl) ?_ _
  skip
  clear hS y4 y5
  go_simp
  go_wp2_with fail
  go_ret
  exact ⟨rfl, (Below.refl g w).drew⟩
end Go.Proofs.YtfemmnhfllbgjaaGreatDoor
