/- Chapter 14's program: tokens made, read and signed. -/
import Derived.Test.YtfemmnhfllbgjaaGreatDoorTokNum
import Derived.Test.YtfemmnhfllbgjaaGreatDoorTokMacs
import Derived.Test.YtfemmnhfllbgjaaGreatDoorTokSpec4
import Derived.Test.YtfemmnhfllbgjaaGreatDoorClone

namespace Go.Proofs.YtfemmnhfllbgjaaGreatDoor
open Go.RowKit
set_option maxRecDepth 100000
set_option linter.unusedSimpArgs false
set_option linter.unusedVariables false
set_option maxHeartbeats 2000000 in
theorem implToken (name : ByteArray) (u : Int) (key : ByteArray) (w : World) (hn : name.size ≤ maxLen) (hk : key.size ≤ maxLen) (ht : TabV w) : Calls Tryz.prog 53 #[.string name, .int .i64 u, .string key] w fun x w' => x = .returned (.string (tokV name u key)) ∧ Below w.heap.size w w' := by
  have hnm := fun w => implName name w hn
  have htm := fun w => implWithin u 0 1000000 w
  have hkm := hk
  unfold maxLen at hkm
  obtain ⟨A, hA⟩ : ∃ A, tokV name u key = A := ⟨_, rfl⟩
  rw [hA]
  have HA := hide hA
  clear hA
  cases h1 : nameB name
  · rw [h1] at hnm
    have HF : Hid (A = ⟨#[]⟩) := by show A = _; rw [← HA.out]; exact tokV_no (by rw [h1]; simp)
    go_enter Tryz.func53, Tryz.ntmps53
    go_wp2_with fail
    refine (hnm _).mono ?_; rintro e w1 ⟨rfl, hsame⟩; obtain rfl := hsame.symm; clear hsame
    go_wp2_with fail
    go_ret
    exact ⟨by rw [HF.out]; rfl, (by repeat' (first | (with_reducible exact Below.refl _ _) | (with_reducible refine Below.drew ?_) | (with_reducible refine bo_drewN _ ?_) | (with_reducible refine bo_alloc ?_ _) | (refine bchain ?_ (by with_reducible assumption)) | (with_reducible refine Below.setCell ?_ ?_ _) | go_size))⟩
  rw [h1] at hnm
  cases h2 : inB u 0 1000000
  · rw [h2] at htm
    have HF : Hid (A = ⟨#[]⟩) := by show A = _; rw [← HA.out]; exact tokV_no (by unfold timeB; rw [h2]; simp)
    go_enter Tryz.func53, Tryz.ntmps53
    go_wp2_with fail
    refine (hnm _).mono ?_; rintro e w1 ⟨rfl, hsame⟩; obtain rfl := hsame.symm; clear hsame
    go_wp2_with fail
    refine (htm _).mono ?_; rintro e w1 ⟨rfl, hsame⟩; obtain rfl := hsame.symm; clear hsame
    go_wp2_with fail
    go_ret
    exact ⟨by rw [HF.out]; rfl, (by repeat' (first | (with_reducible exact Below.refl _ _) | (with_reducible refine Below.drew ?_) | (with_reducible refine bo_drewN _ ?_) | (with_reducible refine bo_alloc ?_ _) | (refine bchain ?_ (by with_reducible assumption)) | (with_reducible refine Below.setCell ?_ ?_ _) | go_size))⟩
  rw [h2] at htm
  by_cases h3 : (40 : Int) < key.size
  · have HF : Hid (A = ⟨#[]⟩) := by show A = _; rw [← HA.out]; exact tokV_no (by omega)
    go_enter Tryz.func53, Tryz.ntmps53
    go_wp2_with fail
    refine (hnm _).mono ?_; rintro e w1 ⟨rfl, hsame⟩; obtain rfl := hsame.symm; clear hsame
    go_wp2_with fail
    refine (htm _).mono ?_; rintro e w1 ⟨rfl, hsame⟩; obtain rfl := hsame.symm; clear hsame
    go_wp2_with fail
    go_ret
    exact ⟨by rw [HF.out]; rfl, (by repeat' (first | (with_reducible exact Below.refl _ _) | (with_reducible refine Below.drew ?_) | (with_reducible refine bo_drewN _ ?_) | (with_reducible refine bo_alloc ?_ _) | (refine bchain ?_ (by with_reducible assumption)) | (with_reducible refine Below.setCell ?_ ?_ _) | go_size))⟩
  obtain ⟨u0, u1⟩ := inB_true h2
  have hp := tok_parts (name := name) (u := u) (key := key) ⟨h1, by unfold timeB; exact h2, by omega⟩
  have hns := name_size h1
  have hmr := macV_range key (strOf (tokB name u))
  obtain ⟨n, rfl⟩ : ∃ n : Nat, u = n := ⟨u.toNat, by omega⟩
  rw [Int.toNat_natCast] at hp
  have hls := decL_short 7 n (by omega) (by decide)
  have hf1 := fun w' (hb : Below w.heap.size w w') => libFormat n w' (by omega) (ht.new hb)
  have hs1 : (strOf (decL n)).size ≤ 7 := by rw [strOf_size]; exact hls
  obtain ⟨D, hD⟩ : ∃ D, strOf (decL n) = D := ⟨_, rfl⟩
  rw [hD] at hp hf1 hs1
  have hhs : (strOf (tokB name n)).size ≤ 40 := by rw [← hp.1, ba_size_append, ba_size_append]; have : (⟨#[46]⟩ : ByteArray).size = 1 := rfl; omega
  have hmac := fun w => implMac key (strOf (tokB name n)) w hk (by unfold maxLen; omega)
  obtain ⟨H, hH⟩ : ∃ H, strOf (tokB name n) = H := ⟨_, rfl⟩
  rw [hH] at hp hmr hmac hhs
  obtain ⟨m, hm⟩ : ∃ m : Nat, macV key H = m := ⟨(macV key H).toNat, by omega⟩
  rw [hm] at hmr hmac hp
  rw [Int.toNat_natCast] at hp
  have hf2 := fun w' (hb : Below w.heap.size w w') => libFormat m w' (by omega) (ht.new hb)
  have hls2 := decL_short 10 m (by omega) (by decide)
  have hs2 : (strOf (decL m)).size ≤ 10 := by rw [strOf_size]; exact hls2
  obtain ⟨E, hE⟩ : ∃ E, strOf (decL m) = E := ⟨_, rfl⟩
  rw [hE] at hp hf2 hs2
  have hp2 : H ++ (⟨#[46]⟩ : ByteArray) ++ E = A := by rw [hp.2]; exact HA.out
  have hp1 := hp.1
  clear hp hD hH hm hE HA ht hls hls2 h1 h2
  go_enter Tryz.func53, Tryz.ntmps53
  go_wp2_with fail
  refine (hnm _).mono ?_; rintro e w1 ⟨rfl, hsame⟩; obtain rfl := hsame.symm; clear hsame
  go_wp2_with fail
  refine (htm _).mono ?_; rintro e w1 ⟨rfl, hsame⟩; obtain rfl := hsame.symm; clear hsame
  go_wp2_with fail
  refine (hf1 _ (Below.refl _ _)).mono ?_; rintro x w1 ⟨rfl, hb1⟩
  go_wp2_with fail
  refine (hmac _).mono ?_; rintro x w2 ⟨rfl, hb2⟩
  go_wp2_with fail
  refine (hf2 _ (bchain hb1 hb2)).mono ?_; rintro x w3 ⟨rfl, hb3⟩
  go_wp2_with fail
  go_ret
  exact ⟨rfl, bchain (bchain hb1 hb2) hb3⟩
theorem split_size : ∀ (k : Nat) (s : ByteArray), ∀ x ∈ Lib.splitB ⟨#[46]⟩ 0 k s, x.size ≤ s.size
  | 0, s => by intro x hx; rw [Lib.splitB_zero] at hx; simp at hx; rw [hx]; exact Nat.le_refl _
  | k + 1, s => by
    intro x hx
    unfold Lib.splitB at hx
    have hex : ∀ i j, (s.extract i j).size ≤ s.size := fun i j => by
      rw [← bys_len, ← bys_len s, bys_extract, List.length_drop, List.length_take]; omega
    split at hx
    · simp at hx; rw [hx]; exact Nat.le_refl _
    · rcases List.mem_cons.1 hx with rfl | hx
      · exact hex _ _
      · exact Nat.le_trans (split_size k _ x hx) (hex _ _)
theorem read_no3 {s : ByteArray} (h : (Lib.splitB ⟨#[46]⟩ 0 (min 3 (s.size + 1) - 1) s).length ≠ 3) : readV s = (⟨#[]⟩, 0, false) := by
  rw [read_way]
  match hP : Lib.splitB ⟨#[46]⟩ 0 (min 3 (s.size + 1) - 1) s with
  | [] => rfl
  | [_] => rfl
  | [_, _] => rfl
  | [_, _, _] => rw [hP] at h; exact absurd rfl h
  | _ :: _ :: _ :: _ :: _ => rfl
theorem readW_no {x y z : ByteArray} (h : ¬ (nameB x = true ∧ (numT y 1000000).2 = true ∧ (numT z 2147483646).2 = true)) : readW x y z = (⟨#[]⟩, 0, false) := by unfold readW; rw [if_neg h]
set_option maxHeartbeats 2000000 in
theorem implReadToken (s : ByteArray) (w : World) (hs : s.size ≤ 2000000) (ht : TabV w) (he : ErrV w) : Calls Tryz.prog 20 #[.string s] w fun x w' => x = .returned (.tuple #[.string (readV s).1, .int .i64 (readV s).2.1, .bool (readV s).2.2]) ∧ Below w.heap.size w w' := by
  have hsp := libSplit s w (by omega) he
  have hsz := split_size (min 3 (s.size + 1) - 1) s
  have hlen := Lib.splitB_length_le ⟨#[46]⟩ 0 (min 3 (s.size + 1) - 1) s
  have hno := read_no3 (s := s)
  have hyes := read_way s
  obtain ⟨R, hR⟩ : ∃ R, readV s = R := ⟨_, rfl⟩
  rw [hR] at hno hyes ⊢
  clear hR
  generalize hP : Lib.splitB ⟨#[46]⟩ 0 (min 3 (s.size + 1) - 1) s = P at *
  clear hP
  by_cases h3 : P.length = 3
  · obtain ⟨x, y, z, rfl⟩ : ∃ x y z, P = [x, y, z] := by
      match P, h3 with
      | [x, y, z], _ => exact ⟨x, y, z, rfl⟩
    have hc3 : min 3 (s.size + 1) = 3 := by simp at hlen; omega
    rw [hc3] at hsp
    have hxs := hsz x (by simp)
    have hys := hsz y (by simp)
    have hzs := hsz z (by simp)
    have hyes' : R = readW x y z := hyes
    clear hno hyes hsz hlen hc3 h3
    have hcells : Lib.cellsOf [x, y, z] 3 = #[.string x, .string y, .string z] := rfl
    rw [hcells] at hsp
    have hsp' : Calls Tryz.prog 50 #[.string s, .string ⟨#[46]⟩, .int .i64 3] w fun e w' => e = .returned (.slice (some ⟨w.heap.size, 0, none⟩) 3 3) ∧ RowIs w' w.heap.size 9 [.string x, .string y, .string z] ∧ Below w.heap.size w w' := by
      refine hsp.mono ?_
      rintro e w' ⟨rfl, rfl⟩
      exact ⟨rfl, rowIs_new w 9 [.string x, .string y, .string z], (Below.refl _ _).alloc (Nat.le_refl _) _⟩
    have hnm := fun w => implName x w (by unfold maxLen; omega)
    have hy' := fun w' (hb : Below w.heap.size w w') => implNumT y 1000000 w' (by omega) (by omega) (ht.new hb) (he.new hb)
    have hz' := fun w' (hb : Below w.heap.size w w') => implNumT z 2147483646 w' (by omega) (by omega) (ht.new hb) (he.new hb)
    have hcl := fun w => clone x w (by omega)
    have HNO := fun h => hyes'.trans (readW_no (x := x) (y := y) (z := z) h)
    have HYES : nameB x = true ∧ (numT y 1000000).2 = true ∧ (numT z 2147483646).2 = true → R = (x, (numT y 1000000).1, true) := fun h => by rw [hyes']; unfold readW; rw [if_pos h]
    obtain ⟨⟨yv, yb⟩, hY⟩ : ∃ q, numT y 1000000 = q := ⟨_, rfl⟩
    obtain ⟨⟨zv, zb⟩, hZ⟩ : ∃ q, numT z 2147483646 = q := ⟨_, rfl⟩
    obtain ⟨nb, hN⟩ : ∃ q, nameB x = q := ⟨_, rfl⟩
    rw [hY, hZ, hN] at HNO HYES
    rw [hY] at hy'
    rw [hZ] at hz'
    rw [hN] at hnm
    dsimp only at hy' hz' HNO HYES
    clear hyes' hsp hY hZ hN ht he hcells
    cases nb
    · have HF := hide (HNO (by simp))
      clear HNO HYES
      go_enter Tryz.func20, Tryz.ntmps20
      go_wp2_with fail
      refine hsp'.mono ?_; rintro e w1 ⟨rfl, R1, hb1⟩
      have c0 := R1.cell (j := 0) rfl
      clear R1
      go_wp2_with fail
      refine (hnm _).mono ?_; rintro e w2 ⟨rfl, hsame⟩; obtain rfl := hsame.symm; clear hsame
      go_wp2_with fail
      refine bodyPost_ret (v := (.tuple #[.string ⟨#[]⟩, .int .i64 0, .bool false])) (by simp [results, Tryz.results20, go_sem, *]) rfl ?_
      exact ⟨by rw [HF.out], hb1⟩
    cases yb
    · have HF := hide (HNO (by simp))
      clear HNO HYES
      go_enter Tryz.func20, Tryz.ntmps20
      go_wp2_with fail
      refine hsp'.mono ?_; rintro e w1 ⟨rfl, R1, hb1⟩
      have c0 := R1.cell (j := 0) rfl
      have c1 := R1.cell (j := 1) rfl
      clear R1
      go_wp2_with fail
      refine (hnm _).mono ?_; rintro e w2 ⟨rfl, hsame⟩; obtain rfl := hsame.symm; clear hsame
      go_wp2_with fail
      refine (hy' _ hb1).mono ?_; rintro e w2 ⟨rfl, hb2⟩
      go_wp2_with fail
      refine bodyPost_ret (v := (.tuple #[.string ⟨#[]⟩, .int .i64 0, .bool false])) (by simp [results, Tryz.results20, go_sem, *]) rfl ?_
      exact ⟨by rw [HF.out], bchain hb1 hb2⟩
    cases zb
    · have HF := hide (HNO (by simp))
      clear HNO HYES
      go_enter Tryz.func20, Tryz.ntmps20
      go_wp2_with fail
      refine hsp'.mono ?_; rintro e w1 ⟨rfl, R1, hb1⟩
      have HR := hide R1
      have c0 := R1.cell (j := 0) rfl
      have c1 := R1.cell (j := 1) rfl
      clear R1
      go_wp2_with fail
      refine (hnm _).mono ?_; rintro e w2 ⟨rfl, hsame⟩; obtain rfl := hsame.symm; clear hsame
      go_wp2_with fail
      refine (hy' _ hb1).mono ?_; rintro e w2 ⟨rfl, hb2⟩
      have c2 := (HR.out.new hb2).cell (j := 2) rfl
      clear c0 c1
      go_wp2_with fail
      refine (hz' _ (bchain hb1 hb2)).mono ?_; rintro e w3 ⟨rfl, hb3⟩
      go_wp2_with fail
      refine bodyPost_ret (v := (.tuple #[.string ⟨#[]⟩, .int .i64 0, .bool false])) (by simp [results, Tryz.results20, go_sem, *]) rfl ?_
      exact ⟨by rw [HF.out], bchain (bchain hb1 hb2) hb3⟩
    · have HF := hide (HYES (by simp))
      clear HNO HYES
      go_enter Tryz.func20, Tryz.ntmps20
      go_wp2_with fail
      refine hsp'.mono ?_; rintro e w1 ⟨rfl, R1, hb1⟩
      have HR := hide R1
      have c0 := R1.cell (j := 0) rfl
      have c1 := R1.cell (j := 1) rfl
      clear R1
      go_wp2_with fail
      refine (hnm _).mono ?_; rintro e w2 ⟨rfl, hsame⟩; obtain rfl := hsame.symm; clear hsame
      go_wp2_with fail
      refine (hy' _ hb1).mono ?_; rintro e w2 ⟨rfl, hb2⟩
      replace HR := hide (HR.out.new hb2)
      have c2 := HR.out.cell (j := 2) rfl
      clear c0 c1
      go_wp2_with fail
      refine (hz' _ (bchain hb1 hb2)).mono ?_; rintro e w3 ⟨rfl, hb3⟩
      have c0 := (HR.out.new hb3).cell (j := 0) rfl
      clear c2
      go_wp2_with fail
      refine (hcl _).mono ?_; rintro e w4 ⟨rfl, hb4⟩
      go_wp2_with fail
      refine bodyPost_ret (v := (.tuple #[.string x, .int .i64 yv, .bool true])) (by simp [results, Tryz.results20, go_sem, *]) rfl ?_
      exact ⟨by rw [HF.out], bchain (bchain (bchain hb1 hb2) hb3) hb4⟩
  · have HF := hide (hno h3)
    have hc2 : P.length ≤ min 3 (s.size + 1) := by omega
    have h3I : ¬ (P.length : Int) = 3 := by omega
    have hl3 : P.length ≤ 3 := by omega
    have hsp' : Calls Tryz.prog 50 #[.string s, .string ⟨#[46]⟩, .int .i64 3] w fun e w' => e = .returned (.slice (some ⟨w.heap.size, 0, none⟩) P.length (min 3 (s.size + 1))) ∧ Below w.heap.size w w' := by
      refine hsp.mono ?_
      rintro e w' ⟨rfl, rfl⟩
      exact ⟨rfl, (Below.refl _ _).alloc (Nat.le_refl _) _⟩
    generalize min 3 (s.size + 1) = c at *
    clear hno hyes hsz hlen hsp ht he
    go_enter Tryz.func20, Tryz.ntmps20
    go_wp2_with fail
    refine hsp'.mono ?_; rintro e w1 ⟨rfl, hb1⟩
    have hne3 : ((P.length : Int) != 3) = true := by simp [h3I]
    go_wp2_with fail
    refine bodyPost_ret (v := (.tuple #[.string ⟨#[]⟩, .int .i64 0, .bool false])) (by simp [results, Tryz.results20, go_sem, *]) rfl ?_
    exact ⟨by rw [HF.out], hb1⟩
set_option maxHeartbeats 2000000 in
theorem implSigned (s key : ByteArray) (now : Int) (w : World) (hs : s.size ≤ 2000000) (hk : key.size ≤ maxLen) (ht : TabV w) (he : ErrV w) : Calls Tryz.prog 21 #[.string s, .string key, .int .i64 now] w fun x w' => x = .returned (.bool (signV s key now)) ∧ Below w.heap.size w w' := by
  have hrd := implReadToken s w hs ht he
  have hqs := read_size s
  obtain ⟨A, hA⟩ : ∃ A, signV s key now = A := ⟨_, rfl⟩
  rw [hA]
  unfold signV at hA
  obtain ⟨⟨n, u, b⟩, hq⟩ : ∃ q, readV s = q := ⟨_, rfl⟩
  rw [hq] at hrd hA hqs
  dsimp only at hrd hA hqs
  have htk := fun w' (hb : Below w.heap.size w w') => implToken n u key w' (by unfold maxLen; omega) hk (ht.new hb)
  obtain ⟨t, hT⟩ : ∃ t, tokV n u key = t := ⟨_, rfl⟩
  rw [hT] at hA htk
  clear hq hT ht he
  cases b
  · have HF : Hid (A = false) := by show A = false; rw [← hA]; rfl
    clear hA
    go_enter Tryz.func21, Tryz.ntmps21
    go_wp2_with fail
    refine hrd.mono ?_; rintro e w1 ⟨rfl, hb1⟩
    go_wp2_with fail
    go_ret
    exact ⟨by rw [HF.out]; rfl, hb1⟩
  by_cases hu : now < u
  · by_cases hst : s = t
    · subst hst
      have HF : Hid (A = true) := by show A = true; rw [← hA]; simp [hu]
      clear hA
      go_enter Tryz.func21, Tryz.ntmps21
      go_wp2_with fail
      refine hrd.mono ?_; rintro e w1 ⟨rfl, hb1⟩
      go_wp2_with fail
      refine (htk _ hb1).mono ?_; rintro e w2 ⟨rfl, hb2⟩
      go_wp2_with fail
      go_ret
      exact ⟨by rw [HF.out]; rfl, bchain hb1 hb2⟩
    · have HF : Hid (A = false) := by show A = false; rw [← hA]; simp [hst]
      have hne := tl_ne hst
      clear hA
      go_enter Tryz.func21, Tryz.ntmps21
      go_wp2_with fail
      refine hrd.mono ?_; rintro e w1 ⟨rfl, hb1⟩
      go_wp2_with fail
      refine (htk _ hb1).mono ?_; rintro e w2 ⟨rfl, hb2⟩
      go_wp2_with fail
      go_ret
      exact ⟨by rw [HF.out]; rfl, bchain hb1 hb2⟩
  · have HF : Hid (A = false) := by show A = false; rw [← hA]; simp [hu]
    clear hA
    go_enter Tryz.func21, Tryz.ntmps21
    go_wp2_with fail
    refine hrd.mono ?_; rintro e w1 ⟨rfl, hb1⟩
    go_wp2_with fail
    go_ret
    exact ⟨by rw [HF.out]; rfl, hb1⟩
end Go.Proofs.YtfemmnhfllbgjaaGreatDoor
