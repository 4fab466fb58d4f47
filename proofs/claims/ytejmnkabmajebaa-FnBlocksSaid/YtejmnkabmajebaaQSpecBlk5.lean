/- The model's Decoded. -/
import Derived.Test.YtejmnkabmajebaaQSpecBlk4
import Derived.Test.YtejmnkabmajebaaQSpecNoted3
import Derived.Test.YtejmnkabmajebaaQBlocks6
import Derived.Deep.RegionHeld3
namespace Go.Proofs.Ytejmnkabmajebaa
open Go.RowKit
set_option maxRecDepth 100000
set_option linter.unusedSimpArgs false
set_option linter.unusedVariables false

theorem decF_stop {room : Int} {n : Nat} {L out : List Fd} {s : ByteArray} (h : s.size = 0) : decF room n L out s = some (out, L) := by cases n <;> simp [decF, h]
theorem decF_none {room : Int} {n : Nat} {L out : List Fd} {s : ByteArray} (h0 : s.size ≠ 0) (h : (fldV L s).2 = 0 ∨ okF (fldV L s).1 = false ∨ out.length = 20) : decF room n L out s = none := by
  cases n with
  | zero => simp [decF, h0]
  | succ n => rw [decF, if_neg h0, if_pos h]
theorem decF_step {room : Int} {n : Nat} {L out : List Fd} {s : ByteArray} (h0 : s.size ≠ 0) (h1 : (fldV L s).2 ≠ 0) (h2 : okF (fldV L s).1 = true) (h3 : ¬ out.length = 20) : decF room (n + 1) L out s = decF room n (if b0 s < 128 then shr room ((fldV L s).1 :: L) else L) (out ++ [(fldV L s).1]) (s.extract (fldV L s).2.toNat s.size) := by
  rw [decF, if_neg h0, if_neg (fun h => h.elim h1 (fun h => h.elim (fun h => by rw [h2] at h; cases h) h3))]
theorem ext_size {s : ByteArray} {k : Int} (h0 : 0 ≤ k) (h1 : k ≤ s.size) : ((s.extract k.toNat s.size).size : Int) = s.size - k := by rw [ba_extract_size (Nat.le_refl _) (by omega)]; omega
theorem fld_upto (L : List Fd) (s : ByteArray) : 0 ≤ (fldV L s).2 ∧ (fldV L s).2 ≤ s.size := by
  have h7 := rd_upto s 7
  have h6 := rd_upto s 6
  have hl := rl_upto (s.extract (rdV s 6).2.toNat s.size)
  have hz := ext_size (s := s) h6.1 h6.2
  have hm := rl_upto (s.extract ((rdV s 6).2 + (rlV (s.extract (rdV s 6).2.toNat s.size)).2).toNat s.size)
  have hy := ext_size (s := s) (k := (rdV s 6).2 + (rlV (s.extract (rdV s 6).2.toNat s.size)).2) (by omega) (by omega)
  unfold fldV
  repeat' split
  all_goals (simp only; omega)
theorem getD_fine {room : Int} {L : List Fd} (n : Nat) (h : okT room L = true) : (L.getD n noF).fine := by
  rw [List.getD_eq_getElem?_getD]
  cases e : L[n]? with
  | none => exact noF_fine
  | some f => exact fine_of ((okT_parts h).2.2.1 f (List.mem_of_getElem? e))
theorem fld_fine {room : Int} {L : List Fd} (s : ByteArray) (h : okT room L = true) : (fldV L s).1.fine := by
  unfold fldV
  split
  · exact noF_fine
  · split
    · split
      · exact noF_fine
      · exact getD_fine _ h
    · split
      · exact noF_fine
      · split
        · split
          · exact noF_fine
          · split
            · exact noF_fine
            · exact ⟨(rl_upto _).2.2, (rl_upto _).2.2⟩
        · split
          · exact noF_fine
          · exact ⟨(getD_fine _ h).1, (rl_upto _).2.2⟩

theorem shr_okT {room : Int} {L : List Fd} {f : Fd} (h : okT room L = true) (hf : okF f = true) : okT room (shr room (f :: L)) = true := by
  obtain ⟨N, e, hN, _⟩ := noted_ok h hf
  simp only [notedD, h, hf, if_true, Prod.mk.injEq, true_and, and_true] at e
  rw [e]; exact hN

set_option maxRecDepth 100000 in
set_option maxHeartbeats 8000000 in
theorem specDecoded (L : List Fd) (room : Int) (v : Value) (s : ByteArray) (w : World) (hr0 : Reads w v L.length 2 (fv L)) (hf : ∀ f ∈ L, f.fine) (hs : s.size ≤ maxLen) :
    Calls Try.prog 21 #[.agg #[.int .i64 room, v], .string s] w fun x w' => ∃ lv v', x = .returned (.tuple #[lv, .agg #[.int .i64 (decodedD room L s).2.1.1, v'], .bool (decodedD room L s).2.2]) ∧ w'.ownsRow w.heap.size 46 2 lv (decodedD room L s).1.length (fv (decodedD room L s).1) ∧ w'.ownsRow w.heap.size 46 2 v' (decodedD room L s).2.1.2.length (fv (decodedD room L s).2.1.2) ∧ (∀ q, lv.ownBlock = some q → v'.ownBlock ≠ some q) ∧ Below w.heap.size w w' := by
  obtain ⟨D, hD⟩ : ∃ D, decodedD room L s = D := ⟨_, rfl⟩
  rw [hD]
  have HD := hide hD
  have HR := hide hr0; have HF := hide hf
  obtain ⟨ad, cap, rfl, _⟩ := hr0.2
  clear hr0 hf hD
  unfold maxLen at hs
  go_enter Try.func21, Try.ntmps21
  go_wp2_with fail
  obtain ⟨V0, hV0⟩ : ∃ V, (w.alloc (.cells #[.int .i64 room, .slice ad L.length cap] 26)).alloc (.cells #[.int .i64 0, .slice none 0 0] 26) = V := ⟨_, rfl⟩
  have HBW : Hid (Below w.heap.size w V0) := by show Below _ _ _; rw [← hV0]; exact bo_alloc ((Below.refl _ _).alloc (Nat.le_refl _) _) _
  have HX : Hid (RowIs V0 w.heap.size 26 [.int .i64 room, .slice ad L.length cap]) := by show RowIs _ _ _ _; rw [← hV0]; exact (rowIs_new w 26 [.int .i64 room, .slice ad L.length cap]).alloc _
  have HRR : Hid (RowIs V0 (w.heap.size + 1) 26 [.int .i64 0, .slice none 0 0]) := by show RowIs _ _ _ _; rw [← hV0]; simpa using rowIs_new (w.alloc (.cells #[.int .i64 room, .slice ad L.length cap] 26)) 26 [.int .i64 0, .slice none 0 0]
  have hsV0 : V0.heap.size = w.heap.size + 1 + 1 := by rw [← hV0]; simp
  rw [hV0]
  have hbE : Below V0.heap.size V0 (V0.alloc (.cells #[] 46)) := (Below.refl _ _).alloc (Nat.le_refl _) _
  have HOL : Hid ((V0.alloc (.cells #[] 46)).ownsRow V0.heap.size 46 2 (.slice (some ⟨w.heap.size + 1 + 1, 0, none⟩) 0 0) 0 (fv [])) := by show World.ownsRow _ _ _ _ _ _ _; rw [← hsV0]; exact owns_none V0 46
  replace HX := hide (HX.out.new hbE); replace HRR := hide (HRR.out.new hbE); replace HBW := hide (bchain HBW.out hbE)
  have hzE : (V0.alloc (.cells #[] 46)).heap.size = w.heap.size + 1 + 1 + 1 := by simp [hsV0]
  clear hV0 hbE
  generalize V0.alloc (.cells #[] 46) = V at *
  refine (specTOk L room _ _ (HR.out.new HBW.out) HF.out).mono ?_; rintro x w1 ⟨rfl, hb1⟩
  replace HX := hide (HX.out.new hb1); replace HRR := hide (HRR.out.new hb1); replace HBW := hide (bchain HBW.out hb1)
  replace HOL := hide (owns_new HOL.out hb1)
  have hz1 := hb1.size
  clear hb1
  cases hok : okT room L
  · have HDD : Hid (D = ([], (0, []), false)) := by show _ = _; rw [← HD.out]; simp [decodedD, hok]
    have r0 := HRR.out.cell (j := 0) rfl
    have r1 := HRR.out.cell (j := 1) rfl
    have r2 := HRR.out.frozen 0
    have r3 := HRR.out.frozen 1
    go_wp2_with fail
    refine bodyPost_ret (v := (.tuple #[.slice (some ⟨w.heap.size + 1 + 1, 0, none⟩) 0 0, .agg #[.int .i64 0, .slice none 0 0], .bool false])) (by simp [results, Try.results21, go_sem, *]) rfl ?_
    rw [HDD.out]
    have hbw := HBW.out
    have hsz := HBW.out.size
    exact ⟨_, _, rfl, owns_base (owns_apart (owns_apart HOL.out ⟨w.heap.size + 1, 0, none⟩ _ (fun e => by simp [Value.ownBlock] at e)) ⟨w.heap.size + 1, 1, none⟩ _ (fun e => by simp [Value.ownBlock] at e)) (fun k hk => by simp [Value.ownBlock] at hk; omega), own_nil _ _ _, fun q hq => by simp [Value.ownBlock], (by repeat' (first | (with_reducible exact hbw) | (with_reducible refine Below.setCell ?_ ?_ _) | (with_reducible refine Below.alloc ?_ ?_ _) | (with_reducible refine Below.drew ?_) | (with_reducible refine bo_drewN _ ?_) | omega | (simp; done) | (simp; omega)))⟩
  have hLl := (okT_parts hok).2.2.2.2
  have hdd : D = (match decF room s.size L [] s with | some (out, M) => if (encL room L out).1 = s then (out, (room, M), true) else ([], (room, L), false) | none => ([], (room, L), false)) := by rw [← HD.out]; unfold decodedD; rw [if_pos hok]; cases decF room s.size L [] s with | none => rfl | some X => rfl
  obtain ⟨R, hRR⟩ : ∃ R, decF room s.size L [] s = R := ⟨_, rfl⟩
  rw [hRR] at hdd
  have HDB := hide hdd; have HREL := hide hRR
  clear hdd hRR
  have x0 := HX.out.cell (j := 0) rfl
  have x1 := HX.out.cell (j := 1) rfl
  go_wp2_with fail
  refine (copy1 L room _ _ (HR.out.new HBW.out) (by omega)).mono ?_; rintro x w2 ⟨v2, rfl, ho2, hb2⟩
  clear x0 x1
  obtain ⟨a2, p2, rfl, _⟩ := owns_form ho2
  replace HX := hide (HX.out.new hb2); replace HRR := hide (HRR.out.new hb2); replace HBW := hide (bchain HBW.out hb2)
  replace HOL := hide (owns_new HOL.out hb2)
  have hz2 := hb2.size
  obtain ⟨V1, hV1⟩ : ∃ V1, w2.alloc (.cells #[.int .i64 room, .slice a2 L.length p2] 26) = V1 := ⟨_, rfl⟩
  have hbV : Below w2.heap.size w2 V1 := by rw [← hV1]; exact (Below.refl _ _).alloc (Nat.le_refl _) _
  have H8 : Hid (RowIs V1 w2.heap.size 26 [.int .i64 room, .slice a2 L.length p2]) := by show RowIs _ _ _ _; rw [← hV1]; exact rowIs_new w2 _ _
  have NE8 : Hid (∀ q, (Value.slice a2 L.length p2).ownBlock = some q → w1.heap.size ≤ q ∧ q < w2.heap.size) := ho2.lt
  have HO := hide (owns_base (base' := w.heap.size) (owns_new ho2 hbV) (fun k hk => by have := (ho2.lt k hk).1; omega))
  replace HX := hide (HX.out.new hbV); replace HRR := hide (HRR.out.new hbV); replace HBW := hide (bchain HBW.out hbV)
  replace HOL := hide (owns_new HOL.out hbV)
  have hz8 := H8.out.lt
  clear hb2 hbV ho2
  go_wp2_with fail
  clear hV1
  go_loopw [7, 9] (fun lst rest wr => ∃ (n : Nat) (M out : List Fd) (t : ByteArray) (a : Option Addr) (p : Nat) (la : Option Addr) (lp : Nat), lst = .slice la out.length lp ∧ rest = .string t ∧ t.size ≤ n ∧ n ≤ s.size ∧ out.length ≤ 20 ∧ (∀ f ∈ out, okF f = true) ∧ okT room M = true ∧ decF room n M out t = R ∧ RowIs wr w2.heap.size 26 [.int .i64 room, .slice a M.length p] ∧ wr.ownsRow w.heap.size 46 2 (.slice a M.length p) M.length (fv M) ∧ wr.ownsRow (w.heap.size + 1 + 1) 46 2 (.slice la out.length lp) out.length (fv out) ∧ (∀ q, (Value.slice a M.length p).ownBlock = some q → w.heap.size + 1 < q ∧ q ≠ w2.heap.size ∧ (Value.slice la out.length lp).ownBlock ≠ some q) ∧ (Value.slice la out.length lp).ownBlock ≠ some w2.heap.size ∧ RowIs wr w.heap.size 26 [.int .i64 room, .slice ad L.length cap] ∧ RowIs wr (w.heap.size + 1) 26 [.int .i64 0, .slice none 0 0] ∧ Below w.heap.size w wr) (fun _ rest _ => strLen rest)
  case atStart => exact ⟨s.size, L, [], s, a2, p2, _, _, rfl, rfl, Nat.le_refl _, Nat.le_refl _, by simp, fun f hf => by simp at hf, hok, HREL.out, H8.out, HO.out, owns_base HOL.out (fun k hk => by have := (HOL.out.lt k hk).1; omega), fun q hq => ⟨by have := NE8.out q hq; omega, by have := NE8.out q hq; omega, by simp [Value.ownBlock]; have := NE8.out q hq; omega⟩, by simp [Value.ownBlock]; omega, HX.out, HRR.out, HBW.out⟩
  case round =>
    clear HX HO HRR HBW HREL H8 HOL
    obtain ⟨n, M, out, t, a, p, la, lp, rfl, rfl, htn, hns, h20, hall, hokM, hrec, hx8, ho, hol, hne, hnl, hx, hrr, hbw⟩ := hrel
    have H8 := hide hx8; have HO := hide ho; have HOL := hide hol; have HNE := hide hne; have HNL := hide hnl; have HX := hide hx; have HRR := hide hrr; have HBW := hide hbw; have HREC := hide hrec; have HOKM := hide hokM; have HALL := hide hall
    have hMl := (okT_parts hokM).2.2.2.2
    clear hx8 ho hol hne hnl hx hrr hbw hrec hokM hall
    have hwr := HBW.out.size
    have hw2r := H8.out.lt
    by_cases ht0 : t.size = 0
    · have hRD := HREC.out
      rw [decF_stop ht0] at hRD
      have hdd := HDB.out
      rw [← hRD] at hdd
      simp only at hdd
      have HDC := hide hdd
      have htb := ba_empty ht0
      subst htb
      clear hRD hdd HDB
      have x0 := HX.out.cell (j := 0) rfl
      have x1 := HX.out.cell (j := 1) rfl
      go_wp2_with fail
      refine (copy1 L room _ _ (HR.out.new HBW.out) (by omega)).mono ?_; rintro x w5 ⟨v5, rfl, ho5, hb5⟩
      clear x0 x1
      obtain ⟨a5, p5, rfl, _⟩ := owns_form ho5
      have HLT := hide (HOL.out.lt)
      have HLT8 := hide (HO.out.lt)
      replace HX := hide (HX.out.new hb5); replace HRR := hide (HRR.out.new hb5); replace HBW := hide (bchain HBW.out hb5)
      replace HOL := hide (owns_new HOL.out hb5)
      replace H8 := hide (H8.out.new hb5); replace HO := hide (owns_new HO.out hb5)
      have hz5 := hb5.size
      obtain ⟨V5, hV5⟩ : ∃ V1, w5.alloc (.cells #[.int .i64 room, .slice a5 L.length p5] 26) = V1 := ⟨_, rfl⟩
      have hbV : Below w5.heap.size w5 V5 := by rw [← hV5]; exact (Below.refl _ _).alloc (Nat.le_refl _) _
      have HT : Hid (TabAt V5 w5.heap.size wr.heap.size room L) := by show TabAt _ _ _ _ _; rw [← hV5]; exact tabAt_new ho5
      replace HX := hide (HX.out.new hbV); replace HRR := hide (HRR.out.new hbV); replace HBW := hide (bchain HBW.out hbV)
      replace HOL := hide (owns_new HOL.out hbV)
      replace H8 := hide (H8.out.new hbV); replace HO := hide (owns_new HO.out hbV)
      have hz55 := hbV.size
      clear hb5 hbV ho5
      go_wp2_with fail
      clear hV5
      refine (encode1 w5.heap.size wr.heap.size room L out _ _ HT.out hok HALL.out h20 (reads_of_owns HOL.out) (fun _ k hk => by have := (HLT.out k hk).2; omega) (by omega)).mono ?_; rintro x w6 ⟨rfl, _, ht6⟩
      clear HT
      replace HX := hide (HX.out.kept (ht6.block _ HX.out.lt (by omega))); replace HRR := hide (HRR.out.kept (ht6.block _ HRR.out.lt (by omega))); replace H8 := hide (H8.out.kept (ht6.block _ H8.out.lt (by omega)))
      replace HBW := hide (HBW.out.trans (ht6.below (by omega) HBW.out.size))
      replace HO := hide (owns_turn HO.out ht6 (fun k hk => by have := (HLT8.out k hk).2; omega)); replace HOL := hide (owns_turn HOL.out ht6 (fun k hk => by have := (HLT.out k hk).2; omega))
      have hz6 := ht6.size
      clear ht6
      by_cases hes : (encL room L out).1 = s
      · have HDD : Hid (D = (out, (room, M), true)) := by show _ = _; rw [HDC.out, if_pos hes]
        have x0 := H8.out.cell (j := 0) rfl
        have x1 := H8.out.cell (j := 1) rfl
        have r0 := HRR.out.cell (j := 0) rfl
        have r1 := HRR.out.cell (j := 1) rfl
        have r2 := HRR.out.frozen 0
        have r3 := HRR.out.frozen 1
        have hne9 : ¬ w.heap.size + 1 = w2.heap.size := by omega
        rw [hes]
        clear hes HDC
        go_wp2_with fail
        go_region_with (fail)
        all_goals (go_wp2_with fail)
        all_goals (refine bodyPost_ret (v := (.tuple #[.slice la out.length lp, .agg #[.int .i64 room, .slice a M.length p], .bool true])) (by simp [results, Try.results21, go_sem, *]) rfl ?_)
        all_goals (rw [HDD.out]; refine ⟨_, _, rfl, owns_base (owns_apart (owns_apart (owns_kept HOL.out (fun k hk _ => rfl)) _ _ (fun e => by have := (HLT.out (w.heap.size + 1) e).1; omega)) _ _ (fun e => by have := (HLT.out (w.heap.size + 1) e).1; omega)) (fun k hk => by have := (HLT.out k hk).1; omega), owns_apart (owns_apart (owns_kept HO.out (fun k hk _ => rfl)) _ _ (fun e => by have := (HNE.out (w.heap.size + 1) e).1; omega)) _ _ (fun e => by have := (HNE.out (w.heap.size + 1) e).1; omega), fun q hq e => (HNE.out q e).2.2 hq, Below.setCell (Below.setCell HBW.out.drew (show w.heap.size ≤ w.heap.size + 1 by omega) _) (show w.heap.size ≤ w.heap.size + 1 by omega) _⟩)
      · have HDD : Hid (D = ([], (room, L), false)) := by show _ = _; rw [HDC.out, if_neg hes]
        have hte := tl_ne hes
        have hzz := HBW.out.size
        generalize (encL room L out).1 = es at *
        clear HDC
        go_upto_region 16 with fail
        have x0 := HX.out.cell (j := 0) rfl
        have x1 := HX.out.cell (j := 1) rfl
        have hlxx := HX.out.lt
        have hlrr := HRR.out.lt
        go_wp2_with fail
        have hbE : Below w6.heap.size w6 (w6.alloc (.cells #[] 46)) := (Below.refl _ _).alloc (Nat.le_refl _) _
        have HOE := hide (owns_none w6 46)
        replace HX := hide (HX.out.new hbE); replace HRR := hide (HRR.out.new hbE); replace HBW := hide (bchain HBW.out hbE)
        have hzE := hbE.size
        have hzE2 : (w6.alloc (.cells #[] 46)).heap.size = w6.heap.size + 1 := by simp
        clear hbE x0 x1
        refine (copy1 L room _ _ (HR.out.new HBW.out) (by omega)).mono ?_; rintro x wf ⟨vf, rfl, hof, hbf⟩
        obtain ⟨af, pf, rfl, _⟩ := owns_form hof
        replace HX := hide (HX.out.new hbf); replace HRR := hide (HRR.out.new hbf); replace HBW := hide (bchain HBW.out hbf)
        replace HOE := hide (owns_new HOE.out hbf)
        have NEF : Hid (∀ q, (Value.slice af L.length pf).ownBlock = some q → w6.heap.size < q) := fun q hq => by have := (hof.lt q hq).1; omega
        have HOF := hide hof
        clear hbf hof
        have r0 := HRR.out.cell (j := 0) rfl
        have r1 := HRR.out.cell (j := 1) rfl
        have r2 := HRR.out.frozen 0
        have r3 := HRR.out.frozen 1
        go_wp2_with fail
        refine bodyPost_ret (v := (.tuple #[.slice (some ⟨w6.heap.size, 0, none⟩) 0 0, .agg #[.int .i64 room, .slice af L.length pf], .bool false])) (by simp [results, Try.results21, go_sem, *]) rfl ?_
        rw [HDD.out]
        refine ⟨_, _, rfl, owns_base (owns_apart (owns_apart HOE.out ⟨w.heap.size + 1, 0, none⟩ _ (fun e => by simp [Value.ownBlock] at e; omega)) ⟨w.heap.size + 1, 1, none⟩ _ (fun e => by simp [Value.ownBlock] at e; omega)) (fun k hk => by simp [Value.ownBlock] at hk; omega), owns_base (owns_apart (owns_apart HOF.out _ _ (fun e => by have := NEF.out _ e; simp at this; omega)) _ _ (fun e => by have := NEF.out _ e; simp at this; omega)) (fun k hk => by have := NEF.out k hk; omega), fun q hq e => by have := NEF.out q e; simp [Value.ownBlock] at hq; omega, Below.setCell (Below.setCell HBW.out (show w.heap.size ≤ w.heap.size + 1 by omega) _) (show w.heap.size ≤ w.heap.size + 1 by omega) _⟩
    have htp : 0 < t.size := by omega
    have hte := list_ne htp
    have hte2 := list_isEmpty htp
    have htm : t.size ≤ maxLen := by unfold maxLen; omega
    have HFIN := hide (fld_fine t HOKM.out)
    have hup := fld_upto M t
    obtain ⟨⟨f, k⟩, hff⟩ : ∃ F, fldV M t = F := ⟨_, rfl⟩
    rw [hff] at HFIN hup
    simp only at HFIN hup
    obtain ⟨k0, k1⟩ := hup
    have x0 := H8.out.cell (j := 0) rfl
    have x1 := H8.out.cell (j := 1) rfl
    go_wp2_with fail
    have hcl := field1 M room _ t _ (reads_of_owns HO.out) hMl htm
    rw [hff] at hcl
    refine hcl.mono ?_; clear hcl; rintro x w4 ⟨rfl, hb4⟩
    clear x0 x1
    have HLT := hide (HOL.out.lt)
    have HLT8 := hide (HO.out.lt)
    replace HX := hide (HX.out.new hb4); replace HRR := hide (HRR.out.new hb4); replace HBW := hide (bchain HBW.out hb4)
    replace HOL := hide (owns_new HOL.out hb4)
    replace H8 := hide (H8.out.new hb4); replace HO := hide (owns_new HO.out hb4)
    have hz4 := hb4.size
    obtain ⟨V4, hV4⟩ : ∃ V, w4.alloc (.cells #[.string f.n, .string f.v] 46) = V := ⟨_, rfl⟩
    have hbV : Below w4.heap.size w4 V4 := by rw [← hV4]; exact (Below.refl _ _).alloc (Nat.le_refl _) _
    have HFB : Hid (RowIs V4 w4.heap.size 46 [.string f.n, .string f.v]) := by show RowIs _ _ _ _; rw [← hV4]; exact rowIs_new w4 _ _
    replace HX := hide (HX.out.new hbV); replace HRR := hide (HRR.out.new hbV); replace HBW := hide (bchain HBW.out hbV)
    replace HOL := hide (owns_new HOL.out hbV)
    replace H8 := hide (H8.out.new hbV); replace HO := hide (owns_new HO.out hbV)
    have hzV4 := HFB.out.lt
    clear hb4 hbV
    by_cases hk0 : k = 0
    · have HDD : Hid (D = ([], (room, L), false)) := by
        have h := HDB.out
        rw [← HREC.out, decF_none ht0 (.inl (by rw [hff]; exact hk0))] at h
        exact h
      subst hk0
      go_upto_region 9 with fail
      clear hV4
      have x0 := HX.out.cell (j := 0) rfl
      have x1 := HX.out.cell (j := 1) rfl
      have hlxx := HX.out.lt
      have hlrr := HRR.out.lt
      go_wp2_with fail
      have hbE : Below V4.heap.size V4 (V4.alloc (.cells #[] 46)) := (Below.refl _ _).alloc (Nat.le_refl _) _
      have HOE := hide (owns_none V4 46)
      replace HX := hide (HX.out.new hbE); replace HRR := hide (HRR.out.new hbE); replace HBW := hide (bchain HBW.out hbE)
      have hzE := hbE.size
      have hzE2 : (V4.alloc (.cells #[] 46)).heap.size = V4.heap.size + 1 := by simp
      clear hbE x0 x1
      refine (copy1 L room _ _ (HR.out.new HBW.out) (by omega)).mono ?_; rintro x wf ⟨vf, rfl, hof, hbf⟩
      obtain ⟨af, pf, rfl, _⟩ := owns_form hof
      replace HX := hide (HX.out.new hbf); replace HRR := hide (HRR.out.new hbf); replace HBW := hide (bchain HBW.out hbf)
      replace HOE := hide (owns_new HOE.out hbf)
      have NEF : Hid (∀ q, (Value.slice af L.length pf).ownBlock = some q → V4.heap.size < q) := fun q hq => by have := (hof.lt q hq).1; omega
      have HOF := hide hof
      clear hbf hof
      have r0 := HRR.out.cell (j := 0) rfl
      have r1 := HRR.out.cell (j := 1) rfl
      have r2 := HRR.out.frozen 0
      have r3 := HRR.out.frozen 1
      go_wp2_with fail
      refine bodyPost_ret (v := (.tuple #[.slice (some ⟨V4.heap.size, 0, none⟩) 0 0, .agg #[.int .i64 room, .slice af L.length pf], .bool false])) (by simp [results, Try.results21, go_sem, *]) rfl ?_
      rw [HDD.out]
      refine ⟨_, _, rfl, owns_base (owns_apart (owns_apart HOE.out ⟨w.heap.size + 1, 0, none⟩ _ (fun e => by simp [Value.ownBlock] at e; omega)) ⟨w.heap.size + 1, 1, none⟩ _ (fun e => by simp [Value.ownBlock] at e; omega)) (fun k hk => by simp [Value.ownBlock] at hk; omega), owns_base (owns_apart (owns_apart HOF.out _ _ (fun e => by have := NEF.out _ e; simp at this; omega)) _ _ (fun e => by have := NEF.out _ e; simp at this; omega)) (fun k hk => by have := NEF.out k hk; omega), fun q hq e => by have := NEF.out q e; simp [Value.ownBlock] at hq; omega, Below.setCell (Below.setCell HBW.out (show w.heap.size ≤ w.heap.size + 1 by omega) _) (show w.heap.size ≤ w.heap.size + 1 by omega) _⟩
    have hkb : (k == 0) = false := by simp [hk0]
    have y0 := HFB.out.cell (j := 0) rfl
    have y1 := HFB.out.cell (j := 1) rfl
    cases hokf : okF f
    · have HDD : Hid (D = ([], (room, L), false)) := by
        have h := HDB.out
        rw [← HREC.out, decF_none ht0 (.inr (.inl (by rw [hff]; exact hokf)))] at h
        exact h
      go_wp2_with fail
      clear hV4
      refine (specField f _ HFIN.out).mono ?_; rw [hokf]; rintro x w5 ⟨rfl, hb5⟩
      replace HX := hide (HX.out.new hb5); replace HRR := hide (HRR.out.new hb5); replace HBW := hide (bchain HBW.out hb5)
      have hz5 := hb5.size
      clear hb5 y0 y1
      go_upto_region 9 with fail
      have x0 := HX.out.cell (j := 0) rfl
      have x1 := HX.out.cell (j := 1) rfl
      have hlxx := HX.out.lt
      have hlrr := HRR.out.lt
      go_wp2_with fail
      have hbE : Below w5.heap.size w5 (w5.alloc (.cells #[] 46)) := (Below.refl _ _).alloc (Nat.le_refl _) _
      have HOE := hide (owns_none w5 46)
      replace HX := hide (HX.out.new hbE); replace HRR := hide (HRR.out.new hbE); replace HBW := hide (bchain HBW.out hbE)
      have hzE := hbE.size
      have hzE2 : (w5.alloc (.cells #[] 46)).heap.size = w5.heap.size + 1 := by simp
      clear hbE x0 x1
      refine (copy1 L room _ _ (HR.out.new HBW.out) (by omega)).mono ?_; rintro x wf ⟨vf, rfl, hof, hbf⟩
      obtain ⟨af, pf, rfl, _⟩ := owns_form hof
      replace HX := hide (HX.out.new hbf); replace HRR := hide (HRR.out.new hbf); replace HBW := hide (bchain HBW.out hbf)
      replace HOE := hide (owns_new HOE.out hbf)
      have NEF : Hid (∀ q, (Value.slice af L.length pf).ownBlock = some q → w5.heap.size < q) := fun q hq => by have := (hof.lt q hq).1; omega
      have HOF := hide hof
      clear hbf hof
      have r0 := HRR.out.cell (j := 0) rfl
      have r1 := HRR.out.cell (j := 1) rfl
      have r2 := HRR.out.frozen 0
      have r3 := HRR.out.frozen 1
      go_wp2_with fail
      refine bodyPost_ret (v := (.tuple #[.slice (some ⟨w5.heap.size, 0, none⟩) 0 0, .agg #[.int .i64 room, .slice af L.length pf], .bool false])) (by simp [results, Try.results21, go_sem, *]) rfl ?_
      rw [HDD.out]
      refine ⟨_, _, rfl, owns_base (owns_apart (owns_apart HOE.out ⟨w.heap.size + 1, 0, none⟩ _ (fun e => by simp [Value.ownBlock] at e; omega)) ⟨w.heap.size + 1, 1, none⟩ _ (fun e => by simp [Value.ownBlock] at e; omega)) (fun k hk => by simp [Value.ownBlock] at hk; omega), owns_base (owns_apart (owns_apart HOF.out _ _ (fun e => by have := NEF.out _ e; simp at this; omega)) _ _ (fun e => by have := NEF.out _ e; simp at this; omega)) (fun k hk => by have := NEF.out k hk; omega), fun q hq e => by have := NEF.out q e; simp [Value.ownBlock] at hq; omega, Below.setCell (Below.setCell HBW.out (show w.heap.size ≤ w.heap.size + 1 by omega) _) (show w.heap.size ≤ w.heap.size + 1 by omega) _⟩
    by_cases hl20 : (out.length : Int) = 20
    · have hlb : ((out.length : Int) == 20) = true := by simp [hl20]
      have HDD : Hid (D = ([], (room, L), false)) := by
        have h := HDB.out
        rw [← HREC.out, decF_none ht0 (.inr (.inr (by omega)))] at h
        exact h
      go_wp2_with fail
      clear hV4
      refine (specField f _ HFIN.out).mono ?_; rw [hokf]; rintro x w5 ⟨rfl, hb5⟩
      replace HX := hide (HX.out.new hb5); replace HRR := hide (HRR.out.new hb5); replace HBW := hide (bchain HBW.out hb5)
      have hz5 := hb5.size
      clear hb5 y0 y1
      go_upto_region 9 with fail
      have x0 := HX.out.cell (j := 0) rfl
      have x1 := HX.out.cell (j := 1) rfl
      have hlxx := HX.out.lt
      have hlrr := HRR.out.lt
      go_wp2_with fail
      have hbE : Below w5.heap.size w5 (w5.alloc (.cells #[] 46)) := (Below.refl _ _).alloc (Nat.le_refl _) _
      have HOE := hide (owns_none w5 46)
      replace HX := hide (HX.out.new hbE); replace HRR := hide (HRR.out.new hbE); replace HBW := hide (bchain HBW.out hbE)
      have hzE := hbE.size
      have hzE2 : (w5.alloc (.cells #[] 46)).heap.size = w5.heap.size + 1 := by simp
      clear hbE x0 x1
      refine (copy1 L room _ _ (HR.out.new HBW.out) (by omega)).mono ?_; rintro x wf ⟨vf, rfl, hof, hbf⟩
      obtain ⟨af, pf, rfl, _⟩ := owns_form hof
      replace HX := hide (HX.out.new hbf); replace HRR := hide (HRR.out.new hbf); replace HBW := hide (bchain HBW.out hbf)
      replace HOE := hide (owns_new HOE.out hbf)
      have NEF : Hid (∀ q, (Value.slice af L.length pf).ownBlock = some q → w5.heap.size < q) := fun q hq => by have := (hof.lt q hq).1; omega
      have HOF := hide hof
      clear hbf hof
      have r0 := HRR.out.cell (j := 0) rfl
      have r1 := HRR.out.cell (j := 1) rfl
      have r2 := HRR.out.frozen 0
      have r3 := HRR.out.frozen 1
      go_wp2_with fail
      refine bodyPost_ret (v := (.tuple #[.slice (some ⟨w5.heap.size, 0, none⟩) 0 0, .agg #[.int .i64 room, .slice af L.length pf], .bool false])) (by simp [results, Try.results21, go_sem, *]) rfl ?_
      rw [HDD.out]
      refine ⟨_, _, rfl, owns_base (owns_apart (owns_apart HOE.out ⟨w.heap.size + 1, 0, none⟩ _ (fun e => by simp [Value.ownBlock] at e; omega)) ⟨w.heap.size + 1, 1, none⟩ _ (fun e => by simp [Value.ownBlock] at e; omega)) (fun k hk => by simp [Value.ownBlock] at hk; omega), owns_base (owns_apart (owns_apart HOF.out _ _ (fun e => by have := NEF.out _ e; simp at this; omega)) _ _ (fun e => by have := NEF.out _ e; simp at this; omega)) (fun k hk => by have := NEF.out k hk; omega), fun q hq e => by have := NEF.out q e; simp [Value.ownBlock] at hq; omega, Below.setCell (Below.setCell HBW.out (show w.heap.size ≤ w.heap.size + 1 by omega) _) (show w.heap.size ≤ w.heap.size + 1 by omega) _⟩
    have hl20' : ¬ out.length = 20 := by omega
    have hlb : ((out.length : Int) == 20) = false := by simp; omega
    go_wp2_with fail
    clear hV4
    refine (specField f _ HFIN.out).mono ?_; rw [hokf]; rintro x w5 ⟨rfl, hb5⟩
    replace HX := hide (HX.out.new hb5); replace HRR := hide (HRR.out.new hb5); replace HBW := hide (bchain HBW.out hb5)
    replace HOL := hide (owns_new HOL.out hb5)
    replace H8 := hide (H8.out.new hb5); replace HO := hide (owns_new HO.out hb5)
    replace HFB := hide (HFB.out.new hb5)
    have hz5 := hb5.size
    clear hb5 y0 y1
    go_upto_region 10 with fail
    have y0 := HFB.out.cell (j := 0) rfl
    have y1 := HFB.out.cell (j := 1) rfl
    have hbX : Below w5.heap.size w5 (w5.alloc (.cells #[.string f.n, .string f.v] 46)) := (Below.refl _ _).alloc (Nat.le_refl _) _
    have hRd := reads_of_owns (owns_two w5 46 f)
    replace HX := hide (HX.out.new hbX); replace HRR := hide (HRR.out.new hbX); replace HBW := hide (bchain HBW.out hbX)
    replace HOL := hide (owns_new HOL.out hbX)
    replace H8 := hide (H8.out.new hbX); replace HO := hide (owns_new HO.out hbX)
    replace HFB := hide (HFB.out.new hbX)
    have hzX := hbX.size
    clear hbX
    go_wp2_with (at_builtin; refine wpList_app _ (by rfl) _ _ 24 (by rfl) 46 (.agg #[.string ⟨#[]⟩, .string ⟨#[]⟩]) 2 32 Try.underlying24 (by kernel_rfl) rfl (by decide) (w.heap.size + 1 + 1) _ out.length (fv out) (by rfl) HOL.out _ 1 (fv [f]) (by rfl) hRd (fv_one _) (by omega) (by decide) (by omega) ?_)
    intro ad8 cap8 w8 hown8 hg8 hat8
    clear y0 y1 hRd
    have hzX2 : (w5.alloc (.cells #[.string f.n, .string f.v] 46)).heap.size = w5.heap.size + 1 := by simp
    generalize w5.alloc (.cells #[.string f.n, .string f.v] 46) = wz at *
    replace HX := hide (HX.out.kept (hg8.block _ HX.out.lt (fun e => by have := (HLT.out (w.heap.size) e.symm).1; omega)))
    replace HRR := hide (HRR.out.kept (hg8.block _ HRR.out.lt (fun e => by have := (HLT.out (w.heap.size + 1) e.symm).1; omega)))
    replace H8 := hide (H8.out.kept (hg8.block _ H8.out.lt (fun e => HNL.out e.symm)))
    replace HFB := hide (HFB.out.kept (hg8.block _ HFB.out.lt (fun e => by have := (HLT.out (w4.heap.size) e.symm).2; omega)))
    have HL8 := hide (HO.out.lt)
    replace HO := hide (owns_kept HO.out (fun k hk hlt => hg8.block k hlt (fun e => (HNE.out k hk).2.2 e.symm)))
    replace HBW : Hid (Below w.heap.size w w8) := hide (HBW.out.trans ⟨hg8.os, hg8.tape, hg8.output, hg8.size, fun k hk => hg8.block k (Nat.lt_of_lt_of_le hk HBW.out.size) (fun e => by have := (HLT.out k e.symm).1; omega)⟩)
    have HNE8 : Hid (∀ q, (Value.slice a M.length p).ownBlock = some q → w.heap.size + 1 < q ∧ q ≠ w2.heap.size ∧ (Value.slice ad8 (out.length + 1) cap8).ownBlock ≠ some q) := fun q hq => ⟨(HNE.out q hq).1, (HNE.out q hq).2.1, fun e => by
      rcases hat8 with h | h
      · exact (HNE.out q hq).2.2 (h ▸ e)
      · have h2 := (HL8.out q hq).2
        have e2 := Option.some.inj (h.symm.trans e)
        exact absurd e2 (by omega)⟩
    have HNL8 : Hid ((Value.slice ad8 (out.length + 1) cap8).ownBlock ≠ some w2.heap.size) := fun e => by
      rcases hat8 with h | h
      · exact HNL.out (h ▸ e)
      · have e2 := Option.some.inj (h.symm.trans e)
        exact absurd e2 (by omega)
    have HOL8 : Hid (w8.ownsRow (w.heap.size + 1 + 1) 46 2 (.slice ad8 (out.length + 1) cap8) (out.length + 1) (fv out ++ fv [f])) := hown8
    have HLT8b := hide (hown8.lt)
    have hz8b := hg8.size
    clear hown8 hg8 hat8 HOL HNE HNL HL8
    have hTs := ext_size (s := t) k0 k1
    obtain ⟨T, hT⟩ : ∃ T, t.extract k.toNat t.size = T := ⟨_, rfl⟩
    rw [hT] at hTs
    have hsl : ∀ w : World, (Instr.slice 9 (.string t) (some (.int .i64 k)) none none).run Try.prog w = .ok (.string T) w := by
      intro w
      rw [run_slice_string_from_if (P := Try.prog) w 9 t .i64 k Try.underlying9, if_pos ⟨k0, k1⟩, hT]
    have hk1 : 1 ≤ k := by omega
    obtain ⟨n', rfl⟩ : ∃ n', n = n' + 1 := ⟨n - 1, by omega⟩
    have HNEXT : Hid (decF room n' (if b0 t < 128 then shr room (f :: M) else M) (out ++ [f]) T = R) := by
      have := decF_step (room := room) (n := n') (L := M) (out := out) (s := t) ht0 (by rw [hff]; exact hk0) (by rw [hff]; exact hokf) hl20'
      rw [hff] at this
      simp only at this
      rw [hT] at this
      exact this.symm.trans HREC.out
    clear hT
    have HALL2 : Hid (∀ u ∈ out ++ [f], okF u = true) := fun u hu => by
      rcases List.mem_append.1 hu with h | h
      · exact HALL.out u h
      · simp at h; rw [h]; exact hokf
    have hb := b0_get htp
    have hu := t[0].toNat_lt
    obtain ⟨c, hc⟩ : ∃ c : Int, (t[0].toNat : Int) = c := ⟨_, rfl⟩
    rw [hc] at hb
    rw [hb] at HNEXT
    have hc0 : 0 ≤ c := by omega
    have hc1 : c ≤ 255 := by omega
    clear hb
    have hlen : (out ++ [f]).length = out.length + 1 := by simp
    have HLEN := hide hlen
    clear hlen
    by_cases h128 : c < 128
    · have HNX : Hid (decF room n' (shr room (f :: M)) (out ++ [f]) T = R) := by show _ = _; rw [← HNEXT.out, if_pos h128]
      have HOKN := hide (shr_okT HOKM.out hokf)
      have HALM : Hid (∀ u ∈ M, okF u = true) := (okT_parts HOKM.out).2.2.1
      have hr0 := (okT_parts HOKM.out).1
      have y0 := HFB.out.cell (j := 0) rfl
      have y1 := HFB.out.cell (j := 1) rfl
      have HTT : Hid (TabAt w8 w2.heap.size w.heap.size room M) := ⟨⟨a, p, H8.out, HO.out, fun e => (HNE8.out _ e).2.1 rfl⟩⟩
      clear HNEXT
      go_wp2_with fail
      refine (note2 w2.heap.size w8.heap.size w.heap.size room M f _ HTT.out HALM.out hokf hr0 (by omega) (Nat.le_refl _)).mono ?_; rintro x w9 ⟨rfl, hT9, ht9⟩
      clear y0 y1
      generalize shr room (f :: M) = N at *
      obtain ⟨a9, p9, h89, ho9, hap9⟩ := hT9.ex
      have HNE9 : Hid (∀ q, (Value.slice a9 N.length p9).ownBlock = some q → w.heap.size + 1 < q ∧ q ≠ w2.heap.size ∧ (Value.slice ad8 (out.length + 1) cap8).ownBlock ≠ some q) := fun q hq => ⟨by have := (ho9.lt q hq).1; omega, fun e => hap9 (e ▸ hq), fun e => by have h1 := (ho9.lt q hq).1; have h2 := (HLT8b.out q e).2; omega⟩
      have H89 := hide h89; have HO9 := hide (owns_base (base' := w.heap.size) ho9 (fun q hq => by have := (ho9.lt q hq).1; omega))
      replace HX := hide (HX.out.kept (ht9.block _ HX.out.lt (by omega))); replace HRR := hide (HRR.out.kept (ht9.block _ HRR.out.lt (by omega)))
      replace HBW := hide (HBW.out.trans (ht9.below (by omega) HBW.out.size))
      replace HOL8 := hide (owns_turn HOL8.out ht9 (fun q hq => by have : q ≠ w2.heap.size := fun e => HNL8.out (e ▸ hq); omega))
      clear hT9 ht9 h89 ho9 hap9 H8 HO HTT HNE8
      go_wp2_with fail
      go_roundw
      case rel =>
        refine ⟨n', N, out ++ [f], T, a9, p9, ad8, cap8, ?_⟩
        rw [HLEN.out, fv_app]
        exact ⟨rfl, rfl, by omega, by omega, by omega, HALL2.out, HOKN.out, HNX.out, H89.out, HO9.out, HOL8.out, HNE9.out, HNL8.out, HX.out, HRR.out, HBW.out⟩
      case measure => show T.size < t.size; omega
    · have HNX : Hid (decF room n' M (out ++ [f]) T = R) := by show _ = _; rw [← HNEXT.out, if_neg h128]
      clear HNEXT
      go_wp2_with fail
      go_roundw
      case rel =>
        refine ⟨n', M, out ++ [f], T, a, p, ad8, cap8, ?_⟩
        rw [HLEN.out, fv_app]
        exact ⟨rfl, rfl, by omega, by omega, by omega, HALL2.out, HOKM.out, HNX.out, H8.out, HO.out, HOL8.out, HNE8.out, HNL8.out, HX.out, HRR.out, HBW.out⟩
      case measure => show T.size < t.size; omega
end Go.Proofs.Ytejmnkabmajebaa
