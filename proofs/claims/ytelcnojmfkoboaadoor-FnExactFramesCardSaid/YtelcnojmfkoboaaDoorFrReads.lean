/- Chapter 7: the frames of a text are read by the program, one after the other, and Frames. -/
import Derived.Test.YtelcnojmfkoboaaDoorFrRead
import Derived.Test.YtelcnojmfkoboaaDoorFrameRows
import Derived.Test.YtelcnojmfkoboaaDoorAppRows
import Derived.Deep.RegionHeld3

namespace Go.Proofs.YtelcnojmfkoboaaDoor
open Go.RowKit
set_option maxRecDepth 100000
set_option linter.unusedSimpArgs false
set_option linter.unusedVariables false
theorem ext_tail (s : ByteArray) (k n : Nat) (hk : k ≤ s.size) (hn : n ≤ (s.extract k s.size).size) : (s.extract k s.size).extract n (s.extract k s.size).size = s.extract (k + n) s.size := by
  refine bys_inj ?_
  have z : (s.extract k s.size).size = s.size - k := ba_extract_size (Nat.le_refl _) hk
  rw [bys_extract, bys_extract, bys_extract, z]
  have t1 : (bys s).take s.size = bys s := List.take_of_length_le (by rw [bys_len]; omega)
  rw [t1, List.take_of_length_le (by rw [List.length_drop, bys_len]; omega), List.drop_drop]
theorem frm_nil : frmV ⟨#[]⟩ = ([], ⟨#[]⟩, true) := by
  rw [frm_step, if_pos (by unfold stp; rw [if_pos (by decide)])]
theorem ext_none (s : ByteArray) : s.extract s.size s.size = ⟨#[]⟩ := ba_empty (by rw [ba_extract_size (Nat.le_refl _) (Nat.le_refl _)]; omega)
theorem ext_whole (s : ByteArray) : s.extract 0 s.size = s := by
  refine bys_inj ?_
  rw [bys_extract, List.drop_zero, List.take_of_length_le (by rw [bys_len]; omega)]
/-- What the error says of what is left, and whether it may go on so. -/
def StopIs (a0 a2 : Addr) (s : ByteArray) (R : ByteArray × Bool) (E : Value) : Prop :=
  (E = .nilIface ∧ R = (⟨#[]⟩, true)) ∨ ∃ k tag : Nat, k ≤ s.size ∧ tag ≤ 1 ∧ E = .iface 52 (.agg #[.int .i64 k, erV a0 a2 tag]) ∧ R = (s.extract k s.size, decide (tag = 0))

set_option maxHeartbeats 4000000 in
theorem implReads (s : ByteArray) (a0 a2 : Addr) (w : World) (hs : s.size ≤ 2097152) (he : Errs w a0 a2) :
    Calls Tryd.prog 34 #[.string s] w fun e w' => ∃ (v E : Value), e = .returned (.tuple #[v, E]) ∧ w'.ownsRow w.heap.size 29 4 v (frmV s).1.length (fr (frmV s).1) ∧ Below w.heap.size w w' ∧ StopIs a0 a2 s (frmV s).2 E := by
  have HE := hide he
  clear he
  obtain ⟨F, hF⟩ : ∃ F, frmV s = F := ⟨_, rfl⟩
  rw [hF]
  have HF := hide hF
  clear hF
  go_enter Tryd.func34, Tryd.ntmps34
  go_wp2_with fail
  go_loopw [4, 5] (fun v i wr => ∃ (k : Nat) (L : List Fr), i = .int .i64 k ∧ k ≤ s.size ∧ L.length ≤ k ∧ F = (L ++ (frmV (s.extract k s.size)).1, (frmV (s.extract k s.size)).2) ∧ wr.ownsRow w.heap.size 29 4 v L.length (fr L) ∧ Below w.heap.size w wr) (fun _ i _ => s.size - (intOf i).toNat)
  case atStart => exact ⟨0, [], rfl, Nat.zero_le _, Nat.zero_le _, by rw [ext_whole, HF.out]; simp, World.ownsRow_nil _ _ _ _, Below.refl _ _⟩
  case round =>
    obtain ⟨k, L, rfl, hk, hLk, hFk, hown, hb⟩ := hrel
    obtain ⟨ad, cap, rfl, _⟩ := owns_form hown
    by_cases hlt : k < s.size
    · obtain ⟨T, hT⟩ : ∃ T, s.extract k s.size = T := ⟨_, rfl⟩
      have hTs : T.size = s.size - k := by rw [← hT]; exact ba_extract_size (Nat.le_refl _) hk
      have hsl : ∀ w, (Instr.slice 9 (.string s) (some (.int .i64 k)) none none).run Tryd.prog w = .ok (.string T) w := fun w => by
        rw [run_slice_string_from_if (P := Tryd.prog) w 9 s .i64 k Tryd.underlying9, if_pos ⟨by omega, by omega⟩, Int.toNat_natCast, hT]
      have hfs := frm_step T
      have h3 := stp_three T
      have h2 := @stp_two T
      have hTm : T.size ≤ maxLen := by unfold maxLen; omega
      have hcl := implRead T a0 a2 wr hTm (HE.out.new hb)
      have hxt := ext_tail s k
      rw [hT] at hFk hxt
      obtain ⟨⟨tag, f, n⟩, hD⟩ : ∃ D, stp T = D := ⟨_, rfl⟩
      rw [hD] at hfs h3 h2 hcl
      dsimp only at hfs h3 h2 hcl
      have HO := hide hown
      have HFK := hide hFk
      have HFS := hide hfs
      have HXT := hide hxt
      have HTS := hide hTs
      have HT := hide hT
      clear hD hfs hFk hown hTs hxt hT
      by_cases ht : tag = 2
      · subst ht
        obtain ⟨hok, hn, hnT, hloop⟩ := h2 rfl
        clear hloop
        have HN := hide hn
        have hfb : f.b.size ≤ 2097152 := by have := HTS.out; omega
        have hkf : k + 7 + f.b.size ≤ s.size := by have := HTS.out; omega
        clear h2 h3 hok hn hnT
        go_wp2_with fail
        refine hcl.mono ?_; clear hcl; rintro x w1 ⟨rfl, hb1⟩
        unfold erV
        go_wp2_with fail
        have hszb := hb.size
        have hsz1 := hb1.size
        have hob : ∀ q, (Value.slice ad L.length cap).ownBlock = some q → q < wr.heap.size := fun q hq => (HO.out.lt q hq).2
        obtain ⟨V, hV⟩ : ∃ V, w1.alloc (.cells #[.int .i64 f.k, .int .i64 f.fl, .int .i64 f.st, .string f.b] 29) = V := ⟨_, rfl⟩
        have RV : RowIs V w1.heap.size 29 [.int .i64 f.k, .int .i64 f.fl, .int .i64 f.st, .string f.b] := by rw [← hV]; exact rowIs_new w1 _ _
        have HOV : Hid (World.ownsRow (World.drew V) w.heap.size 29 4 (.slice ad L.length cap) L.length (fr L)) := by show World.ownsRow V _ _ _ _ _ _; rw [← hV]; exact (owns_new HO.out hb1).alloc _
        have HBV : Hid (Below w.heap.size w (World.drew V)) := by show Below _ _ _; rw [← hV]; exact (bo_alloc (bchain hb hb1) _).drew
        rw [hV]
        clear hV hb hb1 HO
        refine wp_region_held_drew (S := fun u => RowIs u w1.heap.size 29 [.int .i64 f.k, .int .i64 f.fl, .int .i64 f.st, .string f.b]) (by kernel_rfl) RV (fun hS => ?_)
        generalize World.drew V = V1 at hS HOV HBV ⊢
        have hsb := HBV.out.size
        refine wpAnyH_take (i := 0) (v := ?_) rfl (by kernel_rfl) (by kernel_rfl) (by kernel_rfl) (fun _ _ _ h => h) (Or.inl ⟨by kernel_rfl, ?_⟩) hS ?_; rotate_left; focus (intro uu hu; clear hu; go_simp; try with_reducible rfl)
        simp only [Act.put, List.getElem_toArray, List.getElem_cons_succ, List.getElem_cons_zero, List.setIfInBounds_toArray, List.set_cons_zero, List.set_cons_succ]
        refine wpAnyH_take (i := 1) (v := .agg #[.int .i64 f.k, .int .i64 f.fl, .int .i64 f.st, .string f.b]) rfl (by kernel_rfl) (by kernel_rfl) (by kernel_rfl) (fun _ _ _ h => h) (Or.inl ⟨by kernel_rfl, ?ld⟩) hS ?_; case ld => (intro uu hu; have q0 := RowIs.cell (j := 0) hu rfl; have q1 := RowIs.cell (j := 1) hu rfl; have q2 := RowIs.cell (j := 2) hu rfl; have q3 := RowIs.cell (j := 3) hu rfl; clear hu; go_simp)
        simp only [Act.put, List.getElem_toArray, List.getElem_cons_succ, List.getElem_cons_zero, List.setIfInBounds_toArray, List.set_cons_zero, List.set_cons_succ]
        refine wpAnyH_take (i := 4) (v := ?_) rfl (by kernel_rfl) (by kernel_rfl) (by kernel_rfl) (fun _ _ _ h => h) (Or.inl ⟨by kernel_rfl, ?_⟩) hS ?_; rotate_left; focus (intro uu hu; clear hu; go_simp; try with_reducible rfl)
        simp only [Act.put, List.getElem_toArray, List.getElem_cons_succ, List.getElem_cons_zero, List.setIfInBounds_toArray, List.set_cons_zero, List.set_cons_succ]
        refine wpAnyH_take (i := 5) (v := ?_) rfl (by kernel_rfl) (by kernel_rfl) (by kernel_rfl) (fun _ _ _ h => h) (Or.inl ⟨by kernel_rfl, ?_⟩) hS ?_; rotate_left; focus (intro uu hu; clear hu; go_simp; try with_reducible rfl)
        simp only [Act.put, List.getElem_toArray, List.getElem_cons_succ, List.getElem_cons_zero, List.setIfInBounds_toArray, List.set_cons_zero, List.set_cons_succ]
        refine wpAnyH_take (i := 6) (v := ?_) rfl (by kernel_rfl) (by kernel_rfl) (by kernel_rfl) (fun _ _ _ h => h) (Or.inl ⟨by kernel_rfl, ?_⟩) hS ?_; rotate_left; focus (intro uu hu; clear hu; go_simp; try with_reducible rfl)
        simp only [Act.put, List.getElem_toArray, List.getElem_cons_succ, List.getElem_cons_zero, List.setIfInBounds_toArray, List.set_cons_zero, List.set_cons_succ]
        refine wpAnyH_take (i := 7) (v := .string f.b) rfl (by kernel_rfl) (by kernel_rfl) (by kernel_rfl) (fun _ _ _ h => h) (Or.inl ⟨by kernel_rfl, ?ld⟩) hS ?_; case ld => (intro uu hu; have q0 := RowIs.cell (j := 0) hu rfl; have q1 := RowIs.cell (j := 1) hu rfl; have q2 := RowIs.cell (j := 2) hu rfl; have q3 := RowIs.cell (j := 3) hu rfl; clear hu; go_simp)
        simp only [Act.put, List.getElem_toArray, List.getElem_cons_succ, List.getElem_cons_zero, List.setIfInBounds_toArray, List.set_cons_zero, List.set_cons_succ]
        refine wpAnyH_take (i := 8) (v := ?_) rfl (by kernel_rfl) (by kernel_rfl) (by kernel_rfl) (fun _ _ _ h => h) (Or.inl ⟨by kernel_rfl, ?_⟩) hS ?_; rotate_left; focus (intro uu hu; clear hu; go_simp; try with_reducible rfl)
        simp only [Act.put, List.getElem_toArray, List.getElem_cons_succ, List.getElem_cons_zero, List.setIfInBounds_toArray, List.set_cons_zero, List.set_cons_succ]
        refine wpAnyH_take (i := 9) (v := ?_) rfl (by kernel_rfl) (by kernel_rfl) (by kernel_rfl) (fun _ _ _ h => h) (Or.inl ⟨by kernel_rfl, ?_⟩) hS ?_; rotate_left; focus (intro uu hu; clear hu; go_simp; try with_reducible rfl)
        simp only [Act.put, List.getElem_toArray, List.getElem_cons_succ, List.getElem_cons_zero, List.setIfInBounds_toArray, List.set_cons_zero, List.set_cons_succ]
        refine wpAnyH_ready (rs := [2]) (by kernel_rfl) (by simp) ?_
        refine AllReadyH.cons rfl (fun K hK => ?_) AllReadyH.nil
        rw [if_pos (by kernel_rfl)]
        go_simp
        obtain ⟨V2, hV2⟩ : ∃ u, V1.alloc (.cells #[.int .i64 f.k, .int .i64 f.fl, .int .i64 f.st, .string f.b] 29) = u := ⟨_, rfl⟩
        have HN2 : Hid (V2.ownsRow V1.heap.size 29 4 (.slice (some ⟨V1.heap.size, 0, none⟩) 1 1) 1 f.cs) := by show World.ownsRow _ _ _ _ _ _ _; rw [← hV2]; exact owns_frame V1 f
        have HO2 : Hid (V2.ownsRow w.heap.size 29 4 (.slice ad L.length cap) L.length (fr L)) := by show World.ownsRow _ _ _ _ _ _ _; rw [← hV2]; exact HOV.out.alloc _
        have HB2 : Hid (Below w.heap.size w V2) := by show Below _ _ _; rw [← hV2]; exact bo_alloc HBV.out _
        have S2 : RowIs V2 w1.heap.size 29 [.int .i64 f.k, .int .i64 f.fl, .int .i64 f.st, .string f.b] := by rw [← hV2]; exact hS.alloc _
        rw [hV2]
        refine hK.out _ _ S2 (fun hS => ?_)
        clear hK K hV2 S2 HOV HBV
        try simp only [Act.put, List.getElem_toArray, List.getElem_cons_succ, List.getElem_cons_zero, List.setIfInBounds_toArray, List.set_cons_zero, List.set_cons_succ]
        have hsb2 := HB2.out.size
        refine wpAnyH_ready (rs := [3]) (by kernel_rfl) (by simp) ?_
        refine AllReadyH.cons rfl (fun K hK => ?_) AllReadyH.nil
        refine step_app _ (by rfl) _ _ 25 (by rfl) 29 (.agg #[.int .i64 0, .int .i64 0, .int .i64 0, .string ⟨#[]⟩]) 4 40 Tryd.underlying25 (by kernel_rfl) rfl (by decide) w.heap.size _ L.length (fr L) (by rfl) HO2.out _ 1 f.cs (by rfl) (reads_of_owns HN2.out) (fun u hu => fr_one [f] u (by simpa [fr] using hu)) (by omega) (by decide) hsb2 ?_
        intro ad3 cap3 w3 hown3 hgrow3 hat3
        clear hat3
        have HB3 : Hid (Below w.heap.size w w3) := HB2.out.grown hgrow3 hsb2 (fun q hq => (HO2.out.lt q hq).1)
        have S3 : RowIs w3 w1.heap.size 29 [.int .i64 f.k, .int .i64 f.fl, .int .i64 f.st, .string f.b] := hS.kept (hgrow3.block _ hS.lt (fun e => by have := hob _ e.symm; omega))
        refine hK.out _ _ S3 (fun hS => ?_)
        clear hK K S3 hgrow3 HO2 HN2 HB2
        rw [← fr_snoc] at hown3
        have HO3 : Hid (w3.ownsRow w.heap.size 29 4 (.slice ad3 (L.length + 1) cap3) (L ++ [f]).length (fr (L ++ [f]))) := by show World.ownsRow _ _ _ _ _ _ _; simpa using hown3
        clear hown3
        try simp only [Act.put, List.getElem_toArray, List.getElem_cons_succ, List.getElem_cons_zero, List.setIfInBounds_toArray, List.set_cons_zero, List.set_cons_succ]
        refine wpAnyH_take (i := 10) (v := ?_) rfl (by kernel_rfl) (by kernel_rfl) (by kernel_rfl) (fun _ _ _ h => h) (Or.inl ⟨by kernel_rfl, ?_⟩) hS ?_; rotate_left; focus (intro uu hu; clear hu; go_simp; try with_reducible rfl)
        simp only [Act.put, List.getElem_toArray, List.getElem_cons_succ, List.getElem_cons_zero, List.setIfInBounds_toArray, List.set_cons_zero, List.set_cons_succ]
        refine wpAnyH_take (i := 11) (v := ?_) rfl (by kernel_rfl) (by kernel_rfl) (by kernel_rfl) (fun _ _ _ h => h) (Or.inl ⟨by kernel_rfl, ?_⟩) hS ?_; rotate_left; focus (intro uu hu; clear hu; go_simp; try with_reducible rfl)
        simp only [Act.put, List.getElem_toArray, List.getElem_cons_succ, List.getElem_cons_zero, List.setIfInBounds_toArray, List.set_cons_zero, List.set_cons_succ]
        refine wpAnyH_done (by kernel_rfl) ?_ _
        have HFN : Hid (F = ((L ++ [f]) ++ (frmV (s.extract (k + 7 + f.b.size) s.size)).1, (frmV (s.extract (k + 7 + f.b.size) s.size)).2)) := by
          show _ = _
          have e := HXT.out n hk (by have := HN.out; have := HTS.out; omega)
          have hn := HN.out
          rw [HFK.out, HFS.out, e, hn, Nat.add_assoc]
          simp
        clear HFK HFS HXT HN hob hS RV
        go_wp2_with fail
        have hwr : IntKind.i64.wrap (IntKind.i64.wrap ((k : Int) + 7) + (f.b.size : Int)) = ((k + 7 + f.b.size : Nat) : Int) := by
          rw [wraps40 ((k : Int) + 7) (by omega) (by omega), wraps40 ((k : Int) + 7 + (f.b.size : Int)) (by omega) (by omega)]
          push_cast
          rfl
        rw [hwr]
        exact ⟨⟨k + 7 + f.b.size, L ++ [f], rfl, hkf, by simp; omega, HFN.out, HO3.out, HB3.out⟩, by simp [intOf]; omega⟩
      · have htag : tag = 0 ∨ tag = 1 := by omega
        have hFe : F = (L, T, decide (tag = 0)) := by
          rw [HFK.out, HFS.out]
          rcases htag with rfl | rfl <;> simp
        clear h2 h3 HFK HFS HXT
        subst hFe
        rcases htag with rfl | rfl
        · go_wp2_with fail
          refine hcl.mono ?_; clear hcl; rintro x w1 ⟨rfl, hb1⟩
          unfold erV
          go_wp2_with fail
          go_ret2
          exact ⟨_, _, rfl, (owns_new HO.out hb1).alloc _, bo_alloc (bchain hb hb1) _, .inr ⟨k, 0, hk, by omega, rfl, by rw [HT.out]; rfl⟩⟩
        · go_wp2_with fail
          refine hcl.mono ?_; clear hcl; rintro x w1 ⟨rfl, hb1⟩
          unfold erV
          go_wp2_with fail
          go_ret2
          exact ⟨_, _, rfl, (owns_new HO.out hb1).alloc _, bo_alloc (bchain hb hb1) _, .inr ⟨k, 1, hk, by omega, rfl, by rw [HT.out]; rfl⟩⟩
    · obtain rfl : k = s.size := by omega
      have hFe : F = (L, ⟨#[]⟩, true) := by rw [hFk, ext_none, frm_nil]; simp
      subst hFe
      go_wp2_with fail
      go_ret2
      exact ⟨_, _, rfl, hown, hb, .inl ⟨rfl, rfl⟩⟩

set_option maxHeartbeats 4000000 in
theorem implFrames (s : ByteArray) (a0 a2 : Addr) (w : World) (hs : s.size ≤ 2097152) (he : Errs w a0 a2) :
    Calls Tryd.prog 8 #[.string s] w fun e w' => ∃ v : Value, e = .returned (.tuple #[v, .string (frmV s).2.1, .bool (frmV s).2.2]) ∧ w'.ownsRow w.heap.size 29 4 v (frmV s).1.length (fr (frmV s).1) ∧ Below w.heap.size w w' := by
  have hcl := implReads s a0 a2 w hs he
  have HE := hide he
  clear he
  obtain ⟨⟨L, rest, ok⟩, hF⟩ : ∃ F, frmV s = F := ⟨_, rfl⟩
  rw [hF] at hcl ⊢
  dsimp only at hcl ⊢
  clear hF
  go_enter Tryd.func8, Tryd.ntmps8
  go_wp2_with fail
  refine hcl.mono ?_; clear hcl; rintro x w1 ⟨v, E, rfl, hown, hb1, hst⟩
  obtain ⟨ad, cap, rfl, _⟩ := owns_form hown
  replace HE := HE.out.new hb1
  rcases hst with ⟨rfl, hR⟩ | ⟨k, tag, hk, htag, rfl, hR⟩
  · simp only [Prod.mk.injEq] at hR
    obtain ⟨rfl, rfl⟩ := hR
    have HO := hide hown
    clear hown
    go_wp2_with fail
    refine (as_nil _ _).mono ?_; rintro x w2 ⟨rfl, rfl⟩
    go_wp2_with fail
    go_ret3
    exact ⟨_, rfl, HO.out.alloc _, bo_alloc hb1 _⟩
  · simp only [Prod.mk.injEq] at hR
    obtain ⟨hT, rfl⟩ := hR
    replace hT := hide hT
    have HO := hide hown
    have HEE := hide HE
    clear hown HE
    go_wp2_with fail
    have herc : (erV a0 a2 tag).oneCell' = true := by rcases (show tag = 0 ∨ tag = 1 by omega) with rfl | rfl <;> rfl
    obtain ⟨V, hV⟩ : ∃ V, w1.alloc (.cells #[.int .i64 0, .nilIface] 52) = V := ⟨_, rfl⟩
    have RV : RowIs V w1.heap.size 52 [.int .i64 0, .nilIface] := by rw [← hV]; exact rowIs_new w1 _ _
    have hbV : Below w1.heap.size w1 V := by rw [← hV]; exact (Below.refl _ _).alloc (Nat.le_refl _) _
    rw [hV]
    clear hV
    have HO0 := HO
    have HE0 := HEE
    replace HO := hide (owns_new HO.out hbV)
    replace HEE := hide (HEE.out.new hbV)
    have hbw := bchain hb1 hbV
    refine (as_hit' (.int .i64 k) (erV a0 a2 tag) _ _ w1.heap.size V rfl herc HEE.out.c1 RV).mono ?_
    rintro x w2 ⟨rfl, RT, hturn⟩
    have hb12 : Below w1.heap.size w1 w2 := hbV.trans (hturn.below (Nat.le_refl _) hbV.size)
    have HO2 := hide (owns_new HO0.out hb12)
    have HE2 := hide (HE0.out.new hb12)
    have HBW := hide (bchain hb1 hb12)
    clear hturn hb12 hbV HO HEE hbw hb1 HO0 HE0 RV
    have hTs : rest.size ≤ 281474976710656 := by rw [hT.out, ba_extract_size (Nat.le_refl _) hk]; omega
    have hsl : ∀ w, (Instr.slice 9 (.string s) (some (.int .i64 k)) none none).run Tryd.prog w = .ok (.string rest) w := fun w => by
      rw [run_slice_string_from_if (P := Tryd.prog) w 9 s .i64 k Tryd.underlying9, if_pos ⟨by omega, by omega⟩, Int.toNat_natCast, hT.out]
    clear hT
    have c0 := RT.cell (j := 0) rfl
    have hl0 := RT.lt
    have g0 := HE2.out.c0
    have lg0 := HE2.out.lt.1
    go_wp2_with fail
    have htg : tag = 0 ∨ tag = 1 := by omega
    refine wp_region_held_drew (S := fun u => Below w2.heap.size w2 u) (by kernel_rfl) ((Below.refl _ _).drew) (fun hS => ?_)
    generalize World.drew w2 = V1 at hS ⊢
    refine wpAnyH_take (i := 0) (v := ?_) rfl (by kernel_rfl) (by kernel_rfl) (by kernel_rfl) (fun _ _ _ h => h) (Or.inl ⟨by kernel_rfl, ?_⟩) hS ?_; rotate_left; focus (intro uu hu; clear hu; go_simp; try with_reducible rfl)
    simp only [Act.put, List.getElem_toArray, List.getElem_cons_succ, List.getElem_cons_zero, List.setIfInBounds_toArray, List.set_cons_zero, List.set_cons_succ]
    refine wpAnyH_take (i := 1) (v := ?_) rfl (by kernel_rfl) (by kernel_rfl) (by kernel_rfl) (fun _ _ _ h => h) (Or.inl ⟨by kernel_rfl, ?_⟩) hS ?_; rotate_left; focus (intro uu hu; clear hu; go_simp; try with_reducible rfl)
    simp only [Act.put, List.getElem_toArray, List.getElem_cons_succ, List.getElem_cons_zero, List.setIfInBounds_toArray, List.set_cons_zero, List.set_cons_succ]
    refine wpAnyH_take (i := 2) (v := ?_) rfl (by kernel_rfl) (by kernel_rfl) (by kernel_rfl) (fun _ _ _ h => h) (Or.inl ⟨by kernel_rfl, ?_⟩) hS ?_; rotate_left; focus (intro uu hu; clear hu; go_simp; try with_reducible rfl)
    simp only [Act.put, List.getElem_toArray, List.getElem_cons_succ, List.getElem_cons_zero, List.setIfInBounds_toArray, List.set_cons_zero, List.set_cons_succ]
    refine wpAnyH_take (i := 3) (v := .int .i64 k) rfl (by kernel_rfl) (by kernel_rfl) (by kernel_rfl) (fun _ _ _ h => h) (Or.inl ⟨by kernel_rfl, ?ld⟩) hS ?_; case ld => (intro uu hu; have q0 := (hu.cell (p := ⟨w1.heap.size, 0, none⟩) hl0).trans c0; have q1 := (hu.cell (p := ⟨0, 0, none⟩) lg0).trans g0; clear hu; go_simp)
    simp only [Act.put, List.getElem_toArray, List.getElem_cons_succ, List.getElem_cons_zero, List.setIfInBounds_toArray, List.set_cons_zero, List.set_cons_succ]
    refine wpAnyH_take (i := 4) (v := ?_) rfl (by kernel_rfl) (by kernel_rfl) (by kernel_rfl) (fun _ _ _ h => h) (Or.inl ⟨by kernel_rfl, ?_⟩) hS ?_; rotate_left; focus (intro uu hu; clear hu; go_simp; try with_reducible rfl)
    simp only [Act.put, List.getElem_toArray, List.getElem_cons_succ, List.getElem_cons_zero, List.setIfInBounds_toArray, List.set_cons_zero, List.set_cons_succ]
    refine wpAnyH_take (i := 6) (v := ?_) rfl (by kernel_rfl) (by kernel_rfl) (by kernel_rfl) (fun _ _ _ h => h) (Or.inl ⟨by kernel_rfl, ?_⟩) hS ?_; rotate_left; focus (intro uu hu; clear hu; go_simp; try with_reducible rfl)
    simp only [Act.put, List.getElem_toArray, List.getElem_cons_succ, List.getElem_cons_zero, List.setIfInBounds_toArray, List.set_cons_zero, List.set_cons_succ]
    refine wpAnyH_take (i := 7) (v := .iface 105 (.pointer (some a0))) rfl (by kernel_rfl) (by kernel_rfl) (by kernel_rfl) (fun _ _ _ h => h) (Or.inl ⟨by kernel_rfl, ?ld⟩) hS ?_; case ld => (intro uu hu; have q0 := (hu.cell (p := ⟨w1.heap.size, 0, none⟩) hl0).trans c0; have q1 := (hu.cell (p := ⟨0, 0, none⟩) lg0).trans g0; clear hu; go_simp)
    simp only [Act.put, List.getElem_toArray, List.getElem_cons_succ, List.getElem_cons_zero, List.setIfInBounds_toArray, List.set_cons_zero, List.set_cons_succ]
    refine wpAnyH_ready (rs := [5]) (by kernel_rfl) (by simp) ?_
    refine AllReadyH.cons rfl (fun K hK => ?_) AllReadyH.nil
    rw [if_pos (by kernel_rfl)]
    go_simp
    refine (clone rest _ hTs).mono ?_; rintro e w3 ⟨rfl, hb3⟩
    refine hK.out _ _ (bchain hS hb3) (fun hS => ?_)
    clear hK K hb3
    try simp only [Act.put, List.getElem_toArray, List.getElem_cons_succ, List.getElem_cons_zero, List.setIfInBounds_toArray, List.set_cons_zero, List.set_cons_succ]
    have HE3 := HE2.out.new hS
    obtain ⟨x0, t0, e0⟩ := HE3.b0
    obtain ⟨x2, t2, e2⟩ := HE3.b2
    have hne := HE3.ne
    clear HE3
    rcases htg with rfl | rfl
    · refine wpAnyH_ready (rs := [8]) (by kernel_rfl) (by simp) ?_
      refine AllReadyH.cons rfl (fun K hK => ?_) AllReadyH.nil
      rw [if_pos (by kernel_rfl)]
      go_simp
      refine (is_other (.int .i64 k) a2 a0 x2 x0 t2 t0 _ hne e2 e0).mono ?_; rintro e w4 ⟨rfl, hb4⟩
      refine hK.out _ _ (bchain hS hb4) (fun hS => ?_)
      clear hK K hb4
      try simp only [Act.put, List.getElem_toArray, List.getElem_cons_succ, List.getElem_cons_zero, List.setIfInBounds_toArray, List.set_cons_zero, List.set_cons_succ]
      refine wpAnyH_take (i := 9) (v := ?_) rfl (by kernel_rfl) (by kernel_rfl) (by kernel_rfl) (fun _ _ _ h => h) (Or.inl ⟨by kernel_rfl, ?_⟩) hS ?_; rotate_left; focus (intro uu hu; clear hu; go_simp; try with_reducible rfl)
      simp only [Act.put, List.getElem_toArray, List.getElem_cons_succ, List.getElem_cons_zero, List.setIfInBounds_toArray, List.set_cons_zero, List.set_cons_succ]
      refine wpAnyH_take (i := 10) (v := ?_) rfl (by kernel_rfl) (by kernel_rfl) (by kernel_rfl) (fun _ _ _ h => h) (Or.inl ⟨by kernel_rfl, ?_⟩) hS ?_; rotate_left; focus (intro uu hu; clear hu; go_simp; try with_reducible rfl)
      simp only [Act.put, List.getElem_toArray, List.getElem_cons_succ, List.getElem_cons_zero, List.setIfInBounds_toArray, List.set_cons_zero, List.set_cons_succ]
      refine wpAnyH_take (i := 11) (v := ?_) rfl (by kernel_rfl) (by kernel_rfl) (by kernel_rfl) (fun _ _ _ h => h) (Or.inl ⟨by kernel_rfl, ?_⟩) hS ?_; rotate_left; focus (intro uu hu; clear hu; go_simp; try with_reducible rfl)
      simp only [Act.put, List.getElem_toArray, List.getElem_cons_succ, List.getElem_cons_zero, List.setIfInBounds_toArray, List.set_cons_zero, List.set_cons_succ]
      refine wpAnyH_take (i := 12) (v := ?_) rfl (by kernel_rfl) (by kernel_rfl) (by kernel_rfl) (fun _ _ _ h => h) (Or.inl ⟨by kernel_rfl, ?_⟩) hS ?_; rotate_left; focus (intro uu hu; clear hu; go_simp; try with_reducible rfl)
      simp only [Act.put, List.getElem_toArray, List.getElem_cons_succ, List.getElem_cons_zero, List.setIfInBounds_toArray, List.set_cons_zero, List.set_cons_succ]
      refine wpAnyH_done (by kernel_rfl) ?_ _
      have HOF := hide (owns_new HO2.out hS)
      have HBF := hide (bchain HBW.out hS)
      clear hS e0 e2 HO2 HBW
      go_wp2_with fail
      go_ret3
      exact ⟨_, rfl, HOF.out, HBF.out⟩
    · refine wpAnyH_ready (rs := [8]) (by kernel_rfl) (by simp) ?_
      refine AllReadyH.cons rfl (fun K hK => ?_) AllReadyH.nil
      rw [if_pos (by kernel_rfl)]
      go_simp
      refine (is_same (.int .i64 k) a0 _).mono ?_; rintro e w4 ⟨rfl, hb4⟩
      refine hK.out _ _ (bchain hS hb4) (fun hS => ?_)
      clear hK K hb4
      try simp only [Act.put, List.getElem_toArray, List.getElem_cons_succ, List.getElem_cons_zero, List.setIfInBounds_toArray, List.set_cons_zero, List.set_cons_succ]
      refine wpAnyH_take (i := 9) (v := ?_) rfl (by kernel_rfl) (by kernel_rfl) (by kernel_rfl) (fun _ _ _ h => h) (Or.inl ⟨by kernel_rfl, ?_⟩) hS ?_; rotate_left; focus (intro uu hu; clear hu; go_simp; try with_reducible rfl)
      simp only [Act.put, List.getElem_toArray, List.getElem_cons_succ, List.getElem_cons_zero, List.setIfInBounds_toArray, List.set_cons_zero, List.set_cons_succ]
      refine wpAnyH_take (i := 10) (v := ?_) rfl (by kernel_rfl) (by kernel_rfl) (by kernel_rfl) (fun _ _ _ h => h) (Or.inl ⟨by kernel_rfl, ?_⟩) hS ?_; rotate_left; focus (intro uu hu; clear hu; go_simp; try with_reducible rfl)
      simp only [Act.put, List.getElem_toArray, List.getElem_cons_succ, List.getElem_cons_zero, List.setIfInBounds_toArray, List.set_cons_zero, List.set_cons_succ]
      refine wpAnyH_take (i := 11) (v := ?_) rfl (by kernel_rfl) (by kernel_rfl) (by kernel_rfl) (fun _ _ _ h => h) (Or.inl ⟨by kernel_rfl, ?_⟩) hS ?_; rotate_left; focus (intro uu hu; clear hu; go_simp; try with_reducible rfl)
      simp only [Act.put, List.getElem_toArray, List.getElem_cons_succ, List.getElem_cons_zero, List.setIfInBounds_toArray, List.set_cons_zero, List.set_cons_succ]
      refine wpAnyH_take (i := 12) (v := ?_) rfl (by kernel_rfl) (by kernel_rfl) (by kernel_rfl) (fun _ _ _ h => h) (Or.inl ⟨by kernel_rfl, ?_⟩) hS ?_; rotate_left; focus (intro uu hu; clear hu; go_simp; try with_reducible rfl)
      simp only [Act.put, List.getElem_toArray, List.getElem_cons_succ, List.getElem_cons_zero, List.setIfInBounds_toArray, List.set_cons_zero, List.set_cons_succ]
      refine wpAnyH_done (by kernel_rfl) ?_ _
      have HOF := hide (owns_new HO2.out hS)
      have HBF := hide (bchain HBW.out hS)
      clear hS e0 e2 HO2 HBW
      go_wp2_with fail
      go_ret3
      exact ⟨_, rfl, HOF.out, HBF.out⟩
end Go.Proofs.YtelcnojmfkoboaaDoor
