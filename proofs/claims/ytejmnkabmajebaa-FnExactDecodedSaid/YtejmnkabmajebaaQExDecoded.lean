/- The law FnExactDecoded returns true at every argument and leaves it as it was: impl.Decoded answers as its model, and its answer owns its memory. No condition. -/
import Derived.Test.YtejmnkabmajebaaQBlocks6
import Derived.Test.YtejmnkabmajebaaQSB
import Derived.Test.YtejmnkabmajebaaQSpecBlk5
import Derived.Deep.DeepCutAuto
import Derived.Deep.RegionHeld3
import Derived.WalkKit
import Derived.ProofKit
import Derived.OpenShut
import Derived.ShutString
import Derived.ChangeOld
import Derived.Below
import Derived.Lib.SmallJoins
namespace Go.Proofs.Ytejmnkabmajebaa
open Go.RowKit
set_option maxRecDepth 100000
namespace exactDecoded
open Go.ChangeShapes Go.WideShapes Go.ChangeAt Go.RowKit Go.Joins
open Go.ChangeMaps (open_string shut_string)
set_option linter.unusedVariables false
set_option linter.unusedSimpArgs false

theorem decodedD_len (room : Int) (L : List Fd) (s : ByteArray) : (decodedD room L s).2.1.2.length ≤ 111 ∧ (decodedD room L s).1.length ≤ 20 := by
  cases h : okT room L
  · simp [decodedD, h]
  · have hl := (okT_parts h).2.2.2.2
    rw [dec_both s h]
    cases e : decI room s.size L [] s with
    | none => exact ⟨hl, by simp⟩
    | some X =>
      obtain ⟨l, e1, e2, e3, e4⟩ := decI_is _ _ _ _ _ h e
      subst e1
      exact ⟨(okT_parts (encL_ok l h e3)).2.2.2.2, by simpa using e4 (by simp)⟩

set_option maxRecDepth 100000 in
set_option maxHeartbeats 8000000 in
theorem walk (L : List Fd) (s : ByteArray) (room : Int) (v : Value) (w : World) (hr : Reads w v L.length 2 (fv L)) (hf : ∀ f ∈ L, f.fine) (hs : s.size ≤ maxLen) :
    Calls Try.prog 6 #[.agg #[.int .i64 room, v], .string s] w fun x w' => x = .returned (.bool true) ∧ Below w.heap.size w w' := by
  have HR := hide hr; have HF := hide hf
  obtain ⟨ad, cap, rfl, _⟩ := hr.2
  clear hr hf
  obtain ⟨⟨dl, ⟨dr, dL⟩, db⟩, hD⟩ : ∃ D, decodedD room L s = D := ⟨_, rfl⟩
  have hdl : dL.length ≤ 111 ∧ dl.length ≤ 20 := by have := decodedD_len room L s; rw [hD] at this; exact this
  obtain ⟨hdL, hdl⟩ := hdl
  have HD := hide hD
  clear hD
  unfold maxLen at hs
  by_cases hbig : (1048576 : Int) < s.size
  · go_enter Try.func6, Try.ntmps6
    go_wp2_with fail
    go_ret
    exact ⟨rfl, (Below.refl _ _).alloc (Nat.le_refl _) _⟩
  have hsm : s.size ≤ maxLen := by unfold maxLen; omega
  go_enter Try.func6, Try.ntmps6
  go_wp2_with fail
  obtain ⟨v0, hv0⟩ : ∃ V, w.alloc (.cells #[.int .i64 room, .slice ad L.length cap] 49) = V := ⟨_, rfl⟩
  have HBW : Hid (Below w.heap.size w v0) := by show Below _ _ _; rw [← hv0]; exact (Below.refl _ _).alloc (Nat.le_refl _) _
  have HA : Hid (RowIs v0 w.heap.size 49 [.int .i64 room, .slice ad L.length cap]) := by show RowIs _ _ _ _; rw [← hv0]; exact rowIs_new w _ _
  have lHA := HA.out.lt
  rw [hv0]
  clear hv0
  refine (szTable1 L room _ _ _ (HR.out.new HBW.out) HF.out (by omega) (by omega)).mono ?_
  by_cases hneg : (1048576 : Int) - L.length - szL L < 0
  · rw [if_pos hneg]; rintro x w1 ⟨rfl, hb1⟩
    go_wp2_with fail
    go_ret
    exact ⟨rfl, bchain HBW.out hb1⟩
  rw [if_neg hneg]; rintro x y1 ⟨rfl, hb1⟩
  have hLl : L.length ≤ 1048576 := by have := szL_pos L; omega
  have hlu : (1048576 : Int) - L.length - szL L ≤ 1048576 := by have := szL_pos L; omega
  generalize (1048576 : Int) - L.length - szL L = left at *
  replace HA := hide (HA.out.new hb1)
  replace HBW := hide (bchain HBW.out hb1)
  have zhb1 := hb1.size
  clear hb1
  have x0 := HA.out.cell (j := 0) rfl
  have x1 := HA.out.cell (j := 1) rfl
  go_wp2_with fail
  clear x0 x1
  refine (toTable1 L room _ _ (HR.out.new HBW.out) hLl).mono ?_; rintro x w2 ⟨u2, rfl, ho2, hb2⟩
  obtain ⟨a2, p2, rfl, _⟩ := owns_form ho2
  replace HA := hide (HA.out.new hb2)
  replace HBW := hide (bchain HBW.out hb2)
  have zhb2 := hb2.size
  clear hb2
  have NRA : Hid (∀ k, (Value.slice a2 L.length p2).ownBlock = some k → y1.heap.size ≤ k ∧ k < w2.heap.size) := ho2.lt
  have RA := hide ho2
  clear ho2
  go_wp2_with fail
  have hcl := specDecoded L room _ s _ (reads_of_owns RA.out) HF.out hsm
  rw [HD.out] at hcl
  dsimp only at hcl
  refine hcl.mono ?_; clear hcl; rintro x w3 ⟨t3, u3, rfl, hl3, ho3, hap3, hb3⟩
  obtain ⟨a3, p3, rfl, _⟩ := owns_form ho3
  obtain ⟨c3, q3, rfl, _⟩ := owns_form hl3
  replace HA := hide (HA.out.new hb3)
  replace RA := hide (owns_new RA.out hb3)
  replace HBW := hide (bchain HBW.out hb3)
  have zhb3 := hb3.size
  clear hb3
  have NR6 : Hid (∀ k, (Value.slice c3 dl.length q3).ownBlock = some k → w2.heap.size ≤ k ∧ k < w3.heap.size) := hl3.lt
  have R6 := hide hl3
  clear hl3
  have NR7 : Hid (∀ k, (Value.slice a3 dL.length p3).ownBlock = some k → w2.heap.size ≤ k ∧ k < w3.heap.size) := ho3.lt
  have R7 := hide ho3
  clear ho3
  have APR6R7 := hide hap3
  clear hap3
  obtain ⟨v4, hv4⟩ : ∃ V, w3.alloc (.cells #[.int .i64 dr, .slice a3 dL.length p3] 26) = V := ⟨_, rfl⟩
  have hbv4 : Below w3.heap.size w3 v4 := by rw [← hv4]; exact (Below.refl _ _).alloc (Nat.le_refl _) _
  have B7 : Hid (RowIs v4 w3.heap.size 26 [.int .i64 dr, .slice a3 dL.length p3]) := by show RowIs _ _ _ _; rw [← hv4]; exact rowIs_new w3 _ _
  replace HA := hide (HA.out.new hbv4)
  replace RA := hide (owns_new RA.out hbv4)
  replace R6 := hide (owns_new R6.out hbv4)
  replace R7 := hide (owns_new R7.out hbv4)
  replace HBW := hide (bchain HBW.out hbv4)
  have zhbv4 := hbv4.size
  clear hbv4
  have lB7 := B7.out.lt
  clear RA
  have x0 := HA.out.cell (j := 0) rfl
  have x1 := HA.out.cell (j := 1) rfl
  go_wp2_with fail
  clear hv4
  clear x0 x1
  refine (toTable1 L room _ _ (HR.out.new HBW.out) hLl).mono ?_; rintro x w5 ⟨u5, rfl, ho5, hb5⟩
  obtain ⟨a5, p5, rfl, _⟩ := owns_form ho5
  replace HA := hide (HA.out.new hb5)
  replace B7 := hide (B7.out.new hb5)
  replace R6 := hide (owns_new R6.out hb5)
  replace R7 := hide (owns_new R7.out hb5)
  replace HBW := hide (bchain HBW.out hb5)
  have zhb5 := hb5.size
  clear hb5
  have NR9 : Hid (∀ k, (Value.slice a5 L.length p5).ownBlock = some k → v4.heap.size ≤ k ∧ k < w5.heap.size) := ho5.lt
  have R9 := hide ho5
  clear ho5
  obtain ⟨v6, hv6⟩ : ∃ V, w5.alloc (.cells #[.int .i64 room, .slice a5 L.length p5] 26) = V := ⟨_, rfl⟩
  have hbv6 : Below w5.heap.size w5 v6 := by rw [← hv6]; exact (Below.refl _ _).alloc (Nat.le_refl _) _
  have B9 : Hid (RowIs v6 w5.heap.size 26 [.int .i64 room, .slice a5 L.length p5]) := by show RowIs _ _ _ _; rw [← hv6]; exact rowIs_new w5 _ _
  replace HA := hide (HA.out.new hbv6)
  replace B7 := hide (B7.out.new hbv6)
  replace R6 := hide (owns_new R6.out hbv6)
  replace R7 := hide (owns_new R7.out hbv6)
  replace R9 := hide (owns_new R9.out hbv6)
  replace HBW := hide (bchain HBW.out hbv6)
  have zhbv6 := hbv6.size
  clear hbv6
  have lB9 := B9.out.lt
  have x0 := B9.out.cell (j := 0) rfl
  have x1 := B9.out.cell (j := 1) rfl
  go_wp2_with fail
  clear hv6
  clear x0 x1
  have hcl := implDecoded L room _ s _ (reads_of_owns R9.out) HF.out hsm
  rw [HD.out] at hcl
  dsimp only at hcl
  refine hcl.mono ?_; clear hcl; rintro x w7 ⟨t7, u7, rfl, hl7, ho7, hap7, hb7⟩
  obtain ⟨a7, p7, rfl, _⟩ := owns_form ho7
  obtain ⟨c7, q7, rfl, _⟩ := owns_form hl7
  replace HA := hide (HA.out.new hb7)
  replace B7 := hide (B7.out.new hb7)
  replace B9 := hide (B9.out.new hb7)
  replace R6 := hide (owns_new R6.out hb7)
  replace R7 := hide (owns_new R7.out hb7)
  replace R9 := hide (owns_new R9.out hb7)
  replace HBW := hide (bchain HBW.out hb7)
  have zhb7 := hb7.size
  clear hb7
  have NR10 : Hid (∀ k, (Value.slice c7 dl.length q7).ownBlock = some k → v6.heap.size ≤ k ∧ k < w7.heap.size) := hl7.lt
  have R10 := hide hl7
  clear hl7
  have NR11 : Hid (∀ k, (Value.slice a7 dL.length p7).ownBlock = some k → v6.heap.size ≤ k ∧ k < w7.heap.size) := ho7.lt
  have R11 := hide ho7
  clear ho7
  have APR10R11 := hide hap7
  clear hap7
  obtain ⟨v8, hv8⟩ : ∃ V, w7.alloc (.cells #[.int .i64 dr, .slice a7 dL.length p7] 26) = V := ⟨_, rfl⟩
  have hbv8 : Below w7.heap.size w7 v8 := by rw [← hv8]; exact (Below.refl _ _).alloc (Nat.le_refl _) _
  have B11 : Hid (RowIs v8 w7.heap.size 26 [.int .i64 dr, .slice a7 dL.length p7]) := by show RowIs _ _ _ _; rw [← hv8]; exact rowIs_new w7 _ _
  replace HA := hide (HA.out.new hbv8)
  replace B7 := hide (B7.out.new hbv8)
  replace B9 := hide (B9.out.new hbv8)
  replace R6 := hide (owns_new R6.out hbv8)
  replace R7 := hide (owns_new R7.out hbv8)
  replace R9 := hide (owns_new R9.out hbv8)
  replace R10 := hide (owns_new R10.out hbv8)
  replace R11 := hide (owns_new R11.out hbv8)
  replace HBW := hide (bchain HBW.out hbv8)
  have zhbv8 := hbv8.size
  clear hbv8
  have lB11 := B11.out.lt
  go_wp2_with fail
  clear hv8
  have hcl := eqFields dl _ _ _ (reads_of_owns R10.out) (reads_of_owns R6.out)
  refine hcl.mono ?_; clear hcl; rintro x w9 ⟨rfl, hb9⟩
  replace HA := hide (HA.out.new hb9)
  replace B7 := hide (B7.out.new hb9)
  replace B9 := hide (B9.out.new hb9)
  replace B11 := hide (B11.out.new hb9)
  replace R6 := hide (owns_new R6.out hb9)
  replace R7 := hide (owns_new R7.out hb9)
  replace R9 := hide (owns_new R9.out hb9)
  replace R10 := hide (owns_new R10.out hb9)
  replace R11 := hide (owns_new R11.out hb9)
  replace HBW := hide (bchain HBW.out hb9)
  have zhb9 := hb9.size
  clear hb9
  have x0 := B11.out.cell (j := 0) rfl
  have x1 := B11.out.cell (j := 1) rfl
  have y0 := B7.out.cell (j := 0) rfl
  have y1 := B7.out.cell (j := 1) rfl
  go_wp2_with fail
  clear x0 x1 y0 y1
  have hcl := eqTable1 dL dr _ _ _ (reads_of_owns R11.out) (reads_of_owns R7.out)
  refine hcl.mono ?_; clear hcl; rintro x w10 ⟨rfl, hb10⟩
  replace HA := hide (HA.out.new hb10)
  replace B7 := hide (B7.out.new hb10)
  replace B9 := hide (B9.out.new hb10)
  replace B11 := hide (B11.out.new hb10)
  replace R6 := hide (owns_new R6.out hb10)
  replace R7 := hide (owns_new R7.out hb10)
  replace R9 := hide (owns_new R9.out hb10)
  replace R10 := hide (owns_new R10.out hb10)
  replace R11 := hide (owns_new R11.out hb10)
  replace HBW := hide (bchain HBW.out hb10)
  have zhb10 := hb10.size
  clear hb10
  go_upto_region 12 with fail
  obtain ⟨S, HS0, HMK, HLB⟩ : ∃ S : World → Prop, Hid (S w10) ∧ Hid (∀ u, Below w10.heap.size w10 u → S u) ∧ Hid (∀ u, S u → Below w10.heap.size w10 u) := ⟨fun u => Below w10.heap.size w10 u, hide (Below.refl _ _), hide (fun u h => h), hide (fun u h => h)⟩
  have hS : S (World.drew w10) := HMK.out _ (Below.refl _ _).drew
  go_wp2_with fail
  refine wp_region_held (S := S) (by kernel_rfl) ?_
  change wpAnyH _ _ _ _ _ _ _ _ (World.drew _)
  refine wpAnyH_take (i := 0) (v := (.agg #[.int .i64 room, .slice a5 L.length p5])) rfl (by kernel_rfl) (by kernel_rfl) (by kernel_rfl) (fun _ _ _ h => h) (Or.inl ⟨by kernel_rfl, ?ld⟩) hS ?_; case ld => (intro w hw; have l0 := (RowIs.cell (j := 0) ((B9.out.new (HLB.out _ hw))) rfl); have l1 := (RowIs.cell (j := 1) ((B9.out.new (HLB.out _ hw))) rfl); clear hw; go_simp)
  refine wpAnyH_take (i := 1) (v := (.agg #[.int .i64 room, .slice ad L.length cap])) rfl (by kernel_rfl) (by kernel_rfl) (by kernel_rfl) (fun _ _ _ h => h) (Or.inl ⟨by kernel_rfl, ?ld⟩) hS ?_; case ld => (intro w hw; have l0 := (RowIs.cell (j := 0) ((HA.out.new (HLB.out _ hw))) rfl); have l1 := (RowIs.cell (j := 1) ((HA.out.new (HLB.out _ hw))) rfl); clear hw; go_simp)
  refine wpAnyH_ready (rs := [2]) (by kernel_rfl) (by simp) ?_; refine AllReadyH.cons rfl (fun K hK => ?_) AllReadyH.nil; rw [if_pos (by kernel_rfl)]; go_simp
  refine (toTable1 L room _ _ (HR.out.new (bchain HBW.out (HLB.out _ hS))) hLl).mono ?_; rintro x w11a ⟨u11, rfl, ho11, hb11⟩
  have hSa := HMK.out w11a (bchain (HLB.out _ hS) hb11)
  refine hK.out _ _ hSa (fun hS => ?_)
  clear hK K hSa
  refine wpAnyH_ready (rs := [3]) (by kernel_rfl) (by simp) ?_; refine AllReadyH.cons rfl (fun K hK => ?_) AllReadyH.nil; rw [if_pos (by kernel_rfl)]; go_simp
  refine (eqTable1 L room _ _ _ ((reads_of_owns R9.out).new (HLB.out _ hS)) (reads_of_owns ho11)).mono ?_; rintro x w11 ⟨rfl, hc11⟩
  have hSb := HMK.out w11 (bchain (HLB.out _ hS) hc11)
  refine hK.out _ _ hSb (fun hS => ?_)
  clear hK K hSb
  refine wpAnyH_take (i := 4) (v := ?_) rfl (by kernel_rfl) (by kernel_rfl) (by kernel_rfl) (fun _ _ _ h => h) (Or.inl ⟨by kernel_rfl, ?_⟩) hS ?_; rotate_left; focus (intro w hw; clear hw; go_simp; try with_reducible rfl)
  simp only [Act.put, List.getElem_toArray, List.getElem_cons_succ, List.getElem_cons_zero, List.setIfInBounds_toArray, List.set_cons_zero, List.set_cons_succ]
  refine wpAnyH_done (by kernel_rfl) ?_ _
  have hd11 := HLB.out _ hS
  clear hS HS0 HMK HLB ho11 hb11 hc11
  replace HA := hide (HA.out.new hd11)
  replace B7 := hide (B7.out.new hd11)
  replace B9 := hide (B9.out.new hd11)
  replace B11 := hide (B11.out.new hd11)
  replace R6 := hide (owns_new R6.out hd11)
  replace R7 := hide (owns_new R7.out hd11)
  replace R9 := hide (owns_new R9.out hd11)
  replace R10 := hide (owns_new R10.out hd11)
  replace R11 := hide (owns_new R11.out hd11)
  replace HBW := hide (bchain HBW.out hd11)
  have zhd11 := hd11.size
  clear hd11
  have x0 := B9.out.cell (j := 0) rfl
  have x1 := B9.out.cell (j := 1) rfl
  go_wp2_with fail
  clear x0 x1
  refine (markTable1 L.length 1 room _ _ _ _ R9.out (by omega)).mono ?_; rintro x w12 ⟨rfl, ho12, hg12⟩
  have HO12 := hide ho12
  replace HA := hide (HA.out.kept (hg12.block _ HA.out.lt (fun e => by have := NR9.out _ e.symm; omega)))
  replace B7 := hide (B7.out.kept (hg12.block _ B7.out.lt (fun e => by have := NR9.out _ e.symm; omega)))
  replace B9 := hide (B9.out.kept (hg12.block _ B9.out.lt (fun e => by have := NR9.out _ e.symm; omega)))
  replace B11 := hide (B11.out.kept (hg12.block _ B11.out.lt (fun e => by have := NR9.out _ e.symm; omega)))
  replace R6 := hide (owns_kept R6.out (fun k hk hlt => hg12.block k hlt (fun e => by have h1 := NR9.out k e.symm; have h2 := NR6.out k hk; omega)))
  replace R7 := hide (owns_kept R7.out (fun k hk hlt => hg12.block k hlt (fun e => by have h1 := NR9.out k e.symm; have h2 := NR7.out k hk; omega)))
  replace R10 := hide (owns_kept R10.out (fun k hk hlt => hg12.block k hlt (fun e => by have h1 := NR9.out k e.symm; have h2 := NR10.out k hk; omega)))
  replace R11 := hide (owns_kept R11.out (fun k hk hlt => hg12.block k hlt (fun e => by have h1 := NR9.out k e.symm; have h2 := NR11.out k hk; omega)))
  replace HBW : Hid (Below w.heap.size w w12) := hide (HBW.out.trans ⟨hg12.os, hg12.tape, hg12.output, hg12.size, fun k hk => hg12.block k (Nat.lt_of_lt_of_le hk HBW.out.size) (fun e => by have := NR9.out k e.symm; omega)⟩)
  have zhg12 := hg12.size
  clear hg12
  replace R9 := HO12
  clear HO12 ho12
  obtain ⟨k1, hk1⟩ : ∃ q : Nat, q = 1 + L.length * 2 := ⟨_, rfl⟩
  rw [← hk1]
  have Hk1 := hide hk1
  have bk1 : k1 ≤ 10000000 := by omega
  clear hk1
  clear R9 B9
  go_wp2_with fail
  have hcl := eqFields dl _ _ _ (reads_of_owns R10.out) (reads_of_owns R6.out)
  refine hcl.mono ?_; clear hcl; rintro x w13 ⟨rfl, hb13⟩
  replace HA := hide (HA.out.new hb13)
  replace B7 := hide (B7.out.new hb13)
  replace B11 := hide (B11.out.new hb13)
  replace R6 := hide (owns_new R6.out hb13)
  replace R7 := hide (owns_new R7.out hb13)
  replace R10 := hide (owns_new R10.out hb13)
  replace R11 := hide (owns_new R11.out hb13)
  replace HBW := hide (bchain HBW.out hb13)
  have zhb13 := hb13.size
  clear hb13
  have x0 := B11.out.cell (j := 0) rfl
  have x1 := B11.out.cell (j := 1) rfl
  have y0 := B7.out.cell (j := 0) rfl
  have y1 := B7.out.cell (j := 1) rfl
  go_wp2_with fail
  clear x0 x1 y0 y1
  have hcl := eqTable1 dL dr _ _ _ (reads_of_owns R11.out) (reads_of_owns R7.out)
  refine hcl.mono ?_; clear hcl; rintro x w14 ⟨rfl, hb14⟩
  replace HA := hide (HA.out.new hb14)
  replace B7 := hide (B7.out.new hb14)
  replace B11 := hide (B11.out.new hb14)
  replace R6 := hide (owns_new R6.out hb14)
  replace R7 := hide (owns_new R7.out hb14)
  replace R10 := hide (owns_new R10.out hb14)
  replace R11 := hide (owns_new R11.out hb14)
  replace HBW := hide (bchain HBW.out hb14)
  have zhb14 := hb14.size
  clear hb14
  go_wp2_with fail
  refine (markFields dl.length 1 _ _ _ _ R10.out (by omega)).mono ?_; rintro x w15 ⟨rfl, ho15, hg15⟩
  have HO15 := hide ho15
  replace HA := hide (HA.out.kept (hg15.block _ HA.out.lt (fun e => by have := NR10.out _ e.symm; omega)))
  replace B7 := hide (B7.out.kept (hg15.block _ B7.out.lt (fun e => by have := NR10.out _ e.symm; omega)))
  replace B11 := hide (B11.out.kept (hg15.block _ B11.out.lt (fun e => by have := NR10.out _ e.symm; omega)))
  replace R6 := hide (owns_kept R6.out (fun k hk hlt => hg15.block k hlt (fun e => by have h1 := NR10.out k e.symm; have h2 := NR6.out k hk; omega)))
  replace R7 := hide (owns_kept R7.out (fun k hk hlt => hg15.block k hlt (fun e => by have h1 := NR10.out k e.symm; have h2 := NR7.out k hk; omega)))
  replace R11 := hide (owns_kept R11.out (fun k hk hlt => hg15.block k hlt (fun e => APR10R11.out k e.symm hk)))
  replace HBW : Hid (Below w.heap.size w w15) := hide (HBW.out.trans ⟨hg15.os, hg15.tape, hg15.output, hg15.size, fun k hk => hg15.block k (Nat.lt_of_lt_of_le hk HBW.out.size) (fun e => by have := NR10.out k e.symm; omega)⟩)
  have zhg15 := hg15.size
  clear hg15
  replace R10 := HO15
  clear HO15 ho15
  obtain ⟨m1, hm1⟩ : ∃ q : Nat, q = 1 + dl.length * 2 := ⟨_, rfl⟩
  rw [← hm1]
  have Hm1 := hide hm1
  have bm1 : m1 ≤ 1000 := by omega
  clear hm1
  have x0 := B11.out.cell (j := 0) rfl
  have x1 := B11.out.cell (j := 1) rfl
  go_wp2_with fail
  clear x0 x1
  refine (markTable1 dL.length m1 dr _ _ _ _ R11.out (by omega)).mono ?_; rintro x w16 ⟨rfl, ho16, hg16⟩
  have HO16 := hide ho16
  replace HA := hide (HA.out.kept (hg16.block _ HA.out.lt (fun e => by have := NR11.out _ e.symm; omega)))
  replace B7 := hide (B7.out.kept (hg16.block _ B7.out.lt (fun e => by have := NR11.out _ e.symm; omega)))
  replace B11 := hide (B11.out.kept (hg16.block _ B11.out.lt (fun e => by have := NR11.out _ e.symm; omega)))
  replace R6 := hide (owns_kept R6.out (fun k hk hlt => hg16.block k hlt (fun e => by have h1 := NR11.out k e.symm; have h2 := NR6.out k hk; omega)))
  replace R7 := hide (owns_kept R7.out (fun k hk hlt => hg16.block k hlt (fun e => by have h1 := NR11.out k e.symm; have h2 := NR7.out k hk; omega)))
  replace R10 := hide (owns_kept R10.out (fun k hk hlt => hg16.block k hlt (fun e => APR10R11.out k hk e.symm)))
  replace HBW : Hid (Below w.heap.size w w16) := hide (HBW.out.trans ⟨hg16.os, hg16.tape, hg16.output, hg16.size, fun k hk => hg16.block k (Nat.lt_of_lt_of_le hk HBW.out.size) (fun e => by have := NR11.out k e.symm; omega)⟩)
  have zhg16 := hg16.size
  clear hg16
  replace R11 := HO16
  clear HO16 ho16
  obtain ⟨m2, hm2⟩ : ∃ q : Nat, q = m1 + dL.length * 2 := ⟨_, rfl⟩
  rw [← hm2]
  have Hm2 := hide hm2
  have bm2 : m2 ≤ 10000 := by omega
  clear hm2
  go_wp2_with fail
  have hcl := heldFields dl.length 1 _ _ (reads_of_owns R10.out) (by omega)
  refine hcl.mono ?_; clear hcl; rintro x w17 ⟨rfl, hb17⟩
  replace HA := hide (HA.out.new hb17)
  replace B7 := hide (B7.out.new hb17)
  replace B11 := hide (B11.out.new hb17)
  replace R6 := hide (owns_new R6.out hb17)
  replace R7 := hide (owns_new R7.out hb17)
  replace R10 := hide (owns_new R10.out hb17)
  replace R11 := hide (owns_new R11.out hb17)
  replace HBW := hide (bchain HBW.out hb17)
  have zhb17 := hb17.size
  clear hb17
  rw [← Hm1.out]
  have x0 := B11.out.cell (j := 0) rfl
  have x1 := B11.out.cell (j := 1) rfl
  go_wp2_with fail
  clear x0 x1
  have hcl := heldTable1 dL.length m1 dr _ _ (reads_of_owns R11.out) (by omega)
  refine hcl.mono ?_; clear hcl; rintro x w18 ⟨rfl, hb18⟩
  replace HA := hide (HA.out.new hb18)
  replace B7 := hide (B7.out.new hb18)
  replace B11 := hide (B11.out.new hb18)
  replace R6 := hide (owns_new R6.out hb18)
  replace R7 := hide (owns_new R7.out hb18)
  replace R10 := hide (owns_new R10.out hb18)
  replace R11 := hide (owns_new R11.out hb18)
  replace HBW := hide (bchain HBW.out hb18)
  have zhb18 := hb18.size
  clear hb18
  rw [← Hm2.out]
  have x0 := HA.out.cell (j := 0) rfl
  have x1 := HA.out.cell (j := 1) rfl
  go_wp2_with fail
  clear x0 x1
  refine (toTable1 L room _ _ (HR.out.new HBW.out) hLl).mono ?_; rintro x w19 ⟨u19, rfl, ho19, hb19⟩
  obtain ⟨a19, p19, rfl, _⟩ := owns_form ho19
  replace HA := hide (HA.out.new hb19)
  replace B7 := hide (B7.out.new hb19)
  replace B11 := hide (B11.out.new hb19)
  replace R6 := hide (owns_new R6.out hb19)
  replace R7 := hide (owns_new R7.out hb19)
  replace R10 := hide (owns_new R10.out hb19)
  replace R11 := hide (owns_new R11.out hb19)
  replace HBW := hide (bchain HBW.out hb19)
  have zhb19 := hb19.size
  clear hb19
  have NRA : Hid (∀ k, (Value.slice a19 L.length p19).ownBlock = some k → w18.heap.size ≤ k ∧ k < w19.heap.size) := ho19.lt
  have RA := hide ho19
  clear ho19
  go_wp2_with fail
  have hcl := implDecoded L room _ s _ (reads_of_owns RA.out) HF.out hsm
  rw [HD.out] at hcl
  dsimp only at hcl
  refine hcl.mono ?_; clear hcl; rintro x w20 ⟨t20, u20, rfl, hl20, ho20, hap20, hb20⟩
  obtain ⟨a20, p20, rfl, _⟩ := owns_form ho20
  obtain ⟨c20, q20, rfl, _⟩ := owns_form hl20
  replace HA := hide (HA.out.new hb20)
  replace B7 := hide (B7.out.new hb20)
  replace B11 := hide (B11.out.new hb20)
  replace R6 := hide (owns_new R6.out hb20)
  replace R7 := hide (owns_new R7.out hb20)
  replace R10 := hide (owns_new R10.out hb20)
  replace R11 := hide (owns_new R11.out hb20)
  replace RA := hide (owns_new RA.out hb20)
  replace HBW := hide (bchain HBW.out hb20)
  have zhb20 := hb20.size
  clear hb20
  have NR16 : Hid (∀ k, (Value.slice c20 dl.length q20).ownBlock = some k → w19.heap.size ≤ k ∧ k < w20.heap.size) := hl20.lt
  have R16 := hide hl20
  clear hl20
  have NR17 : Hid (∀ k, (Value.slice a20 dL.length p20).ownBlock = some k → w19.heap.size ≤ k ∧ k < w20.heap.size) := ho20.lt
  have R17 := hide ho20
  clear ho20
  have APR16R17 := hide hap20
  clear hap20
  obtain ⟨v21, hv21⟩ : ∃ V, w20.alloc (.cells #[.int .i64 dr, .slice a20 dL.length p20] 26) = V := ⟨_, rfl⟩
  have hbv21 : Below w20.heap.size w20 v21 := by rw [← hv21]; exact (Below.refl _ _).alloc (Nat.le_refl _) _
  have B17 : Hid (RowIs v21 w20.heap.size 26 [.int .i64 dr, .slice a20 dL.length p20]) := by show RowIs _ _ _ _; rw [← hv21]; exact rowIs_new w20 _ _
  replace HA := hide (HA.out.new hbv21)
  replace B7 := hide (B7.out.new hbv21)
  replace B11 := hide (B11.out.new hbv21)
  replace R6 := hide (owns_new R6.out hbv21)
  replace R7 := hide (owns_new R7.out hbv21)
  replace R10 := hide (owns_new R10.out hbv21)
  replace R11 := hide (owns_new R11.out hbv21)
  replace RA := hide (owns_new RA.out hbv21)
  replace R16 := hide (owns_new R16.out hbv21)
  replace R17 := hide (owns_new R17.out hbv21)
  replace HBW := hide (bchain HBW.out hbv21)
  have zhbv21 := hbv21.size
  clear hbv21
  have lB17 := B17.out.lt
  clear RA
  go_wp2_with fail
  clear hv21
  have hcl := eqFields dl _ _ _ (reads_of_owns R16.out) (reads_of_owns R6.out)
  refine hcl.mono ?_; clear hcl; rintro x w22 ⟨rfl, hb22⟩
  replace HA := hide (HA.out.new hb22)
  replace B7 := hide (B7.out.new hb22)
  replace B11 := hide (B11.out.new hb22)
  replace B17 := hide (B17.out.new hb22)
  replace R6 := hide (owns_new R6.out hb22)
  replace R7 := hide (owns_new R7.out hb22)
  replace R10 := hide (owns_new R10.out hb22)
  replace R11 := hide (owns_new R11.out hb22)
  replace R16 := hide (owns_new R16.out hb22)
  replace R17 := hide (owns_new R17.out hb22)
  replace HBW := hide (bchain HBW.out hb22)
  have zhb22 := hb22.size
  clear hb22
  have x0 := B17.out.cell (j := 0) rfl
  have x1 := B17.out.cell (j := 1) rfl
  have y0 := B7.out.cell (j := 0) rfl
  have y1 := B7.out.cell (j := 1) rfl
  go_wp2_with fail
  clear x0 x1 y0 y1
  have hcl := eqTable1 dL dr _ _ _ (reads_of_owns R17.out) (reads_of_owns R7.out)
  refine hcl.mono ?_; clear hcl; rintro x w23 ⟨rfl, hb23⟩
  replace HA := hide (HA.out.new hb23)
  replace B7 := hide (B7.out.new hb23)
  replace B11 := hide (B11.out.new hb23)
  replace B17 := hide (B17.out.new hb23)
  replace R6 := hide (owns_new R6.out hb23)
  replace R7 := hide (owns_new R7.out hb23)
  replace R10 := hide (owns_new R10.out hb23)
  replace R11 := hide (owns_new R11.out hb23)
  replace R16 := hide (owns_new R16.out hb23)
  replace R17 := hide (owns_new R17.out hb23)
  replace HBW := hide (bchain HBW.out hb23)
  have zhb23 := hb23.size
  clear hb23
  go_wp2_with fail
  have hcl := heldFields dl.length 1 _ _ (reads_of_owns R10.out) (by omega)
  refine hcl.mono ?_; clear hcl; rintro x w24 ⟨rfl, hb24⟩
  replace HA := hide (HA.out.new hb24)
  replace B7 := hide (B7.out.new hb24)
  replace B11 := hide (B11.out.new hb24)
  replace B17 := hide (B17.out.new hb24)
  replace R6 := hide (owns_new R6.out hb24)
  replace R7 := hide (owns_new R7.out hb24)
  replace R10 := hide (owns_new R10.out hb24)
  replace R11 := hide (owns_new R11.out hb24)
  replace R16 := hide (owns_new R16.out hb24)
  replace R17 := hide (owns_new R17.out hb24)
  replace HBW := hide (bchain HBW.out hb24)
  have zhb24 := hb24.size
  clear hb24
  rw [← Hm1.out]
  have x0 := B11.out.cell (j := 0) rfl
  have x1 := B11.out.cell (j := 1) rfl
  go_wp2_with fail
  clear x0 x1
  have hcl := heldTable1 dL.length m1 dr _ _ (reads_of_owns R11.out) (by omega)
  refine hcl.mono ?_; clear hcl; rintro x w25 ⟨rfl, hb25⟩
  replace HA := hide (HA.out.new hb25)
  replace B7 := hide (B7.out.new hb25)
  replace B11 := hide (B11.out.new hb25)
  replace B17 := hide (B17.out.new hb25)
  replace R6 := hide (owns_new R6.out hb25)
  replace R7 := hide (owns_new R7.out hb25)
  replace R10 := hide (owns_new R10.out hb25)
  replace R11 := hide (owns_new R11.out hb25)
  replace R16 := hide (owns_new R16.out hb25)
  replace R17 := hide (owns_new R17.out hb25)
  replace HBW := hide (bchain HBW.out hb25)
  have zhb25 := hb25.size
  clear hb25
  rw [← Hm2.out]
  go_wp2_with fail
  go_ret
  exact ⟨rfl, HBW.out⟩


theorem own : ownKnob Try.prog.godebug = none := by kernel_rfl
theorem laidOut : laidOutB Try.prog = true := by kernel_rfl

set_option maxRecDepth 100000 in
theorem lifted (os : Os) (started : os.Started) (H : Type) (enc : TypeId × Value → H) :
    ReturnsInHanded {} Try.checked os 6 .any (Rows.fnExactDecodedSpec.pre6 enc Try.prog Try.f6 Rows.fnExactDecodedRow.domain false) (Rows.fnExactDecodedSpec.post enc Try.prog Try.f6 false true false false) := by
  refine returnsInHanded_of_change (C := Try.checked) own started (by kernel_rfl) Try.func6
    (ChangeSpec.witness6 (enc := enc) (C := Try.checked) false ⟨#[], #[.agg #[.int .i64 0, .slice none 0 0], .string ⟨#[]⟩], []⟩ 8 (by kernel_rfl) (by kernel_rfl) (by kernel_rfl) (by kernel_rfl)) ?_
  intro W base args ds gs before hval0 hW hcnd _
  have hval : ∀ (j : Nat) t v, Try.f6.params[j]? = some t → args[j]? = some v → Value.okWide Try.prog W .any base t v := hval0
  have hW' := hW
  obtain ⟨p, q, hA0, hV, rfl, hfz, hnd⟩ := hW
  have hA : DataW.TrodAll enc Try.prog W 0 (fun _ => true) true Try.f6.params.toList args.toList ds p := hA0
  rw [Try.params6] at hA hval
  obtain ⟨v0, vs0, d0, ds0, p0, q0, hargs, rfl, rfl, h0, r0⟩ := trodAll_cons hA
  obtain ⟨v1, vs1, d1, ds1, p1, q1, rfl, rfl, rfl, h1, r1⟩ := trodAll_cons r0
  obtain ⟨rfl, rfl, rfl⟩ := trodAll_nil r1
  obtain rfl : args = #[v0, v1] := by cases args; simp_all
  obtain ⟨rfl, rfl⟩ := trodVars_none hV
  have k0 := h0
  have lt0 : ∀ x ∈ p0, x.block < W.heap.size := by obtain ⟨m, hm⟩ := k0; exact DataW.trod_lt m _ _ _ hm
  have k1 := h1
  have lt1 : ∀ x ∈ p1, x.block < W.heap.size := by obtain ⟨m, hm⟩ := k1; exact DataW.trod_lt m _ _ _ hm
  obtain ⟨room, rv, L, rfl, hL, hfL⟩ := open_Table (hval 0 49 v0 rfl rfl) h0
  obtain ⟨s, rfl, rfl, rfl, hs⟩ := open_string Try.underlying9 (hval 1 9 v1 rfl rfl) h1
  clear hA0 hval0
  refine (walk L s room rv W hL hfL hs).mono fun e W' ⟨he, bel⟩ => ?_
  subst he
  exact ⟨_, rfl, _, _, _, [], _, [], hW', trodAll_mk1 (shut_bool Try.underlying4 _), (trodAll_cons_mk (Below.trod laidOut (by kernel_rfl) (of_decide_eq_true (by kernel_rfl)) k0 bel lt0) (trodAll_cons_mk (Below.trod laidOut (by kernel_rfl) (of_decide_eq_true (by kernel_rfl)) k1 bel lt1) trodAll_mk0)), rfl, bel.frame _, fun h => by cases h⟩

theorem over : Rows.fnExactDecodedRow.holds Try.pinned (OpenSpec.ofChange Rows.fnExactDecodedSpec) :=
  OpenClaim.holds_of_wide 6 Try.f6 rfl rfl rfl rfl rfl rfl rfl ⟨rfl, rfl, rfl, rfl, rfl⟩ rfl rfl rfl rfl rfl (by kernel_rfl) Try.func6 (by kernel_rfl)
    (of_decide_eq_true (by kernel_rfl)) (by unfold Func.isWrapper; first | (rw [if_pos (by decide +kernel)]; kernel_rfl) | (rw [if_neg (by decide +kernel)]; exact ⟨rfl, rfl⟩))
    (fun os started H enc _ => lifted os started H enc)

end exactDecoded

theorem exactDecoded_proved : Rows.FnExactDecodedSaid := exactDecoded.over
#print axioms exactDecoded_proved
end Go.Proofs.Ytejmnkabmajebaa
