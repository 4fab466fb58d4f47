/- The law FnExactEncoded returns true at every argument and leaves it as it was: impl.Encoded answers as its model, and its answer owns its memory. No condition. -/
import Derived.Test.YtejmnkabmajebaaQBlocks6
import Derived.Test.YtejmnkabmajebaaQSB
import Derived.Deep.DeepCutAuto
import Derived.Deep.RegionHeld3
import Derived.WalkKit
import Derived.ProofKit
import Derived.OpenShut
import Derived.ShutString
import Derived.ChangeOld
import Derived.Below
import Derived.Lib.SmallJoins
namespace Go.Proofs.Ytejmnkabmajebaa
open Go.RowKit
set_option maxRecDepth 100000
namespace exactEncoded
open Go.ChangeShapes Go.WideShapes Go.ChangeAt Go.RowKit Go.Joins
open Go.ChangeMaps (open_string shut_string)
set_option linter.unusedVariables false
set_option linter.unusedSimpArgs false

theorem encodedD_len (room : Int) (L l : List Fd) : (encodedD room L l).2.1.2.length ≤ 111 := by
  unfold encodedD
  split
  · rename_i h
    split
    · rename_i hl
      have hl' : (∀ f ∈ l, okF f = true) ∧ l.length ≤ 20 := by simpa [okFs] using hl
      exact (okT_parts (encL_ok l h hl'.1)).2.2.2.2
    · exact (okT_parts h).2.2.2.2
  · simp

set_option maxRecDepth 100000 in
set_option maxHeartbeats 8000000 in
theorem walk (L l : List Fd) (room : Int) (v lv : Value) (w : World) (hr : Reads w v L.length 2 (fv L)) (hf : ∀ f ∈ L, f.fine) (hrl : Reads w lv l.length 2 (fv l)) (hfl : ∀ f ∈ l, f.fine) :
    Calls Try.prog 5 #[.agg #[.int .i64 room, v], lv] w fun x w' => x = .returned (.bool true) ∧ Below w.heap.size w w' := by
  have HR := hide hr; have HF := hide hf; have HRL := hide hrl; have HFL := hide hfl
  obtain ⟨ad, cap, rfl, _⟩ := hr.2
  obtain ⟨la, lc, rfl, _⟩ := hrl.2
  clear hr hf hrl hfl
  obtain ⟨⟨ds, ⟨dr, dL⟩, db⟩, hD⟩ : ∃ D, encodedD room L l = D := ⟨_, rfl⟩
  have hdl : dL.length ≤ 111 := by have := encodedD_len room L l; rw [hD] at this; exact this
  have HD := hide hD
  clear hD
  go_enter Try.func5, Try.ntmps5
  go_wp2_with fail
  obtain ⟨v0, hv0⟩ : ∃ V, w.alloc (.cells #[.int .i64 room, .slice ad L.length cap] 49) = V := ⟨_, rfl⟩
  have HBW : Hid (Below w.heap.size w v0) := by show Below _ _ _; rw [← hv0]; exact (Below.refl _ _).alloc (Nat.le_refl _) _
  have HA : Hid (RowIs v0 w.heap.size 49 [.int .i64 room, .slice ad L.length cap]) := by show RowIs _ _ _ _; rw [← hv0]; exact rowIs_new w _ _
  have lHA := HA.out.lt
  rw [hv0]
  clear hv0
  refine (szTable1 L room _ _ _ (HR.out.new HBW.out) HF.out (by omega) (by omega)).mono ?_
  by_cases hneg : (1048576 : Int) - L.length - szL L < 0
  · rw [if_pos hneg]; rintro x w1 ⟨rfl, hb1⟩
    go_wp2_with fail
    go_ret
    exact ⟨rfl, bchain HBW.out hb1⟩
  rw [if_neg hneg]; rintro x y1 ⟨rfl, hb1⟩
  have hLl : L.length ≤ 1048576 := by have := szL_pos L; omega
  have hlu : (1048576 : Int) - L.length - szL L ≤ 1048576 := by have := szL_pos L; omega
  generalize (1048576 : Int) - L.length - szL L = left at *
  replace HA := hide (HA.out.new hb1)
  replace HBW := hide (bchain HBW.out hb1)
  have zhb1 := hb1.size
  clear hb1
  go_wp2_with fail
  refine (szFields l _ _ _ (HRL.out.new HBW.out) HFL.out (by omega) (by omega)).mono ?_
  by_cases hneg2 : left - l.length - szL l < 0
  · rw [if_pos hneg2]; rintro x w2 ⟨rfl, hb2⟩
    go_wp2_with fail
    go_ret
    exact ⟨rfl, bchain HBW.out hb2⟩
  rw [if_neg hneg2]; rintro x y2 ⟨rfl, hb2⟩
  have hll : l.length ≤ 1048576 := by have := szL_pos l; omega
  generalize left - l.length - szL l = left2 at *
  replace HA := hide (HA.out.new hb2)
  replace HBW := hide (bchain HBW.out hb2)
  have zhb2 := hb2.size
  clear hb2
  have x0 := HA.out.cell (j := 0) rfl
  have x1 := HA.out.cell (j := 1) rfl
  go_wp2_with fail
  clear x0 x1
  refine (toTable1 L room _ _ (HR.out.new HBW.out) hLl).mono ?_; rintro x w3 ⟨u3, rfl, ho3, hb3⟩
  obtain ⟨a3, p3, rfl, _⟩ := owns_form ho3
  replace HA := hide (HA.out.new hb3)
  replace HBW := hide (bchain HBW.out hb3)
  have zhb3 := hb3.size
  clear hb3
  have NRA : Hid (∀ k, (Value.slice a3 L.length p3).ownBlock = some k → y2.heap.size ≤ k ∧ k < w3.heap.size) := ho3.lt
  have RA := hide ho3
  clear ho3
  go_wp2_with fail
  refine (toFields l _ _ (HRL.out.new HBW.out) hll).mono ?_; rintro x w4 ⟨u4, rfl, ho4, hb4⟩
  obtain ⟨a4, p4, rfl, _⟩ := owns_form ho4
  replace HA := hide (HA.out.new hb4)
  replace RA := hide (owns_new RA.out hb4)
  replace HBW := hide (bchain HBW.out hb4)
  have zhb4 := hb4.size
  clear hb4
  have NRB : Hid (∀ k, (Value.slice a4 l.length p4).ownBlock = some k → w3.heap.size ≤ k ∧ k < w4.heap.size) := ho4.lt
  have RB := hide ho4
  clear ho4
  go_wp2_with fail
  have hcl := specEncoded L l room _ _ _ (reads_of_owns RA.out) HF.out (reads_of_owns RB.out) HFL.out
  rw [HD.out] at hcl
  dsimp only at hcl
  refine hcl.mono ?_; clear hcl; rintro x w5 ⟨u5, rfl, ho5, hb5⟩
  obtain ⟨a5, p5, rfl, _⟩ := owns_form ho5
  replace HA := hide (HA.out.new hb5)
  replace RA := hide (owns_new RA.out hb5)
  replace RB := hide (owns_new RB.out hb5)
  replace HBW := hide (bchain HBW.out hb5)
  have zhb5 := hb5.size
  clear hb5
  have NR7 : Hid (∀ k, (Value.slice a5 dL.length p5).ownBlock = some k → w4.heap.size ≤ k ∧ k < w5.heap.size) := ho5.lt
  have R7 := hide ho5
  clear ho5
  obtain ⟨v6, hv6⟩ : ∃ V, w5.alloc (.cells #[.int .i64 dr, .slice a5 dL.length p5] 26) = V := ⟨_, rfl⟩
  have hbv6 : Below w5.heap.size w5 v6 := by rw [← hv6]; exact (Below.refl _ _).alloc (Nat.le_refl _) _
  have B7 : Hid (RowIs v6 w5.heap.size 26 [.int .i64 dr, .slice a5 dL.length p5]) := by show RowIs _ _ _ _; rw [← hv6]; exact rowIs_new w5 _ _
  replace HA := hide (HA.out.new hbv6)
  replace RA := hide (owns_new RA.out hbv6)
  replace RB := hide (owns_new RB.out hbv6)
  replace R7 := hide (owns_new R7.out hbv6)
  replace HBW := hide (bchain HBW.out hbv6)
  have zhbv6 := hbv6.size
  clear hbv6
  have lB7 := B7.out.lt
  clear RA RB
  have x0 := HA.out.cell (j := 0) rfl
  have x1 := HA.out.cell (j := 1) rfl
  go_wp2_with fail
  clear hv6
  clear x0 x1
  refine (toTable1 L room _ _ (HR.out.new HBW.out) hLl).mono ?_; rintro x w7 ⟨u7, rfl, ho7, hb7⟩
  obtain ⟨a7, p7, rfl, _⟩ := owns_form ho7
  replace HA := hide (HA.out.new hb7)
  replace B7 := hide (B7.out.new hb7)
  replace R7 := hide (owns_new R7.out hb7)
  replace HBW := hide (bchain HBW.out hb7)
  have zhb7 := hb7.size
  clear hb7
  have NR9 : Hid (∀ k, (Value.slice a7 L.length p7).ownBlock = some k → v6.heap.size ≤ k ∧ k < w7.heap.size) := ho7.lt
  have R9 := hide ho7
  clear ho7
  obtain ⟨v8, hv8⟩ : ∃ V, w7.alloc (.cells #[.int .i64 room, .slice a7 L.length p7] 26) = V := ⟨_, rfl⟩
  have hbv8 : Below w7.heap.size w7 v8 := by rw [← hv8]; exact (Below.refl _ _).alloc (Nat.le_refl _) _
  have B9 : Hid (RowIs v8 w7.heap.size 26 [.int .i64 room, .slice a7 L.length p7]) := by show RowIs _ _ _ _; rw [← hv8]; exact rowIs_new w7 _ _
  replace HA := hide (HA.out.new hbv8)
  replace B7 := hide (B7.out.new hbv8)
  replace R7 := hide (owns_new R7.out hbv8)
  replace R9 := hide (owns_new R9.out hbv8)
  replace HBW := hide (bchain HBW.out hbv8)
  have zhbv8 := hbv8.size
  clear hbv8
  have lB9 := B9.out.lt
  go_wp2_with fail
  clear hv8
  refine (toFields l _ _ (HRL.out.new HBW.out) hll).mono ?_; rintro x w9 ⟨u9, rfl, ho9, hb9⟩
  obtain ⟨a9, p9, rfl, _⟩ := owns_form ho9
  replace HA := hide (HA.out.new hb9)
  replace B7 := hide (B7.out.new hb9)
  replace B9 := hide (B9.out.new hb9)
  replace R7 := hide (owns_new R7.out hb9)
  replace R9 := hide (owns_new R9.out hb9)
  replace HBW := hide (bchain HBW.out hb9)
  have zhb9 := hb9.size
  clear hb9
  have NR10 : Hid (∀ k, (Value.slice a9 l.length p9).ownBlock = some k → v8.heap.size ≤ k ∧ k < w9.heap.size) := ho9.lt
  have R10 := hide ho9
  clear ho9
  have x0 := B9.out.cell (j := 0) rfl
  have x1 := B9.out.cell (j := 1) rfl
  go_wp2_with fail
  clear x0 x1
  have hcl := implEncoded L l room _ _ _ (reads_of_owns R9.out) HF.out (reads_of_owns R10.out) HFL.out
  rw [HD.out] at hcl
  dsimp only at hcl
  refine hcl.mono ?_; clear hcl; rintro x w10 ⟨u10, rfl, ho10, hb10⟩
  obtain ⟨a10, p10, rfl, _⟩ := owns_form ho10
  replace HA := hide (HA.out.new hb10)
  replace B7 := hide (B7.out.new hb10)
  replace B9 := hide (B9.out.new hb10)
  replace R7 := hide (owns_new R7.out hb10)
  replace R9 := hide (owns_new R9.out hb10)
  replace R10 := hide (owns_new R10.out hb10)
  replace HBW := hide (bchain HBW.out hb10)
  have zhb10 := hb10.size
  clear hb10
  have NR12 : Hid (∀ k, (Value.slice a10 dL.length p10).ownBlock = some k → w9.heap.size ≤ k ∧ k < w10.heap.size) := ho10.lt
  have R12 := hide ho10
  clear ho10
  obtain ⟨v11, hv11⟩ : ∃ V, w10.alloc (.cells #[.int .i64 dr, .slice a10 dL.length p10] 26) = V := ⟨_, rfl⟩
  have hbv11 : Below w10.heap.size w10 v11 := by rw [← hv11]; exact (Below.refl _ _).alloc (Nat.le_refl _) _
  have B12 : Hid (RowIs v11 w10.heap.size 26 [.int .i64 dr, .slice a10 dL.length p10]) := by show RowIs _ _ _ _; rw [← hv11]; exact rowIs_new w10 _ _
  replace HA := hide (HA.out.new hbv11)
  replace B7 := hide (B7.out.new hbv11)
  replace B9 := hide (B9.out.new hbv11)
  replace R7 := hide (owns_new R7.out hbv11)
  replace R9 := hide (owns_new R9.out hbv11)
  replace R10 := hide (owns_new R10.out hbv11)
  replace R12 := hide (owns_new R12.out hbv11)
  replace HBW := hide (bchain HBW.out hbv11)
  have zhbv11 := hbv11.size
  clear hbv11
  have lB12 := B12.out.lt
  have x0 := B12.out.cell (j := 0) rfl
  have x1 := B12.out.cell (j := 1) rfl
  have y0 := B7.out.cell (j := 0) rfl
  have y1 := B7.out.cell (j := 1) rfl
  go_wp2_with fail
  clear hv11
  clear x0 x1 y0 y1
  have hcl := eqTable1 dL dr _ _ _ (reads_of_owns R12.out) (reads_of_owns R7.out)
  refine hcl.mono ?_; clear hcl; rintro x w12 ⟨rfl, hb12⟩
  replace HA := hide (HA.out.new hb12)
  replace B7 := hide (B7.out.new hb12)
  replace B9 := hide (B9.out.new hb12)
  replace B12 := hide (B12.out.new hb12)
  replace R7 := hide (owns_new R7.out hb12)
  replace R9 := hide (owns_new R9.out hb12)
  replace R10 := hide (owns_new R10.out hb12)
  replace R12 := hide (owns_new R12.out hb12)
  replace HBW := hide (bchain HBW.out hb12)
  have zhb12 := hb12.size
  clear hb12
  go_upto_region 14 with fail
  obtain ⟨S, HS0, HMK, HLB⟩ : ∃ S : World → Prop, Hid (S w12) ∧ Hid (∀ u, Below w12.heap.size w12 u → S u) ∧ Hid (∀ u, S u → Below w12.heap.size w12 u) := ⟨fun u => Below w12.heap.size w12 u, hide (Below.refl _ _), hide (fun u h => h), hide (fun u h => h)⟩
  have hS : S (World.drew w12) := HMK.out _ (Below.refl _ _).drew
  go_wp2_with fail
  refine wp_region_held (S := S) (by kernel_rfl) ?_
  change wpAnyH _ _ _ _ _ _ _ _ (World.drew _)
  refine wpAnyH_take (i := 0) (v := (.agg #[.int .i64 room, .slice a7 L.length p7])) rfl (by kernel_rfl) (by kernel_rfl) (by kernel_rfl) (fun _ _ _ h => h) (Or.inl ⟨by kernel_rfl, ?ld⟩) hS ?_; case ld => (intro w hw; have l0 := (RowIs.cell (j := 0) ((B9.out.new (HLB.out _ hw))) rfl); have l1 := (RowIs.cell (j := 1) ((B9.out.new (HLB.out _ hw))) rfl); clear hw; go_simp)
  refine wpAnyH_take (i := 1) (v := (.agg #[.int .i64 room, .slice ad L.length cap])) rfl (by kernel_rfl) (by kernel_rfl) (by kernel_rfl) (fun _ _ _ h => h) (Or.inl ⟨by kernel_rfl, ?ld⟩) hS ?_; case ld => (intro w hw; have l0 := (RowIs.cell (j := 0) ((HA.out.new (HLB.out _ hw))) rfl); have l1 := (RowIs.cell (j := 1) ((HA.out.new (HLB.out _ hw))) rfl); clear hw; go_simp)
  refine wpAnyH_ready (rs := [2]) (by kernel_rfl) (by simp) ?_; refine AllReadyH.cons rfl (fun K hK => ?_) AllReadyH.nil; rw [if_pos (by kernel_rfl)]; go_simp
  refine (toTable1 L room _ _ (HR.out.new (bchain HBW.out (HLB.out _ hS))) hLl).mono ?_; rintro x w13a ⟨u13, rfl, ho13, hb13⟩
  have hSa := HMK.out w13a (bchain (HLB.out _ hS) hb13)
  refine hK.out _ _ hSa (fun hS => ?_)
  clear hK K hSa
  refine wpAnyH_ready (rs := [3]) (by kernel_rfl) (by simp) ?_; refine AllReadyH.cons rfl (fun K hK => ?_) AllReadyH.nil; rw [if_pos (by kernel_rfl)]; go_simp
  refine (eqTable1 L room _ _ _ ((reads_of_owns R9.out).new (HLB.out _ hS)) (reads_of_owns ho13)).mono ?_; rintro x w13 ⟨rfl, hc13⟩
  have hSb := HMK.out w13 (bchain (HLB.out _ hS) hc13)
  refine hK.out _ _ hSb (fun hS => ?_)
  clear hK K hSb
  refine wpAnyH_take (i := 4) (v := ?_) rfl (by kernel_rfl) (by kernel_rfl) (by kernel_rfl) (fun _ _ _ h => h) (Or.inl ⟨by kernel_rfl, ?_⟩) hS ?_; rotate_left; focus (intro w hw; clear hw; go_simp; try with_reducible rfl)
  simp only [Act.put, List.getElem_toArray, List.getElem_cons_succ, List.getElem_cons_zero, List.setIfInBounds_toArray, List.set_cons_zero, List.set_cons_succ]
  refine wpAnyH_done (by kernel_rfl) ?_ _
  have hd13 := HLB.out _ hS
  clear hS HS0 HMK HLB ho13 hb13 hc13
  replace HA := hide (HA.out.new hd13)
  replace B7 := hide (B7.out.new hd13)
  replace B9 := hide (B9.out.new hd13)
  replace B12 := hide (B12.out.new hd13)
  replace R7 := hide (owns_new R7.out hd13)
  replace R9 := hide (owns_new R9.out hd13)
  replace R10 := hide (owns_new R10.out hd13)
  replace R12 := hide (owns_new R12.out hd13)
  replace HBW := hide (bchain HBW.out hd13)
  have zhd13 := hd13.size
  clear hd13
  go_wp2_with fail
  refine (toFields l _ _ (HRL.out.new HBW.out) hll).mono ?_; rintro x w14 ⟨u14, rfl, ho14, hb14⟩
  obtain ⟨a14, p14, rfl, _⟩ := owns_form ho14
  replace HA := hide (HA.out.new hb14)
  replace B7 := hide (B7.out.new hb14)
  replace B9 := hide (B9.out.new hb14)
  replace B12 := hide (B12.out.new hb14)
  replace R7 := hide (owns_new R7.out hb14)
  replace R9 := hide (owns_new R9.out hb14)
  replace R10 := hide (owns_new R10.out hb14)
  replace R12 := hide (owns_new R12.out hb14)
  replace HBW := hide (bchain HBW.out hb14)
  have zhb14 := hb14.size
  clear hb14
  have NRC : Hid (∀ k, (Value.slice a14 l.length p14).ownBlock = some k → w13.heap.size ≤ k ∧ k < w14.heap.size) := ho14.lt
  have RC := hide ho14
  clear ho14
  go_wp2_with fail
  have hcl := eqFields l _ _ _ (reads_of_owns R10.out) (reads_of_owns RC.out)
  refine hcl.mono ?_; clear hcl; rintro x w15 ⟨rfl, hb15⟩
  replace HA := hide (HA.out.new hb15)
  replace B7 := hide (B7.out.new hb15)
  replace B9 := hide (B9.out.new hb15)
  replace B12 := hide (B12.out.new hb15)
  replace R7 := hide (owns_new R7.out hb15)
  replace R9 := hide (owns_new R9.out hb15)
  replace R10 := hide (owns_new R10.out hb15)
  replace R12 := hide (owns_new R12.out hb15)
  replace RC := hide (owns_new RC.out hb15)
  replace HBW := hide (bchain HBW.out hb15)
  have zhb15 := hb15.size
  clear hb15
  clear RC
  have x0 := B9.out.cell (j := 0) rfl
  have x1 := B9.out.cell (j := 1) rfl
  go_wp2_with fail
  clear x0 x1
  refine (markTable1 L.length 1 room _ _ _ _ R9.out (by omega)).mono ?_; rintro x w16 ⟨rfl, ho16, hg16⟩
  have HO16 := hide ho16
  replace HA := hide (HA.out.kept (hg16.block _ HA.out.lt (fun e => by have := NR9.out _ e.symm; omega)))
  replace B7 := hide (B7.out.kept (hg16.block _ B7.out.lt (fun e => by have := NR9.out _ e.symm; omega)))
  replace B9 := hide (B9.out.kept (hg16.block _ B9.out.lt (fun e => by have := NR9.out _ e.symm; omega)))
  replace B12 := hide (B12.out.kept (hg16.block _ B12.out.lt (fun e => by have := NR9.out _ e.symm; omega)))
  replace R7 := hide (owns_kept R7.out (fun k hk hlt => hg16.block k hlt (fun e => by have h1 := NR9.out k e.symm; have h2 := NR7.out k hk; omega)))
  replace R10 := hide (owns_kept R10.out (fun k hk hlt => hg16.block k hlt (fun e => by have h1 := NR9.out k e.symm; have h2 := NR10.out k hk; omega)))
  replace R12 := hide (owns_kept R12.out (fun k hk hlt => hg16.block k hlt (fun e => by have h1 := NR9.out k e.symm; have h2 := NR12.out k hk; omega)))
  replace HBW : Hid (Below w.heap.size w w16) := hide (HBW.out.trans ⟨hg16.os, hg16.tape, hg16.output, hg16.size, fun k hk => hg16.block k (Nat.lt_of_lt_of_le hk HBW.out.size) (fun e => by have := NR9.out k e.symm; omega)⟩)
  have zhg16 := hg16.size
  clear hg16
  replace R9 := HO16
  clear HO16 ho16
  obtain ⟨k1, hk1⟩ : ∃ q : Nat, q = 1 + L.length * 2 := ⟨_, rfl⟩
  rw [← hk1]
  have Hk1 := hide hk1
  have bk1 : k1 ≤ 10000000 := by omega
  clear hk1
  go_wp2_with fail
  refine (markFields l.length k1 _ _ _ _ R10.out (by omega)).mono ?_; rintro x w17 ⟨rfl, ho17, hg17⟩
  have HO17 := hide ho17
  replace HA := hide (HA.out.kept (hg17.block _ HA.out.lt (fun e => by have := NR10.out _ e.symm; omega)))
  replace B7 := hide (B7.out.kept (hg17.block _ B7.out.lt (fun e => by have := NR10.out _ e.symm; omega)))
  replace B9 := hide (B9.out.kept (hg17.block _ B9.out.lt (fun e => by have := NR10.out _ e.symm; omega)))
  replace B12 := hide (B12.out.kept (hg17.block _ B12.out.lt (fun e => by have := NR10.out _ e.symm; omega)))
  replace R7 := hide (owns_kept R7.out (fun k hk hlt => hg17.block k hlt (fun e => by have h1 := NR10.out k e.symm; have h2 := NR7.out k hk; omega)))
  replace R9 := hide (owns_kept R9.out (fun k hk hlt => hg17.block k hlt (fun e => by have h1 := NR10.out k e.symm; have h2 := NR9.out k hk; omega)))
  replace R12 := hide (owns_kept R12.out (fun k hk hlt => hg17.block k hlt (fun e => by have h1 := NR10.out k e.symm; have h2 := NR12.out k hk; omega)))
  replace HBW : Hid (Below w.heap.size w w17) := hide (HBW.out.trans ⟨hg17.os, hg17.tape, hg17.output, hg17.size, fun k hk => hg17.block k (Nat.lt_of_lt_of_le hk HBW.out.size) (fun e => by have := NR10.out k e.symm; omega)⟩)
  have zhg17 := hg17.size
  clear hg17
  replace R10 := HO17
  clear HO17 ho17
  obtain ⟨k2, hk2⟩ : ∃ q : Nat, q = k1 + l.length * 2 := ⟨_, rfl⟩
  rw [← hk2]
  have Hk2 := hide hk2
  have bk2 : k2 ≤ 100000000 := by omega
  clear hk2
  clear R9 R10 B9
  have x0 := B12.out.cell (j := 0) rfl
  have x1 := B12.out.cell (j := 1) rfl
  have y0 := B7.out.cell (j := 0) rfl
  have y1 := B7.out.cell (j := 1) rfl
  go_wp2_with fail
  clear x0 x1 y0 y1
  have hcl := eqTable1 dL dr _ _ _ (reads_of_owns R12.out) (reads_of_owns R7.out)
  refine hcl.mono ?_; clear hcl; rintro x w18 ⟨rfl, hb18⟩
  replace HA := hide (HA.out.new hb18)
  replace B7 := hide (B7.out.new hb18)
  replace B12 := hide (B12.out.new hb18)
  replace R7 := hide (owns_new R7.out hb18)
  replace R12 := hide (owns_new R12.out hb18)
  replace HBW := hide (bchain HBW.out hb18)
  have zhb18 := hb18.size
  clear hb18
  have x0 := B12.out.cell (j := 0) rfl
  have x1 := B12.out.cell (j := 1) rfl
  go_wp2_with fail
  clear x0 x1
  refine (markTable1 dL.length 1 dr _ _ _ _ R12.out (by omega)).mono ?_; rintro x w19 ⟨rfl, ho19, hg19⟩
  have HO19 := hide ho19
  replace HA := hide (HA.out.kept (hg19.block _ HA.out.lt (fun e => by have := NR12.out _ e.symm; omega)))
  replace B7 := hide (B7.out.kept (hg19.block _ B7.out.lt (fun e => by have := NR12.out _ e.symm; omega)))
  replace B12 := hide (B12.out.kept (hg19.block _ B12.out.lt (fun e => by have := NR12.out _ e.symm; omega)))
  replace R7 := hide (owns_kept R7.out (fun k hk hlt => hg19.block k hlt (fun e => by have h1 := NR12.out k e.symm; have h2 := NR7.out k hk; omega)))
  replace HBW : Hid (Below w.heap.size w w19) := hide (HBW.out.trans ⟨hg19.os, hg19.tape, hg19.output, hg19.size, fun k hk => hg19.block k (Nat.lt_of_lt_of_le hk HBW.out.size) (fun e => by have := NR12.out k e.symm; omega)⟩)
  have zhg19 := hg19.size
  clear hg19
  replace R12 := HO19
  clear HO19 ho19
  obtain ⟨m1, hm1⟩ : ∃ q : Nat, q = 1 + dL.length * 2 := ⟨_, rfl⟩
  rw [← hm1]
  have Hm1 := hide hm1
  have bm1 : m1 ≤ 10000000 := by omega
  clear hm1
  have x0 := B12.out.cell (j := 0) rfl
  have x1 := B12.out.cell (j := 1) rfl
  go_wp2_with fail
  clear x0 x1
  have hcl := heldTable1 dL.length 1 dr _ _ (reads_of_owns R12.out) (by omega)
  refine hcl.mono ?_; clear hcl; rintro x w20 ⟨rfl, hb20⟩
  replace HA := hide (HA.out.new hb20)
  replace B7 := hide (B7.out.new hb20)
  replace B12 := hide (B12.out.new hb20)
  replace R7 := hide (owns_new R7.out hb20)
  replace R12 := hide (owns_new R12.out hb20)
  replace HBW := hide (bchain HBW.out hb20)
  have zhb20 := hb20.size
  clear hb20
  rw [← Hm1.out]
  have x0 := HA.out.cell (j := 0) rfl
  have x1 := HA.out.cell (j := 1) rfl
  go_wp2_with fail
  clear x0 x1
  refine (toTable1 L room _ _ (HR.out.new HBW.out) hLl).mono ?_; rintro x w21 ⟨u21, rfl, ho21, hb21⟩
  obtain ⟨a21, p21, rfl, _⟩ := owns_form ho21
  replace HA := hide (HA.out.new hb21)
  replace B7 := hide (B7.out.new hb21)
  replace B12 := hide (B12.out.new hb21)
  replace R7 := hide (owns_new R7.out hb21)
  replace R12 := hide (owns_new R12.out hb21)
  replace HBW := hide (bchain HBW.out hb21)
  have zhb21 := hb21.size
  clear hb21
  have NRA : Hid (∀ k, (Value.slice a21 L.length p21).ownBlock = some k → w20.heap.size ≤ k ∧ k < w21.heap.size) := ho21.lt
  have RA := hide ho21
  clear ho21
  go_wp2_with fail
  refine (toFields l _ _ (HRL.out.new HBW.out) hll).mono ?_; rintro x w22 ⟨u22, rfl, ho22, hb22⟩
  obtain ⟨a22, p22, rfl, _⟩ := owns_form ho22
  replace HA := hide (HA.out.new hb22)
  replace B7 := hide (B7.out.new hb22)
  replace B12 := hide (B12.out.new hb22)
  replace R7 := hide (owns_new R7.out hb22)
  replace R12 := hide (owns_new R12.out hb22)
  replace RA := hide (owns_new RA.out hb22)
  replace HBW := hide (bchain HBW.out hb22)
  have zhb22 := hb22.size
  clear hb22
  have NRB : Hid (∀ k, (Value.slice a22 l.length p22).ownBlock = some k → w21.heap.size ≤ k ∧ k < w22.heap.size) := ho22.lt
  have RB := hide ho22
  clear ho22
  go_wp2_with fail
  have hcl := implEncoded L l room _ _ _ (reads_of_owns RA.out) HF.out (reads_of_owns RB.out) HFL.out
  rw [HD.out] at hcl
  dsimp only at hcl
  refine hcl.mono ?_; clear hcl; rintro x w23 ⟨u23, rfl, ho23, hb23⟩
  obtain ⟨a23, p23, rfl, _⟩ := owns_form ho23
  replace HA := hide (HA.out.new hb23)
  replace B7 := hide (B7.out.new hb23)
  replace B12 := hide (B12.out.new hb23)
  replace R7 := hide (owns_new R7.out hb23)
  replace R12 := hide (owns_new R12.out hb23)
  replace RA := hide (owns_new RA.out hb23)
  replace RB := hide (owns_new RB.out hb23)
  replace HBW := hide (bchain HBW.out hb23)
  have zhb23 := hb23.size
  clear hb23
  have NR18 : Hid (∀ k, (Value.slice a23 dL.length p23).ownBlock = some k → w22.heap.size ≤ k ∧ k < w23.heap.size) := ho23.lt
  have R18 := hide ho23
  clear ho23
  obtain ⟨v24, hv24⟩ : ∃ V, w23.alloc (.cells #[.int .i64 dr, .slice a23 dL.length p23] 26) = V := ⟨_, rfl⟩
  have hbv24 : Below w23.heap.size w23 v24 := by rw [← hv24]; exact (Below.refl _ _).alloc (Nat.le_refl _) _
  have B18 : Hid (RowIs v24 w23.heap.size 26 [.int .i64 dr, .slice a23 dL.length p23]) := by show RowIs _ _ _ _; rw [← hv24]; exact rowIs_new w23 _ _
  replace HA := hide (HA.out.new hbv24)
  replace B7 := hide (B7.out.new hbv24)
  replace B12 := hide (B12.out.new hbv24)
  replace R7 := hide (owns_new R7.out hbv24)
  replace R12 := hide (owns_new R12.out hbv24)
  replace RA := hide (owns_new RA.out hbv24)
  replace RB := hide (owns_new RB.out hbv24)
  replace R18 := hide (owns_new R18.out hbv24)
  replace HBW := hide (bchain HBW.out hbv24)
  have zhbv24 := hbv24.size
  clear hbv24
  have lB18 := B18.out.lt
  clear RA RB
  have x0 := B18.out.cell (j := 0) rfl
  have x1 := B18.out.cell (j := 1) rfl
  have y0 := B7.out.cell (j := 0) rfl
  have y1 := B7.out.cell (j := 1) rfl
  go_wp2_with fail
  clear hv24
  clear x0 x1 y0 y1
  have hcl := eqTable1 dL dr _ _ _ (reads_of_owns R18.out) (reads_of_owns R7.out)
  refine hcl.mono ?_; clear hcl; rintro x w25 ⟨rfl, hb25⟩
  replace HA := hide (HA.out.new hb25)
  replace B7 := hide (B7.out.new hb25)
  replace B12 := hide (B12.out.new hb25)
  replace B18 := hide (B18.out.new hb25)
  replace R7 := hide (owns_new R7.out hb25)
  replace R12 := hide (owns_new R12.out hb25)
  replace R18 := hide (owns_new R18.out hb25)
  replace HBW := hide (bchain HBW.out hb25)
  have zhb25 := hb25.size
  clear hb25
  have x0 := B12.out.cell (j := 0) rfl
  have x1 := B12.out.cell (j := 1) rfl
  go_wp2_with fail
  clear x0 x1
  have hcl := heldTable1 dL.length 1 dr _ _ (reads_of_owns R12.out) (by omega)
  refine hcl.mono ?_; clear hcl; rintro x w26 ⟨rfl, hb26⟩
  replace HA := hide (HA.out.new hb26)
  replace B7 := hide (B7.out.new hb26)
  replace B12 := hide (B12.out.new hb26)
  replace B18 := hide (B18.out.new hb26)
  replace R7 := hide (owns_new R7.out hb26)
  replace R12 := hide (owns_new R12.out hb26)
  replace R18 := hide (owns_new R18.out hb26)
  replace HBW := hide (bchain HBW.out hb26)
  have zhb26 := hb26.size
  clear hb26
  rw [← Hm1.out]
  go_wp2_with fail
  go_ret
  exact ⟨rfl, HBW.out⟩


theorem own : ownKnob Try.prog.godebug = none := by kernel_rfl
theorem laidOut : laidOutB Try.prog = true := by kernel_rfl

set_option maxRecDepth 100000 in
theorem lifted (os : Os) (started : os.Started) (H : Type) (enc : TypeId × Value → H) :
    ReturnsInHanded {} Try.checked os 5 .any (Rows.fnExactEncodedSpec.pre6 enc Try.prog Try.f5 Rows.fnExactEncodedRow.domain false) (Rows.fnExactEncodedSpec.post enc Try.prog Try.f5 false true false false) := by
  refine returnsInHanded_of_change (C := Try.checked) own started (by kernel_rfl) Try.func5
    (ChangeSpec.witness6 (enc := enc) (C := Try.checked) false ⟨#[], #[.agg #[.int .i64 0, .slice none 0 0], .slice none 0 0], []⟩ 8 (by kernel_rfl) (by kernel_rfl) (by kernel_rfl) (by kernel_rfl)) ?_
  intro W base args ds gs before hval0 hW hcnd _
  have hval : ∀ (j : Nat) t v, Try.f5.params[j]? = some t → args[j]? = some v → Value.okWide Try.prog W .any base t v := hval0
  have hW' := hW
  obtain ⟨p, q, hA0, hV, rfl, hfz, hnd⟩ := hW
  have hA : DataW.TrodAll enc Try.prog W 0 (fun _ => true) true Try.f5.params.toList args.toList ds p := hA0
  rw [Try.params5] at hA hval
  obtain ⟨v0, vs0, d0, ds0, p0, q0, hargs, rfl, rfl, h0, r0⟩ := trodAll_cons hA
  obtain ⟨v1, vs1, d1, ds1, p1, q1, rfl, rfl, rfl, h1, r1⟩ := trodAll_cons r0
  obtain ⟨rfl, rfl, rfl⟩ := trodAll_nil r1
  obtain rfl : args = #[v0, v1] := by cases args; simp_all
  obtain ⟨rfl, rfl⟩ := trodVars_none hV
  have k0 := h0
  have lt0 : ∀ x ∈ p0, x.block < W.heap.size := by obtain ⟨m, hm⟩ := k0; exact DataW.trod_lt m _ _ _ hm
  have k1 := h1
  have lt1 : ∀ x ∈ p1, x.block < W.heap.size := by obtain ⟨m, hm⟩ := k1; exact DataW.trod_lt m _ _ _ hm
  obtain ⟨room, rv, L, rfl, hL, hfL⟩ := open_Table (hval 0 49 v0 rfl rfl) h0
  obtain ⟨l, hl1, hfl1⟩ := open_FieldS (hval 1 47 v1 rfl rfl) h1
  clear hA0 hval0
  refine (walk L l room rv v1 W hL hfL hl1 hfl1).mono fun e W' ⟨he, bel⟩ => ?_
  subst he
  exact ⟨_, rfl, _, _, _, [], _, [], hW', trodAll_mk1 (shut_bool Try.underlying4 _), (trodAll_cons_mk (Below.trod laidOut (by kernel_rfl) (of_decide_eq_true (by kernel_rfl)) k0 bel lt0) (trodAll_cons_mk (Below.trod laidOut (by kernel_rfl) (of_decide_eq_true (by kernel_rfl)) k1 bel lt1) trodAll_mk0)), rfl, bel.frame _, fun h => by cases h⟩

theorem over : Rows.fnExactEncodedRow.holds Try.pinned (OpenSpec.ofChange Rows.fnExactEncodedSpec) :=
  OpenClaim.holds_of_wide 5 Try.f5 rfl rfl rfl rfl rfl rfl rfl ⟨rfl, rfl, rfl, rfl, rfl⟩ rfl rfl rfl rfl rfl (by kernel_rfl) Try.func5 (by kernel_rfl)
    (of_decide_eq_true (by kernel_rfl)) (by unfold Func.isWrapper; first | (rw [if_pos (by decide +kernel)]; kernel_rfl) | (rw [if_neg (by decide +kernel)]; exact ⟨rfl, rfl⟩))
    (fun os started H enc _ => lifted os started H enc)

end exactEncoded

theorem exactEncoded_proved : Rows.FnExactEncodedSaid := exactEncoded.over
#print axioms exactEncoded_proved
end Go.Proofs.Ytejmnkabmajebaa
