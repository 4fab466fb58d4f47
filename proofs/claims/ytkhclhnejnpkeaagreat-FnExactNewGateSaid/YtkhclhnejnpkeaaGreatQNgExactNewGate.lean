/- The law FnExactNewGate returns true at every argument and leaves it as it was: impl.NewGate answers as its model, writes into no argument, and its answer owns its memory. No condition. -/
import Derived.Test.YtkhclhnejnpkeaaGreatQNgG21
import Derived.WalkKit
import Derived.ProofKit
import Derived.OpenShut
import Derived.ShutString
import Derived.ChangeOld
import Derived.Below
import Derived.Lib.SmallJoins
namespace Go.Proofs.YtkhclhnejnpkeaaGreat
open Go.RowKit
set_option maxRecDepth 100000
set_option linter.unusedVariables false
set_option linter.unusedSimpArgs false
theorem cnt_tenG (L : List TenantD) : (cntTenantS L : Int) ≤ 3 * L.length + sumLs szTenant L := by
  unfold cntTenantS
  induction L with
  | nil => simp [cntLs, sumLs]
  | cons d L ih =>
    simp only [cntLs, sumLs, List.length_cons]
    have h1 : cntTenant d = 1 + 1 + cntStringS d.list + 1 := rfl
    have h2 := cntStringS_len d.list
    have h3 := szStringS_len d.list
    have h4 : szTenant d = (d.nm.size : Int) + (d.key.size : Int) + szStringS d.list := rfl
    omega
theorem cnt_seatN (L : List StN) : cntSeatNS L = 12 * L.length := by
  unfold cntSeatNS
  induction L with
  | nil => rfl
  | cons d L ih =>
    simp only [cntLs, List.length_cons]
    have h1 : cntSeatN d = 12 := rfl
    omega
theorem cnt_nw (L : List TenantD) (n : Int) : cntTenantS (nwT L n) ≤ cntTenantS L ∧ cntSeatNS (nwS L n) ≤ 48 := by
  unfold nwT nwS
  by_cases h : okTs L = true ∧ inB n 1 4 = true
  · rw [if_pos h, if_pos h]
    have hn := inB_true h.2
    refine ⟨Nat.le_refl _, ?_⟩
    rw [cnt_seatN, List.length_replicate]
    omega
  · rw [if_neg h, if_neg h]
    exact ⟨Nat.zero_le _, Nat.zero_le _⟩
namespace exactNewGate
open Go.ChangeShapes Go.WideShapes Go.ChangeAt Go.RowKit Go.Joins
open Go.ChangeMaps (open_string shut_string)
set_option maxHeartbeats 16000000 in
theorem walk (L : List TenantD) (n : Int) (v : Value) (w : World) (hr : RdR tenantS w v L) : Calls Tryz.prog 4 #[v, .int .i64 n] w fun x w' => x = .returned (.bool true) ∧ Below w.heap.size w w' := by
  obtain ⟨ad, cap, rfl, _, _⟩ := hr.form
  have HR := hide hr
  clear hr
  go_enter Tryz.func4, Tryz.ntmps4
  go_wp2_with fail
  refine (szTenantS1 L _ 1048576 _ HR.out (by omega) (by omega)).mono ?_
  rintro x w1 ⟨rfl | ⟨rfl, hp⟩, hb1⟩
  · go_wp2_with fail
    go_ret
    exact ⟨rfl, hb1⟩
  have hz : szTenantS L ≤ 1048576 := by omega
  have hcn : 1 + cntTenantS L ≤ 100000000 := by have := cnt_tenG L; have h4 : szTenantS L = L.length + sumLs szTenant L := rfl; have := szTenantS_len L; omega
  have hcg := cnt_nw L n
  have hp' : ¬ (1048576 - szTenantS L < 0) := by omega
  have HB := hide hb1
  have zw := hb1.size
  clear hb1
  generalize hX : 1048576 - szTenantS L = X at *
  clear hX
  have hMt := fun v bs w h hn => markTenantS L 1 v bs w h hn (by omega)
  obtain ⟨KT, hKT⟩ : ∃ KT : Nat, 1 + cntTenantS L = KT := ⟨_, rfl⟩
  rw [hKT] at hMt
  obtain ⟨T0, hT0⟩ : ∃ T0, nwT L n = T0 := ⟨_, rfl⟩
  obtain ⟨S0, hS0⟩ : ∃ S0, nwS L n = S0 := ⟨_, rfl⟩
  obtain ⟨f0, hf0⟩ : ∃ f0, nwB L n = f0 := ⟨_, rfl⟩
  rw [hT0, hS0] at hcg
  have HT0 := hide hT0; have HS0 := hide hS0; have HF0 := hide hf0
  have hMk := fun vt vs lo hi w h hh => markAG T0 S0 1 vt vs lo hi w h hh (by omega)
  have hHl := fun vt vs lo hi w h => heldAG T0 S0 1 vt vs lo hi w h (by omega)
  obtain ⟨KA, hKA⟩ : ∃ KA : Nat, 1 + cntTenantS T0 + cntSeatNS S0 = KA := ⟨_, rfl⟩
  rw [hKA] at hMk hHl
  have HMT := hide hMt; have HMK := hide hMk; have HHL := hide hHl
  have hbb0 : ∀ b : Bool, (b != b) = false := fun b => by cases b <;> rfl
  have hka : KA ≤ 1000000000 := by omega
  have hkt : KT ≤ 1000000000 := by omega
  clear hcn hcg hKA hKT hT0 hS0 hf0 hMt hMk hHl
  go_wp2_with fail
  refine (toTenantS L _ _ (HR.out.new HB.out) hz).mono ?_; rintro x w2 ⟨v2, rfl, ho, hb⟩
  obtain ⟨a2, p2, rfl, _⟩ := ho.form
  have z2 := hb.size
  replace HB := hide (bchain HB.out hb)
  have HO2 := hide ho
  clear ho hb
  go_wp2_with fail
  refine (specNewGate L n _ _ HO2.out.rd).mono ?_; rintro x w3 ⟨y, rfl, hg, hb⟩
  obtain ⟨vt, vs, rfl, hag⟩ := newG_ag hg hb.size
  rw [HT0.out, HS0.out] at hag
  rw [HF0.out]
  obtain ⟨⟨ta3, tp3, rfl⟩, ⟨sa3, sp3, rfl⟩⟩ := hag.form
  have z3 := hb.size
  dsimp only [gav]
  replace HB := hide (bchain HB.out hb)
  have AG3 := hide hag
  clear hag hg hb
  have hX : Below w3.heap.size w3 (w3.alloc (.cells #[.int .i64 0, .slice ta3 T0.length tp3, .slice sa3 S0.length sp3, .slice none 0 0, .slice none 0 0, .bool false] 35)) := (Below.refl _ _).alloc (Nat.le_refl _) _
  have zx3 : w3.heap.size + 1 ≤ (w3.alloc (.cells #[.int .i64 0, .slice ta3 T0.length tp3, .slice sa3 S0.length sp3, .slice none 0 0, .slice none 0 0, .bool false] 35)).heap.size := by simp
  have RB3 := hide (rowIs_new w3 35 [.int .i64 0, .slice ta3 T0.length tp3, .slice sa3 S0.length sp3, .slice none 0 0, .slice none 0 0, .bool false])
  replace HB := hide (bchain HB.out hX)
  replace AG3 := hide (AG3.out.new hX)
  clear hX
  go_upto_region 6 with fail
  generalize w3.alloc (.cells #[.int .i64 0, .slice ta3 T0.length tp3, .slice sa3 S0.length sp3, .slice none 0 0, .slice none 0 0, .bool false] 35) = X3 at *
  clear HO2
  go_wp2_with fail
  refine (toTenantS L _ _ (HR.out.new HB.out) hz).mono ?_; rintro x w4 ⟨v4, rfl, ho, hb⟩
  obtain ⟨a4, p4, rfl, _⟩ := ho.form
  have z4 := hb.size
  replace HB := hide (bchain HB.out hb)
  replace AG3 := hide (AG3.out.new hb)
  replace RB3 := hide (RB3.out.new hb)
  have HO4 := hide ho
  clear ho hb
  go_wp2_with fail
  refine (implNewGate L n _ _ HO4.out.rd).mono ?_; rintro x w5 ⟨y, rfl, hg, hb⟩
  obtain ⟨vt, vs, rfl, hag⟩ := newG_ag hg hb.size
  rw [HT0.out, HS0.out] at hag
  rw [HF0.out]
  obtain ⟨⟨ta5, tp5, rfl⟩, ⟨sa5, sp5, rfl⟩⟩ := hag.form
  have z5 := hb.size
  dsimp only [gav]
  replace HB := hide (bchain HB.out hb)
  replace AG3 := hide (AG3.out.new hb)
  replace RB3 := hide (RB3.out.new hb)
  replace HO4 := hide (HO4.out.new hb)
  have AG5 := hide hag
  clear hag hg hb
  have hX : Below w5.heap.size w5 (w5.alloc (.cells #[.int .i64 0, .slice ta5 T0.length tp5, .slice sa5 S0.length sp5, .slice none 0 0, .slice none 0 0, .bool false] 35)) := (Below.refl _ _).alloc (Nat.le_refl _) _
  have zx5 : w5.heap.size + 1 ≤ (w5.alloc (.cells #[.int .i64 0, .slice ta5 T0.length tp5, .slice sa5 S0.length sp5, .slice none 0 0, .slice none 0 0, .bool false] 35)).heap.size := by simp
  have RB5 := hide (rowIs_new w5 35 [.int .i64 0, .slice ta5 T0.length tp5, .slice sa5 S0.length sp5, .slice none 0 0, .slice none 0 0, .bool false])
  replace HB := hide (bchain HB.out hX)
  replace AG3 := hide (AG3.out.new hX)
  replace RB3 := hide (RB3.out.new hX)
  replace HO4 := hide (HO4.out.new hX)
  replace AG5 := hide (AG5.out.new hX)
  clear hX
  go_upto_region 8 with fail
  generalize w5.alloc (.cells #[.int .i64 0, .slice ta5 T0.length tp5, .slice sa5 S0.length sp5, .slice none 0 0, .slice none 0 0, .bool false] 35) = X5 at *
  have r0 := RowIs.cell (j := 0) RB5.out rfl
  have r1 := RowIs.cell (j := 1) RB5.out rfl
  have r2 := RowIs.cell (j := 2) RB5.out rfl
  have r3 := RowIs.cell (j := 3) RB5.out rfl
  have r4 := RowIs.cell (j := 4) RB5.out rfl
  have r5 := RowIs.cell (j := 5) RB5.out rfl
  have s0 := RowIs.cell (j := 0) RB3.out rfl
  have s1 := RowIs.cell (j := 1) RB3.out rfl
  have s2 := RowIs.cell (j := 2) RB3.out rfl
  have s3 := RowIs.cell (j := 3) RB3.out rfl
  have s4 := RowIs.cell (j := 4) RB3.out rfl
  have s5 := RowIs.cell (j := 5) RB3.out rfl
  go_wp2_with fail
  refine (show Calls _ _ #[gav _ _, gav _ _] _ _ from eqAG AG5.out AG3.out).mono ?_; rintro x w6 ⟨rfl, hb⟩
  have z6 := hb.size
  clear r0 r1 r2 r3 r4 r5
  clear s0 s1 s2 s3 s4 s5
  replace HB := hide (bchain HB.out hb)
  replace AG3 := hide (AG3.out.new hb)
  replace RB3 := hide (RB3.out.new hb)
  replace HO4 := hide (HO4.out.new hb)
  replace AG5 := hide (AG5.out.new hb)
  replace RB5 := hide (RB5.out.new hb)
  clear hb
  have hff := hbb0 f0
  go_wp2_with fail
  refine (toTenantS L _ _ (HR.out.new HB.out) hz).mono ?_; rintro x w7 ⟨v7, rfl, ho, hb⟩
  obtain ⟨a7, p7, rfl, _⟩ := ho.form
  have z7 := hb.size
  replace HB := hide (bchain HB.out hb)
  replace AG3 := hide (AG3.out.new hb)
  replace RB3 := hide (RB3.out.new hb)
  replace HO4 := hide (HO4.out.new hb)
  replace AG5 := hide (AG5.out.new hb)
  replace RB5 := hide (RB5.out.new hb)
  have HO7 := hide ho
  clear ho hb
  go_wp2_with fail
  refine (eqTenantS L _ _ _ HO4.out.rd HO7.out.rd).mono ?_; rintro x w8 ⟨rfl, hb⟩
  have z8 := hb.size
  replace HB := hide (bchain HB.out hb)
  replace AG3 := hide (AG3.out.new hb)
  replace RB3 := hide (RB3.out.new hb)
  replace HO4 := hide (HO4.out.new hb)
  replace AG5 := hide (AG5.out.new hb)
  replace RB5 := hide (RB5.out.new hb)
  clear hb HO7
  go_wp2_with fail
  obtain ⟨bs, hob, hnb, hbb⟩ := HO4.out
  refine (HMT.out _ bs _ hob hnb).mono ?_
  rintro x w9 ⟨rfl, hm, htb⟩
  have ht9 := htb.turn hbb
  have z9 := ht9.size
  have l3 := RB3.out.lt; have l5 := RB5.out.lt
  have hbt := ht9.below (B := w.heap.size) (by omega) (by omega)
  replace HB := hide (HB.out.trans hbt)
  replace AG3 := hide (AG3.out.turn ht9 (by omega))
  replace RB3 := hide (RB3.out.kept (ht9.block _ (by omega) (by omega)))
  replace AG5 := hide (AG5.out.turn ht9 (by omega))
  replace RB5 := hide (RB5.out.kept (ht9.block _ (by omega) (by omega)))
  clear hbt
  clear hm htb ht9 hob hnb hbb HO4 l3 l5
  have hkp : ¬ ((KT : Int) < 0) := by omega
  go_upto_region 14 with fail
  have r0 := RowIs.cell (j := 0) RB5.out rfl
  have r1 := RowIs.cell (j := 1) RB5.out rfl
  have r2 := RowIs.cell (j := 2) RB5.out rfl
  have r3 := RowIs.cell (j := 3) RB5.out rfl
  have r4 := RowIs.cell (j := 4) RB5.out rfl
  have r5 := RowIs.cell (j := 5) RB5.out rfl
  have s0 := RowIs.cell (j := 0) RB3.out rfl
  have s1 := RowIs.cell (j := 1) RB3.out rfl
  have s2 := RowIs.cell (j := 2) RB3.out rfl
  have s3 := RowIs.cell (j := 3) RB3.out rfl
  have s4 := RowIs.cell (j := 4) RB3.out rfl
  have s5 := RowIs.cell (j := 5) RB3.out rfl
  go_wp2_with fail
  refine (show Calls _ _ #[gav _ _, gav _ _] _ _ from eqAG AG5.out AG3.out).mono ?_; rintro x w10 ⟨rfl, hb⟩
  have z10 := hb.size
  clear r0 r1 r2 r3 r4 r5
  clear s0 s1 s2 s3 s4 s5
  replace HB := hide (bchain HB.out hb)
  replace AG3 := hide (AG3.out.new hb)
  replace RB3 := hide (RB3.out.new hb)
  replace AG5 := hide (AG5.out.new hb)
  replace RB5 := hide (RB5.out.new hb)
  clear hb
  go_upto_region 17 with fail
  have r0 := RowIs.cell (j := 0) RB5.out rfl
  have r1 := RowIs.cell (j := 1) RB5.out rfl
  have r2 := RowIs.cell (j := 2) RB5.out rfl
  have r3 := RowIs.cell (j := 3) RB5.out rfl
  have r4 := RowIs.cell (j := 4) RB5.out rfl
  have r5 := RowIs.cell (j := 5) RB5.out rfl
  go_wp2_with fail
  clear r0 r1 r2 r3 r4 r5
  refine (show Calls _ _ #[gav _ _, _] _ _ from HMK.out _ _ _ _ _ AG5.out (by omega)).mono ?_
  rintro x w11 ⟨rfl, hag, ht11⟩
  have z11 := ht11.size
  have l3 := RB3.out.lt; have l5 := RB5.out.lt
  have hbt := ht11.below (B := w.heap.size) (by omega) (by omega)
  replace HB := hide (HB.out.trans hbt)
  replace AG3 := hide (AG3.out.turn ht11 (by omega))
  replace RB3 := hide (RB3.out.kept (ht11.block _ (by omega) (by omega)))
  replace RB5 := hide (RB5.out.kept (ht11.block _ (by omega) (by omega)))
  clear hbt
  have AGM := hide hag
  clear hag ht11 AG5 l3 l5
  go_upto_region 19 with fail
  have r0 := RowIs.cell (j := 0) RB5.out rfl
  have r1 := RowIs.cell (j := 1) RB5.out rfl
  have r2 := RowIs.cell (j := 2) RB5.out rfl
  have r3 := RowIs.cell (j := 3) RB5.out rfl
  have r4 := RowIs.cell (j := 4) RB5.out rfl
  have r5 := RowIs.cell (j := 5) RB5.out rfl
  go_wp2_with fail
  clear r0 r1 r2 r3 r4 r5
  refine (show Calls _ _ #[gav _ _, _] _ _ from HHL.out _ _ _ _ _ AGM.out).mono ?_; rintro x w12 ⟨rfl, hb⟩
  have z12 := hb.size
  replace HB := hide (bchain HB.out hb)
  replace AG3 := hide (AG3.out.new hb)
  replace RB3 := hide (RB3.out.new hb)
  replace RB5 := hide (RB5.out.new hb)
  replace AGM := hide (AGM.out.new hb)
  clear hb
  have hkq : ¬ ((KA : Int) < 0) := by omega
  have hkk : ((KA : Int) != (KA : Int)) = false := by simp
  go_wp2_with fail
  refine (toTenantS L _ _ (HR.out.new HB.out) hz).mono ?_; rintro x w13 ⟨v13, rfl, ho, hb⟩
  obtain ⟨a13, p13, rfl, _⟩ := ho.form
  have z13 := hb.size
  replace HB := hide (bchain HB.out hb)
  replace AG3 := hide (AG3.out.new hb)
  replace RB3 := hide (RB3.out.new hb)
  replace RB5 := hide (RB5.out.new hb)
  replace AGM := hide (AGM.out.new hb)
  have HO13 := hide ho
  clear ho hb
  go_wp2_with fail
  refine (implNewGate L n _ _ HO13.out.rd).mono ?_; rintro x w14 ⟨y, rfl, hg, hb⟩
  obtain ⟨vt, vs, rfl, hag⟩ := newG_ag hg hb.size
  rw [HT0.out, HS0.out] at hag
  rw [HF0.out]
  obtain ⟨⟨ta14, tp14, rfl⟩, ⟨sa14, sp14, rfl⟩⟩ := hag.form
  have z14 := hb.size
  dsimp only [gav]
  replace HB := hide (bchain HB.out hb)
  replace AG3 := hide (AG3.out.new hb)
  replace RB3 := hide (RB3.out.new hb)
  replace RB5 := hide (RB5.out.new hb)
  replace AGM := hide (AGM.out.new hb)
  replace HO13 := hide (HO13.out.new hb)
  have AG14 := hide hag
  clear hag hg hb
  have hX : Below w14.heap.size w14 (w14.alloc (.cells #[.int .i64 0, .slice ta14 T0.length tp14, .slice sa14 S0.length sp14, .slice none 0 0, .slice none 0 0, .bool false] 35)) := (Below.refl _ _).alloc (Nat.le_refl _) _
  have zx14 : w14.heap.size + 1 ≤ (w14.alloc (.cells #[.int .i64 0, .slice ta14 T0.length tp14, .slice sa14 S0.length sp14, .slice none 0 0, .slice none 0 0, .bool false] 35)).heap.size := by simp
  have RB14 := hide (rowIs_new w14 35 [.int .i64 0, .slice ta14 T0.length tp14, .slice sa14 S0.length sp14, .slice none 0 0, .slice none 0 0, .bool false])
  replace HB := hide (bchain HB.out hX)
  replace AG3 := hide (AG3.out.new hX)
  replace RB3 := hide (RB3.out.new hX)
  replace RB5 := hide (RB5.out.new hX)
  replace AGM := hide (AGM.out.new hX)
  replace HO13 := hide (HO13.out.new hX)
  replace AG14 := hide (AG14.out.new hX)
  clear hX
  go_upto_region 25 with fail
  generalize w14.alloc (.cells #[.int .i64 0, .slice ta14 T0.length tp14, .slice sa14 S0.length sp14, .slice none 0 0, .slice none 0 0, .bool false] 35) = X14 at *
  clear HO13
  have r0 := RowIs.cell (j := 0) RB14.out rfl
  have r1 := RowIs.cell (j := 1) RB14.out rfl
  have r2 := RowIs.cell (j := 2) RB14.out rfl
  have r3 := RowIs.cell (j := 3) RB14.out rfl
  have r4 := RowIs.cell (j := 4) RB14.out rfl
  have r5 := RowIs.cell (j := 5) RB14.out rfl
  have s0 := RowIs.cell (j := 0) RB3.out rfl
  have s1 := RowIs.cell (j := 1) RB3.out rfl
  have s2 := RowIs.cell (j := 2) RB3.out rfl
  have s3 := RowIs.cell (j := 3) RB3.out rfl
  have s4 := RowIs.cell (j := 4) RB3.out rfl
  have s5 := RowIs.cell (j := 5) RB3.out rfl
  go_wp2_with fail
  refine (show Calls _ _ #[gav _ _, gav _ _] _ _ from eqAG AG14.out AG3.out).mono ?_; rintro x w15 ⟨rfl, hb⟩
  have z15 := hb.size
  clear r0 r1 r2 r3 r4 r5
  clear s0 s1 s2 s3 s4 s5
  replace HB := hide (bchain HB.out hb)
  replace AG3 := hide (AG3.out.new hb)
  replace RB3 := hide (RB3.out.new hb)
  replace RB5 := hide (RB5.out.new hb)
  replace AGM := hide (AGM.out.new hb)
  replace AG14 := hide (AG14.out.new hb)
  replace RB14 := hide (RB14.out.new hb)
  clear hb
  go_upto_region 28 with fail
  have r0 := RowIs.cell (j := 0) RB5.out rfl
  have r1 := RowIs.cell (j := 1) RB5.out rfl
  have r2 := RowIs.cell (j := 2) RB5.out rfl
  have r3 := RowIs.cell (j := 3) RB5.out rfl
  have r4 := RowIs.cell (j := 4) RB5.out rfl
  have r5 := RowIs.cell (j := 5) RB5.out rfl
  go_wp2_with fail
  clear r0 r1 r2 r3 r4 r5
  refine (show Calls _ _ #[gav _ _, _] _ _ from HHL.out _ _ _ _ _ AGM.out).mono ?_; rintro x w16 ⟨rfl, hb⟩
  have z16 := hb.size
  replace HB := hide (bchain HB.out hb)
  replace AG3 := hide (AG3.out.new hb)
  replace RB3 := hide (RB3.out.new hb)
  replace RB5 := hide (RB5.out.new hb)
  replace AGM := hide (AGM.out.new hb)
  replace AG14 := hide (AG14.out.new hb)
  replace RB14 := hide (RB14.out.new hb)
  clear hb
  go_wp2_with fail
  go_ret
  exact ⟨rfl, HB.out⟩


theorem own : ownKnob Tryz.prog.godebug = none := by kernel_rfl
theorem laidOut : laidOutB Tryz.prog = true := by kernel_rfl

set_option maxRecDepth 100000 in
theorem lifted (os : Os) (started : os.Started) (H : Type) (enc : TypeId × Value → H) :
    ReturnsInHanded {} Tryz.checked os 4 .any (Rows.fnExactNewGateSpec.pre6 enc Tryz.prog Tryz.f4 Rows.fnExactNewGateRow.domain false) (Rows.fnExactNewGateSpec.post enc Tryz.prog Tryz.f4 false true false false) := by
  refine returnsInHanded_of_change (C := Tryz.checked) own started (by kernel_rfl) Tryz.func4
    (ChangeSpec.witness6 (enc := enc) (C := Tryz.checked) false ⟨#[], #[.slice none 0 0, .int .i64 0], []⟩ 8 (by kernel_rfl) (by kernel_rfl) (by kernel_rfl) (by kernel_rfl)) ?_
  intro W base args ds gs before hval0 hW hcnd _
  have hval : ∀ (j : Nat) t v, Tryz.f4.params[j]? = some t → args[j]? = some v → Value.okWide Tryz.prog W .any base t v := hval0
  have hW' := hW
  obtain ⟨p, q, hA0, hV, rfl, hfz, hnd⟩ := hW
  have hA : DataW.TrodAll enc Tryz.prog W 0 (fun _ => true) true Tryz.f4.params.toList args.toList ds p := hA0
  rw [Tryz.params4] at hA hval
  obtain ⟨v0, vs0, d0, ds0, p0, q0, hargs, rfl, rfl, h0, r0⟩ := trodAll_cons hA
  obtain ⟨v1, vs1, d1, ds1, p1, q1, rfl, rfl, rfl, h1, r1⟩ := trodAll_cons r0
  obtain ⟨rfl, rfl, rfl⟩ := trodAll_nil r1
  obtain rfl : args = #[v0, v1] := by cases args; simp_all
  obtain ⟨rfl, rfl⟩ := trodVars_none hV
  have k0 := h0
  have lt0 : ∀ x ∈ p0, x.block < W.heap.size := by obtain ⟨m, hm⟩ := k0; exact DataW.trod_lt m _ _ _ hm
  have k1 := h1
  have lt1 : ∀ x ∈ p1, x.block < W.heap.size := by obtain ⟨m, hm⟩ := k1; exact DataW.trod_lt m _ _ _ hm
  obtain ⟨sa0, sl0, sc0, rfl⟩ := okWide_slice Tryz.underlying22 (hval 0 22 v0 rfl rfl); obtain ⟨n0, hn0⟩ := h0; obtain ⟨L, hpL⟩ := open_shape (E := tenantS) ⟨⟨#[]⟩, ⟨#[]⟩, [], 0⟩ Tryz.underlying22 (by kernel_rfl) (fun cs n y hy => open_cellsTenant hy) (v := .slice sa0 sl0 sc0) (by simpa [Value.cells] using hn0); clear hn0
  obtain ⟨n, rfl, rfl, rfl, wn⟩ := open_int Tryz.underlying2 (hval 1 2 v1 rfl rfl) h1
  clear hA0 hval0
  refine (walk L n _ W hpL).mono fun e W' ⟨he, bel⟩ => ?_
  subst he
  exact ⟨_, rfl, _, _, _, [], _, [], hW', trodAll_mk1 (shut_bool Tryz.underlying4 _), (trodAll_cons_mk (Below.trod laidOut (by kernel_rfl) (of_decide_eq_true (by kernel_rfl)) k0 bel lt0) (trodAll_cons_mk (Below.trod laidOut (by kernel_rfl) (of_decide_eq_true (by kernel_rfl)) k1 bel lt1) trodAll_mk0)), rfl, bel.frame _, fun h => by cases h⟩

theorem over : Rows.fnExactNewGateRow.holds Tryz.pinned (OpenSpec.ofChange Rows.fnExactNewGateSpec) :=
  OpenClaim.holds_of_wide 4 Tryz.f4 rfl rfl rfl rfl rfl rfl rfl ⟨rfl, rfl, rfl, rfl, rfl⟩ rfl rfl rfl rfl rfl (by kernel_rfl) Tryz.func4 (by kernel_rfl)
    (of_decide_eq_true (by kernel_rfl)) (by unfold Func.isWrapper; first | (rw [if_pos (by decide +kernel)]; kernel_rfl) | (rw [if_neg (by decide +kernel)]; exact ⟨rfl, rfl⟩))
    (fun os started H enc _ => lifted os started H enc)

end exactNewGate

theorem exactNewGate_proved : Rows.FnExactNewGateSaid := exactNewGate.over
#print axioms exactNewGate_proved
end Go.Proofs.YtkhclhnejnpkeaaGreat
