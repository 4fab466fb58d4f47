/- The law FnExactWentTo returns true at every argument and leaves it as it was: impl.WentTo answers as its model. No condition. -/
import Derived.Test.YtkhclhnejnpkeaaGreatQWtG23
import Derived.Test.YtkhclhnejnpkeaaGreatQWtGateWent
import Derived.WalkKit
import Derived.ProofKit
import Derived.OpenShut
import Derived.ShutString
import Derived.ChangeOld
import Derived.Below
import Derived.Lib.SmallJoins
import Derived.Deep.Cut
import Derived.Deep.DeepCutAuto
import Derived.Deep.RegionHeld3
namespace Go.Proofs.YtkhclhnejnpkeaaGreat
open Go.RowKit
set_option maxRecDepth 100000
namespace exactWentTo
open Go.ChangeShapes Go.WideShapes Go.ChangeAt Go.RowKit Go.Joins
open Go.ChangeMaps (open_string shut_string)
set_option linter.unusedVariables false
set_option linter.unusedSimpArgs false

set_option maxHeartbeats 8000000 in
theorem walk (d : GtD) (s i : Int) (vt vs vd vf : Value) (w : World) (hv : GtRd w d vt vs vd vf) :
    Calls Tryz.prog 5 #[gtv d vt vs vd vf, .int .i64 s, .int .i64 i] w fun x w' => x = .returned (.bool true) ∧ Below w.heap.size w w' := by
  dsimp only [gtv] at *
  have HV := hide hv
  clear hv
  obtain ⟨a_t, p_t, rfl, _⟩ := HV.out.te.form
  obtain ⟨a_s, p_s, rfl, _⟩ := HV.out.se.form
  obtain ⟨a_d, p_d, rfl, _⟩ := HV.out.di.form
  obtain ⟨a_f, p_f, rfl, _⟩ := HV.out.fl.form
  obtain ⟨⟨zA, zB⟩, hz⟩ : ∃ z, wentV d s i = z := ⟨_, rfl⟩
  have HZ := hide hz
  clear hz
  have hzA : (zA.toList != zA.toList) = false := by simp
  have hzB : (zB != zB) = false := by simp
  obtain ⟨W, hW⟩ : ∃ W, w.alloc (.cells #[.int .i64 d.now, .slice a_t d.tens.length p_t, .slice a_s d.seats.length p_s, .slice a_d d.dials.length p_d, .slice a_f d.flights.length p_f, .bool d.drained] 27) = W := ⟨_, rfl⟩
  have RX : RowIs W w.heap.size 27 [.int .i64 d.now, .slice a_t d.tens.length p_t, .slice a_s d.seats.length p_s, .slice a_d d.dials.length p_d, .slice a_f d.flights.length p_f, .bool d.drained] := by rw [← hW]; exact rowIs_new w 27 [.int .i64 d.now, .slice a_t d.tens.length p_t, .slice a_s d.seats.length p_s, .slice a_d d.dials.length p_d, .slice a_f d.flights.length p_f, .bool d.drained]
  have HB : Below w.heap.size w W := by rw [← hW]; exact (Below.refl _ _).alloc (Nat.le_refl _) _
  have hsn := szGate_nn d
  have hszl := szFlightS_len d.flights
  have hsd : szGate d = szTenantS d.tens + szSeatS d.seats + szDialS d.dials + szFlightS d.flights := rfl
  have HSN := hide (And.intro hsn (And.intro hszl hsd))
  obtain ⟨left, hleft⟩ : ∃ left, (1048576 : Int) - szGate d = left := ⟨_, rfl⟩
  have hcall := fun w h => szGate1 d (.slice a_t d.tens.length p_t) (.slice a_s d.seats.length p_s) (.slice a_d d.dials.length p_d) (.slice a_f d.flights.length p_f) 1048576 w h (by omega) (by omega)
  rw [hleft] at hcall
  clear hsn hszl hsd
  have x0 := RowIs.cell (j := 0) RX rfl
  have x1 := RowIs.cell (j := 1) RX rfl
  have x2 := RowIs.cell (j := 2) RX rfl
  have x3 := RowIs.cell (j := 3) RX rfl
  have x4 := RowIs.cell (j := 4) RX rfl
  have x5 := RowIs.cell (j := 5) RX rfl
  go_enter Tryz.func5, Tryz.ntmps5
  go_wp2_with fail
  clear hW
  clear x0 x1 x2 x3 x4 x5
  refine (show Calls _ _ #[gtv d _ _ _ _, _] _ _ from hcall _ (HV.out.new HB)).mono ?_; clear hcall
  rintro x w1 ⟨rfl | ⟨rfl, hp⟩, hb⟩
  · go_wp2_with fail
    go_ret
    exact ⟨rfl, bchain HB hb⟩
  have hs : szGate d ≤ 1048576 := by omega
  have HS := hide hs
  have hl0 : ¬ left < 0 := by omega
  have hzt : Hid (szTenantS d.tens ≤ 1048576) := by show _ ≤ _; have := HSN.out.1; have := HSN.out.2.2; omega
  have hzf : Hid (d.flights.length ≤ 1048576) := by show _ ≤ _; have := HSN.out.1; have := HSN.out.2.1; have := HSN.out.2.2; omega
  clear hleft hs HSN
  replace RX := RX.new hb
  replace HB := bchain HB hb
  clear hb
  have x0 := RowIs.cell (j := 0) RX rfl
  have x1 := RowIs.cell (j := 1) RX rfl
  have x2 := RowIs.cell (j := 2) RX rfl
  have x3 := RowIs.cell (j := 3) RX rfl
  have x4 := RowIs.cell (j := 4) RX rfl
  have x5 := RowIs.cell (j := 5) RX rfl
  go_wp2_with fail
  clear x0 x1 x2 x3 x4 x5
  refine (show Calls _ _ #[gtv d _ _ _ _] _ _ from toGate1 d _ _ _ _ _ (HV.out.new HB) HS.out).mono ?_
  rintro x w2 ⟨ut, us, ud, uf, rfl, ho, hb⟩
  have O1 := hide ho
  clear ho
  replace RX := RX.new hb
  replace HB := bchain HB hb
  clear hb
  obtain ⟨e_t, f_t, rfl, _⟩ := O1.out.te.form
  obtain ⟨e_s, f_s, rfl, _⟩ := O1.out.se.form
  obtain ⟨e_d, f_d, rfl, _⟩ := O1.out.di.form
  obtain ⟨e_f, f_f, rfl, _⟩ := O1.out.fl.form
  dsimp only [gtv]
  go_wp2_with fail
  have hc := specWentTo d s i _ _ _ _ w2 O1.out hzt.out hzf.out
  rw [HZ.out] at hc
  refine (show Calls _ _ #[gtv d _ _ _ _, _, _] _ _ from hc).mono ?_; clear hc
  rintro x w3 ⟨rfl, hb⟩
  clear O1
  replace RX := RX.new hb
  replace HB := bchain HB hb
  clear hb
  have x0 := RowIs.cell (j := 0) RX rfl
  have x1 := RowIs.cell (j := 1) RX rfl
  have x2 := RowIs.cell (j := 2) RX rfl
  have x3 := RowIs.cell (j := 3) RX rfl
  have x4 := RowIs.cell (j := 4) RX rfl
  have x5 := RowIs.cell (j := 5) RX rfl
  go_wp2_with fail
  clear x0 x1 x2 x3 x4 x5
  refine (show Calls _ _ #[gtv d _ _ _ _] _ _ from toGate1 d _ _ _ _ _ (HV.out.new HB) HS.out).mono ?_
  rintro x w4 ⟨ut, us, ud, uf, rfl, ho, hb⟩
  have O2 := hide ho
  clear ho
  replace RX := RX.new hb
  replace HB := bchain HB hb
  clear hb
  obtain ⟨b_t, q_t, rfl, _⟩ := O2.out.te.form
  obtain ⟨b_s, q_s, rfl, _⟩ := O2.out.se.form
  obtain ⟨b_d, q_d, rfl, _⟩ := O2.out.di.form
  obtain ⟨b_f, q_f, rfl, _⟩ := O2.out.fl.form
  dsimp only [gtv]
  go_upto_region 7 with fail
  have hbV : Below w4.heap.size w4 (w4.alloc (.cells #[.int .i64 d.now, .slice b_t d.tens.length q_t, .slice b_s d.seats.length q_s, .slice b_d d.dials.length q_d, .slice b_f d.flights.length q_f, .bool d.drained] 35)) := (Below.refl _ _).alloc (Nat.le_refl _) _
  have RI := rowIs_new w4 35 [.int .i64 d.now, .slice b_t d.tens.length q_t, .slice b_s d.seats.length q_s, .slice b_d d.dials.length q_d, .slice b_f d.flights.length q_f, .bool d.drained]
  replace O2 := hide (O2.out.new hbV)
  replace RX := RX.new hbV
  replace HB := bchain HB hbV
  clear hbV
  generalize w4.heap.size = gI at *
  generalize w4.alloc (.cells #[.int .i64 d.now, .slice b_t d.tens.length q_t, .slice b_s d.seats.length q_s, .slice b_d d.dials.length q_d, .slice b_f d.flights.length q_f, .bool d.drained] 35) = V at *
  have y0 := RowIs.cell (j := 0) RI rfl
  have y1 := RowIs.cell (j := 1) RI rfl
  have y2 := RowIs.cell (j := 2) RI rfl
  have y3 := RowIs.cell (j := 3) RI rfl
  have y4 := RowIs.cell (j := 4) RI rfl
  have y5 := RowIs.cell (j := 5) RI rfl
  go_wp2_with fail
  clear y0 y1 y2 y3 y4 y5
  have hc := implWentTo d s i _ _ _ _ V O2.out hzf.out
  rw [HZ.out] at hc
  refine (show Calls _ _ #[gtv d _ _ _ _, _, _] _ _ from hc).mono ?_; clear hc
  rintro x w5 ⟨rfl, hb⟩
  replace O2 := hide (O2.out.new hb)
  replace RX := RX.new hb
  replace RI := RI.new hb
  replace HB := bchain HB hb
  clear hb
  go_upto_region 10 with fail
  have HRX := hide RX; have HRI := hide RI; have HBW := hide HB
  clear RX RI HB
  obtain ⟨S, HS0, HNEW, HLB⟩ : ∃ S : World → Prop, Hid (S w5) ∧ Hid (∀ u u1, S u → Below u.heap.size u u1 → S u1) ∧ Hid (∀ u, S u → Below w5.heap.size w5 u) := ⟨fun u => Below w5.heap.size w5 u, hide (Below.refl _ _), hide (fun u u1 h h1 => bchain h h1), hide (fun u h => h)⟩
  have hS : S (World.drew w5) := HNEW.out _ _ HS0.out (Below.refl _ _).drew
  go_wp2_with fail
  refine wp_region_held (S := S) (by kernel_rfl) ?_
  change wpAnyH _ _ _ _ _ _ _ _ (World.drew _)
  refine wpAnyH_take (i := 0) (v := .agg #[.int .i64 d.now, .slice b_t d.tens.length q_t, .slice b_s d.seats.length q_s, .slice b_d d.dials.length q_d, .slice b_f d.flights.length q_f, .bool d.drained]) rfl (by kernel_rfl) (by kernel_rfl) (by kernel_rfl) (fun _ _ _ h => h) (Or.inl ⟨by kernel_rfl, ?ld⟩) hS ?_; case ld => (intro uu hu; have l0 := (HRI.out.new (HLB.out _ hu)).cell (j := 0) rfl; have l1 := (HRI.out.new (HLB.out _ hu)).cell (j := 1) rfl; have l2 := (HRI.out.new (HLB.out _ hu)).cell (j := 2) rfl; have l3 := (HRI.out.new (HLB.out _ hu)).cell (j := 3) rfl; have l4 := (HRI.out.new (HLB.out _ hu)).cell (j := 4) rfl; have l5 := (HRI.out.new (HLB.out _ hu)).cell (j := 5) rfl; have ll := (HRI.out.new (HLB.out _ hu)).lt; clear hu; go_simp)
  try simp only [Act.put, List.getElem_toArray, List.getElem_cons_succ, List.getElem_cons_zero, List.setIfInBounds_toArray, List.set_cons_zero, List.set_cons_succ]
  refine wpAnyH_take (i := 1) (v := .agg #[.int .i64 d.now, .slice a_t d.tens.length p_t, .slice a_s d.seats.length p_s, .slice a_d d.dials.length p_d, .slice a_f d.flights.length p_f, .bool d.drained]) rfl (by kernel_rfl) (by kernel_rfl) (by kernel_rfl) (fun _ _ _ h => h) (Or.inl ⟨by kernel_rfl, ?ld⟩) hS ?_; case ld => (intro uu hu; have l0 := (HRX.out.new (HLB.out _ hu)).cell (j := 0) rfl; have l1 := (HRX.out.new (HLB.out _ hu)).cell (j := 1) rfl; have l2 := (HRX.out.new (HLB.out _ hu)).cell (j := 2) rfl; have l3 := (HRX.out.new (HLB.out _ hu)).cell (j := 3) rfl; have l4 := (HRX.out.new (HLB.out _ hu)).cell (j := 4) rfl; have l5 := (HRX.out.new (HLB.out _ hu)).cell (j := 5) rfl; have ll := (HRX.out.new (HLB.out _ hu)).lt; clear hu; go_simp)
  try simp only [Act.put, List.getElem_toArray, List.getElem_cons_succ, List.getElem_cons_zero, List.setIfInBounds_toArray, List.set_cons_zero, List.set_cons_succ]
  refine wpAnyH_ready (rs := [2]) (by kernel_rfl) (by simp) ?_; refine AllReadyH.cons rfl (fun K hK => ?_) AllReadyH.nil; rw [if_pos (by kernel_rfl)]; go_simp
  refine (show Calls _ _ #[gtv d _ _ _ _] _ _ from toGate1 d _ _ _ _ _ (HV.out.new (bchain HBW.out (HLB.out _ hS))) HS.out).mono ?_
  rintro x x1 ⟨ut, us, ud, uf, rfl, ho, hx1⟩
  have O3 := hide ho
  clear ho
  obtain ⟨c_t, r_t, rfl, _⟩ := O3.out.te.form
  obtain ⟨c_s, r_s, rfl, _⟩ := O3.out.se.form
  obtain ⟨c_d, r_d, rfl, _⟩ := O3.out.di.form
  obtain ⟨c_f, r_f, rfl, _⟩ := O3.out.fl.form
  refine hK.out _ _ (HNEW.out _ _ hS hx1) (fun hS => ?_)
  clear hK K hx1
  dsimp only [gtv]
  try simp only [Act.put, List.getElem_toArray, List.getElem_cons_succ, List.getElem_cons_zero, List.setIfInBounds_toArray, List.set_cons_zero, List.set_cons_succ]
  refine wpAnyH_ready (rs := [3]) (by kernel_rfl) (by simp) ?_; refine AllReadyH.cons rfl (fun K hK => ?_) AllReadyH.nil; rw [if_pos (by kernel_rfl)]; go_simp
  refine (show Calls _ _ #[gtv d _ _ _ _, gtv d _ _ _ _] _ _ from eqGate1 d _ _ _ _ _ _ _ _ _ (O2.out.new (HLB.out _ hS)) O3.out).mono ?_
  rintro x x2 ⟨rfl, hx2⟩
  refine hK.out _ _ (HNEW.out _ _ hS hx2) (fun hS => ?_)
  clear hK K hx2
  try simp only [Act.put, List.getElem_toArray, List.getElem_cons_succ, List.getElem_cons_zero, List.setIfInBounds_toArray, List.set_cons_zero, List.set_cons_succ]
  refine wpAnyH_take (i := 4) (v := .bool false) rfl (by kernel_rfl) (by kernel_rfl) (by kernel_rfl) (fun _ _ _ h => h) (Or.inl ⟨by kernel_rfl, fun uu hu => (by kernel_rfl)⟩) hS ?_
  try simp only [Act.put, List.getElem_toArray, List.getElem_cons_succ, List.getElem_cons_zero, List.setIfInBounds_toArray, List.set_cons_zero, List.set_cons_succ]
  refine wpAnyH_done (by kernel_rfl) ?_ _
  have hbS := HLB.out _ hS
  go_wp2_with fail
  go_ret
  exact ⟨rfl, bchain HBW.out hbS⟩


theorem own : ownKnob Tryz.prog.godebug = none := by kernel_rfl
theorem laidOut : laidOutB Tryz.prog = true := by kernel_rfl

set_option maxRecDepth 100000 in
theorem lifted (os : Os) (started : os.Started) (H : Type) (enc : TypeId × Value → H) :
    ReturnsInHanded {} Tryz.checked os 5 .any (Rows.fnExactWentToSpec.pre6 enc Tryz.prog Tryz.f5 Rows.fnExactWentToRow.domain false) (Rows.fnExactWentToSpec.post enc Tryz.prog Tryz.f5 false true false false) := by
  refine returnsInHanded_of_change (C := Tryz.checked) own started (by kernel_rfl) Tryz.func5
    (ChangeSpec.witness6 (enc := enc) (C := Tryz.checked) false ⟨#[], #[.agg #[.int .i64 0, .slice none 0 0, .slice none 0 0, .slice none 0 0, .slice none 0 0, .bool false], .int .i64 0, .int .i64 0], []⟩ 8 (by kernel_rfl) (by kernel_rfl) (by kernel_rfl) (by kernel_rfl)) ?_
  intro W base args ds gs before hval0 hW hcnd _
  have hval : ∀ (j : Nat) t v, Tryz.f5.params[j]? = some t → args[j]? = some v → Value.okWide Tryz.prog W .any base t v := hval0
  have hW' := hW
  obtain ⟨p, q, hA0, hV, rfl, hfz, hnd⟩ := hW
  have hA : DataW.TrodAll enc Tryz.prog W 0 (fun _ => true) true Tryz.f5.params.toList args.toList ds p := hA0
  rw [Tryz.params5] at hA hval
  obtain ⟨v0, vs0, d0, ds0, p0, q0, hargs, rfl, rfl, h0, r0⟩ := trodAll_cons hA
  obtain ⟨v1, vs1, d1, ds1, p1, q1, rfl, rfl, rfl, h1, r1⟩ := trodAll_cons r0
  obtain ⟨v2, vs2, d2, ds2, p2, q2, rfl, rfl, rfl, h2, r2⟩ := trodAll_cons r1
  obtain ⟨rfl, rfl, rfl⟩ := trodAll_nil r2
  obtain rfl : args = #[v0, v1, v2] := by cases args; simp_all
  obtain ⟨rfl, rfl⟩ := trodVars_none hV
  have k0 := h0
  have lt0 : ∀ x ∈ p0, x.block < W.heap.size := by obtain ⟨m, hm⟩ := k0; exact DataW.trod_lt m _ _ _ hm
  have k1 := h1
  have lt1 : ∀ x ∈ p1, x.block < W.heap.size := by obtain ⟨m, hm⟩ := k1; exact DataW.trod_lt m _ _ _ hm
  have k2 := h2
  have lt2 : ∀ x ∈ p2, x.block < W.heap.size := by obtain ⟨m, hm⟩ := k2; exact DataW.trod_lt m _ _ _ hm
  obtain ⟨d, vt, vs, vd, vf, rfl, hrd⟩ := open_Gate (hval 0 27 v0 rfl rfl) h0
  obtain ⟨s, rfl, rfl, rfl, ws⟩ := open_int Tryz.underlying2 (hval 1 2 v1 rfl rfl) h1
  obtain ⟨i, rfl, rfl, rfl, wi⟩ := open_int Tryz.underlying2 (hval 2 2 v2 rfl rfl) h2
  clear hA0 hval0
  refine (walk d s i vt vs vd vf W hrd).mono fun e W' ⟨he, bel⟩ => ?_
  subst he
  exact ⟨_, rfl, _, _, _, [], _, [], hW', trodAll_mk1 (shut_bool Tryz.underlying4 _), (trodAll_cons_mk (Below.trod laidOut (by kernel_rfl) (of_decide_eq_true (by kernel_rfl)) k0 bel lt0) (trodAll_cons_mk (Below.trod laidOut (by kernel_rfl) (of_decide_eq_true (by kernel_rfl)) k1 bel lt1) (trodAll_cons_mk (Below.trod laidOut (by kernel_rfl) (of_decide_eq_true (by kernel_rfl)) k2 bel lt2) trodAll_mk0))), rfl, bel.frame _, fun h => by cases h⟩

theorem over : Rows.fnExactWentToRow.holds Tryz.pinned (OpenSpec.ofChange Rows.fnExactWentToSpec) :=
  OpenClaim.holds_of_wide 5 Tryz.f5 rfl rfl rfl rfl rfl rfl rfl ⟨rfl, rfl, rfl, rfl, rfl⟩ rfl rfl rfl rfl rfl (by kernel_rfl) Tryz.func5 (by kernel_rfl)
    (of_decide_eq_true (by kernel_rfl)) (by unfold Func.isWrapper; first | (rw [if_pos (by decide +kernel)]; kernel_rfl) | (rw [if_neg (by decide +kernel)]; exact ⟨rfl, rfl⟩))
    (fun os started H enc _ => lifted os started H enc)

end exactWentTo

theorem exactWentTo_proved : Rows.FnExactWentToSaid := exactWentTo.over
#print axioms exactWentTo_proved
end Go.Proofs.YtkhclhnejnpkeaaGreat
