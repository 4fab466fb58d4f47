/- The law FnExactConnOk returns true at every argument and leaves it as it was: impl.ConnOk answers as its model, and its answer owns its memory. No condition. -/
import Derived.Test.YtllaeakeaabiaaaQConnSpec1
import Derived.Test.YtllaeakeaabiaaaQConnImpl1
import Derived.Test.YtllaeakeaabiaaaQG26
import Derived.WalkKit
import Derived.ProofKit
import Derived.OpenShut
import Derived.ShutString
import Derived.ChangeOld
import Derived.Below
import Derived.Lib.SmallJoins
import Derived.Deep.Cut
import Derived.Deep.DeepCutAuto
import Derived.Deep.RegionHeld3
namespace Go.Proofs.Ytllaeakeaabiaaa
open Go.RowKit
set_option maxRecDepth 100000
namespace exactConnOk
open Go.ChangeShapes Go.WideShapes Go.ChangeAt Go.RowKit Go.Joins
open Go.ChangeMaps (open_string shut_string)
set_option linter.unusedVariables false
set_option linter.unusedSimpArgs false

set_option maxHeartbeats 8000000 in
theorem walk (d : CnD) (ve vi vo vf : Value) (w : World) (hv : CnRd w d ve vi vo vf) :
    Calls Try.prog 3 #[cnv d ve vi vo vf] w fun x w' => x = .returned (.bool true) ∧ Below w.heap.size w w' := by
  dsimp only [cnv] at *
  have HV := hide hv
  clear hv
  obtain ⟨ae, pe, rfl, _⟩ := HV.out.e.form
  obtain ⟨ai, pi, rfl, _⟩ := HV.out.i.form
  obtain ⟨ao, po, rfl, _⟩ := HV.out.o.form
  obtain ⟨af, pf, rfl, _⟩ := HV.out.f.form
  obtain ⟨z, hz⟩ : ∃ z, okCn d = z := ⟨_, rfl⟩
  have HZ := hide hz
  clear hz
  have hzz : (z != z) = false := by simp
  obtain ⟨W, hW⟩ : ∃ W, w.alloc (.cells #[.int .i64 d.reg.lim, .int .i64 d.reg.top, .slice ae d.reg.es.length pe, .int .i64 d.inr, .slice ai d.inT.length pi, .int .i64 d.outr, .slice ao d.outT.length po, .int .i64 d.get, .int .i64 d.give, .int .i64 d.first, .slice af d.flows.length pf, .bool d.away, .bool d.dead] 30) = W := ⟨_, rfl⟩
  have RX : RowIs W w.heap.size 30 [.int .i64 d.reg.lim, .int .i64 d.reg.top, .slice ae d.reg.es.length pe, .int .i64 d.inr, .slice ai d.inT.length pi, .int .i64 d.outr, .slice ao d.outT.length po, .int .i64 d.get, .int .i64 d.give, .int .i64 d.first, .slice af d.flows.length pf, .bool d.away, .bool d.dead] := by rw [← hW]; exact rowIs_new w 30 [.int .i64 d.reg.lim, .int .i64 d.reg.top, .slice ae d.reg.es.length pe, .int .i64 d.inr, .slice ai d.inT.length pi, .int .i64 d.outr, .slice ao d.outT.length po, .int .i64 d.get, .int .i64 d.give, .int .i64 d.first, .slice af d.flows.length pf, .bool d.away, .bool d.dead]
  have HB : Below w.heap.size w W := by rw [← hW]; exact (Below.refl _ _).alloc (Nat.le_refl _) _
  have hsn := szConn_nn d
  obtain ⟨left, hleft⟩ : ∃ left, (1048576 : Int) - szConn d = left := ⟨_, rfl⟩
  have hcall := fun w h => szConn1 d (.slice ae d.reg.es.length pe) (.slice ai d.inT.length pi) (.slice ao d.outT.length po) (.slice af d.flows.length pf) 1048576 w h (by omega) (by omega)
  rw [hleft] at hcall
  go_enter Try.func3, Try.ntmps3
  go_wp2_with (refine wpList_load_row (by rfl) 30 _ (by rfl) w.heap.size (by rfl) [.int .i64 d.reg.lim, .int .i64 d.reg.top, .slice ae d.reg.es.length pe, .int .i64 d.inr, .slice ai d.inT.length pi, .int .i64 d.outr, .slice ao d.outT.length po, .int .i64 d.get, .int .i64 d.give, .int .i64 d.first, .slice af d.flows.length pf, .bool d.away, .bool d.dead] _ 30 RX Try.underlying30 rfl (by kernel_rfl) ?_)
  clear hW
  refine (show Calls _ _ #[cnv d _ _ _ _, _] _ _ from hcall _ (HV.out.new HB)).mono ?_; clear hcall
  rintro x w1 ⟨rfl | ⟨rfl, hp⟩, hb⟩
  · go_wp2_with fail
    go_ret
    exact ⟨rfl, bchain HB hb⟩
  have hs : szConn d ≤ 1048576 := by omega
  have hl0 : ¬ left < 0 := by omega
  clear hleft
  replace RX := RX.new hb
  replace HB := bchain HB hb
  clear hb
  go_wp2_with (refine wpList_load_row (by rfl) 30 _ (by rfl) w.heap.size (by rfl) [.int .i64 d.reg.lim, .int .i64 d.reg.top, .slice ae d.reg.es.length pe, .int .i64 d.inr, .slice ai d.inT.length pi, .int .i64 d.outr, .slice ao d.outT.length po, .int .i64 d.get, .int .i64 d.give, .int .i64 d.first, .slice af d.flows.length pf, .bool d.away, .bool d.dead] _ 30 RX Try.underlying30 rfl (by kernel_rfl) ?_)
  refine (show Calls _ _ #[cnv d _ _ _ _] _ _ from toConn1 d _ _ _ _ _ (HV.out.new HB) hs).mono ?_
  rintro x w2 ⟨ue, ui, uo, uf, bs1, rfl, ho, hlo, hb⟩
  have O1 := hide ho
  clear ho hlo
  replace RX := RX.new hb
  replace HB := bchain HB hb
  clear hb
  obtain ⟨ea1, ep1, rfl, _⟩ := O1.out.rd.e.form
  obtain ⟨ia1, ip1, rfl, _⟩ := O1.out.rd.i.form
  obtain ⟨oa1, op1, rfl, _⟩ := O1.out.rd.o.form
  obtain ⟨fa1, fp1, rfl, _⟩ := O1.out.rd.f.form
  dsimp only [cnv]
  go_wp2_with fail
  have hc := specConnOk d _ _ _ _ w2 O1.out.rd
  rw [HZ.out] at hc
  refine (show Calls _ _ #[cnv d _ _ _ _] _ _ from hc).mono ?_; clear hc
  rintro x w3 ⟨rfl, hb⟩
  clear O1
  replace RX := RX.new hb
  replace HB := bchain HB hb
  clear hb
  go_wp2_with (refine wpList_load_row (by rfl) 30 _ (by rfl) w.heap.size (by rfl) [.int .i64 d.reg.lim, .int .i64 d.reg.top, .slice ae d.reg.es.length pe, .int .i64 d.inr, .slice ai d.inT.length pi, .int .i64 d.outr, .slice ao d.outT.length po, .int .i64 d.get, .int .i64 d.give, .int .i64 d.first, .slice af d.flows.length pf, .bool d.away, .bool d.dead] _ 30 RX Try.underlying30 rfl (by kernel_rfl) ?_)
  refine (show Calls _ _ #[cnv d _ _ _ _] _ _ from toConn1 d _ _ _ _ _ (HV.out.new HB) hs).mono ?_
  rintro x w4 ⟨ue, ui, uo, uf, bs2, rfl, ho, hlo, hb⟩
  have O2 := hide ho
  clear ho hlo
  replace RX := RX.new hb
  replace HB := bchain HB hb
  clear hb
  obtain ⟨ea2, ep2, rfl, _⟩ := O2.out.rd.e.form
  obtain ⟨ia2, ip2, rfl, _⟩ := O2.out.rd.i.form
  obtain ⟨oa2, op2, rfl, _⟩ := O2.out.rd.o.form
  obtain ⟨fa2, fp2, rfl, _⟩ := O2.out.rd.f.form
  dsimp only [cnv]
  go_upto_region 7 with (refine wpList_store_row (by rfl) 41 _ _ (by rfl) w4.heap.size [.int .i64 d.reg.lim, .int .i64 d.reg.top, .slice ea2 d.reg.es.length ep2, .int .i64 d.inr, .slice ia2 d.inT.length ip2, .int .i64 d.outr, .slice oa2 d.outT.length op2, .int .i64 d.get, .int .i64 d.give, .int .i64 d.first, .slice fa2 d.flows.length fp2, .bool d.away, .bool d.dead] (by rfl) (by rfl) 41 [.int .i64 0, .int .i64 0, .slice none 0 0, .int .i64 0, .slice none 0 0, .int .i64 0, .slice none 0 0, .int .i64 0, .int .i64 0, .int .i64 0, .slice none 0 0, .bool false, .bool false] (rowIs_new w4 41 [.int .i64 0, .int .i64 0, .slice none 0 0, .int .i64 0, .slice none 0 0, .int .i64 0, .slice none 0 0, .int .i64 0, .int .i64 0, .int .i64 0, .slice none 0 0, .bool false, .bool false]) (by kernel_rfl) rfl (by intro u hu; simp at hu; rcases hu with rfl | rfl | rfl | rfl | rfl | rfl | rfl | rfl | rfl | rfl | rfl | rfl | rfl <;> rfl) ?_)
  have RI : RowIs ((w4.alloc (.cells #[.int .i64 0, .int .i64 0, .slice none 0 0, .int .i64 0, .slice none 0 0, .int .i64 0, .slice none 0 0, .int .i64 0, .int .i64 0, .int .i64 0, .slice none 0 0, .bool false, .bool false] 41)).setRow w4.heap.size #[.int .i64 d.reg.lim, .int .i64 d.reg.top, .slice ea2 d.reg.es.length ep2, .int .i64 d.inr, .slice ia2 d.inT.length ip2, .int .i64 d.outr, .slice oa2 d.outT.length op2, .int .i64 d.get, .int .i64 d.give, .int .i64 d.first, .slice fa2 d.flows.length fp2, .bool d.away, .bool d.dead]) w4.heap.size 41 [.int .i64 d.reg.lim, .int .i64 d.reg.top, .slice ea2 d.reg.es.length ep2, .int .i64 d.inr, .slice ia2 d.inT.length ip2, .int .i64 d.outr, .slice oa2 d.outT.length op2, .int .i64 d.get, .int .i64 d.give, .int .i64 d.first, .slice fa2 d.flows.length fp2, .bool d.away, .bool d.dead] := rowIs_setRow (cs' := [.int .i64 d.reg.lim, .int .i64 d.reg.top, .slice ea2 d.reg.es.length ep2, .int .i64 d.inr, .slice ia2 d.inT.length ip2, .int .i64 d.outr, .slice oa2 d.outT.length op2, .int .i64 d.get, .int .i64 d.give, .int .i64 d.first, .slice fa2 d.flows.length fp2, .bool d.away, .bool d.dead]) (rowIs_new w4 41 [.int .i64 0, .int .i64 0, .slice none 0 0, .int .i64 0, .slice none 0 0, .int .i64 0, .slice none 0 0, .int .i64 0, .int .i64 0, .int .i64 0, .slice none 0 0, .bool false, .bool false])
  have hbV : Below w4.heap.size w4 ((w4.alloc (.cells #[.int .i64 0, .int .i64 0, .slice none 0 0, .int .i64 0, .slice none 0 0, .int .i64 0, .slice none 0 0, .int .i64 0, .int .i64 0, .int .i64 0, .slice none 0 0, .bool false, .bool false] 41)).setRow w4.heap.size #[.int .i64 d.reg.lim, .int .i64 d.reg.top, .slice ea2 d.reg.es.length ep2, .int .i64 d.inr, .slice ia2 d.inT.length ip2, .int .i64 d.outr, .slice oa2 d.outT.length op2, .int .i64 d.get, .int .i64 d.give, .int .i64 d.first, .slice fa2 d.flows.length fp2, .bool d.away, .bool d.dead]) := below_setRow ((Below.refl _ _).alloc (Nat.le_refl _) _) (Nat.le_refl _) #[.int .i64 d.reg.lim, .int .i64 d.reg.top, .slice ea2 d.reg.es.length ep2, .int .i64 d.inr, .slice ia2 d.inT.length ip2, .int .i64 d.outr, .slice oa2 d.outT.length op2, .int .i64 d.get, .int .i64 d.give, .int .i64 d.first, .slice fa2 d.flows.length fp2, .bool d.away, .bool d.dead]
  replace O2 := hide (O2.out.new hbV)
  replace RX := RX.new hbV
  replace HB := bchain HB hbV
  clear hbV
  generalize hV : (w4.alloc (.cells #[.int .i64 0, .int .i64 0, .slice none 0 0, .int .i64 0, .slice none 0 0, .int .i64 0, .slice none 0 0, .int .i64 0, .int .i64 0, .int .i64 0, .slice none 0 0, .bool false, .bool false] 41)).setRow w4.heap.size #[.int .i64 d.reg.lim, .int .i64 d.reg.top, .slice ea2 d.reg.es.length ep2, .int .i64 d.inr, .slice ia2 d.inT.length ip2, .int .i64 d.outr, .slice oa2 d.outT.length op2, .int .i64 d.get, .int .i64 d.give, .int .i64 d.first, .slice fa2 d.flows.length fp2, .bool d.away, .bool d.dead] = V at *
  clear hV
  generalize w4.heap.size = gI at *
  go_wp2_with (refine wpList_load_row (by rfl) 41 _ (by rfl) gI (by rfl) [.int .i64 d.reg.lim, .int .i64 d.reg.top, .slice ea2 d.reg.es.length ep2, .int .i64 d.inr, .slice ia2 d.inT.length ip2, .int .i64 d.outr, .slice oa2 d.outT.length op2, .int .i64 d.get, .int .i64 d.give, .int .i64 d.first, .slice fa2 d.flows.length fp2, .bool d.away, .bool d.dead] _ 41 RI Try.underlying41 rfl (by kernel_rfl) ?_)
  have hc := implConnOk d _ _ _ _ V O2.out.rd
  rw [HZ.out] at hc
  refine (show Calls _ _ #[cnv d _ _ _ _] _ _ from hc).mono ?_; clear hc
  rintro x w5 ⟨rfl, hb⟩
  replace O2 := hide (O2.out.new hb)
  replace RX := RX.new hb
  replace RI := RI.new hb
  replace HB := bchain HB hb
  clear hb
  go_upto_region 10 with fail
  have HRX := hide RX; have HRI := hide RI; have HBW := hide HB
  clear RX RI HB
  obtain ⟨S, HS0, HNEW, HLB⟩ : ∃ S : World → Prop, Hid (S w5) ∧ Hid (∀ u u1, S u → Below u.heap.size u u1 → S u1) ∧ Hid (∀ u, S u → Below w5.heap.size w5 u) := ⟨fun u => Below w5.heap.size w5 u, hide (Below.refl _ _), hide (fun u u1 h h1 => bchain h h1), hide (fun u h => h)⟩
  have hS : S (World.drew w5) := HNEW.out _ _ HS0.out (Below.refl _ _).drew
  go_wp2_with fail
  refine wp_region_held (S := S) (by kernel_rfl) ?_
  change wpAnyH _ _ _ _ _ _ _ _ (World.drew _)
  refine wpAnyH_take (i := 0) (v := .agg #[.int .i64 d.reg.lim, .int .i64 d.reg.top, .slice ea2 d.reg.es.length ep2, .int .i64 d.inr, .slice ia2 d.inT.length ip2, .int .i64 d.outr, .slice oa2 d.outT.length op2, .int .i64 d.get, .int .i64 d.give, .int .i64 d.first, .slice fa2 d.flows.length fp2, .bool d.away, .bool d.dead]) rfl (by kernel_rfl) (by kernel_rfl) (by kernel_rfl) (fun _ _ _ h => h) (Or.inl ⟨by kernel_rfl, ?ld⟩) hS ?_; case ld => (intro uu hu; have l0 := (HRI.out.new (HLB.out _ hu)).cell (j := 0) rfl; have l1 := (HRI.out.new (HLB.out _ hu)).cell (j := 1) rfl; have l2 := (HRI.out.new (HLB.out _ hu)).cell (j := 2) rfl; have l3 := (HRI.out.new (HLB.out _ hu)).cell (j := 3) rfl; have l4 := (HRI.out.new (HLB.out _ hu)).cell (j := 4) rfl; have l5 := (HRI.out.new (HLB.out _ hu)).cell (j := 5) rfl; have l6 := (HRI.out.new (HLB.out _ hu)).cell (j := 6) rfl; have l7 := (HRI.out.new (HLB.out _ hu)).cell (j := 7) rfl; have l8 := (HRI.out.new (HLB.out _ hu)).cell (j := 8) rfl; have l9 := (HRI.out.new (HLB.out _ hu)).cell (j := 9) rfl; have l10 := (HRI.out.new (HLB.out _ hu)).cell (j := 10) rfl; have l11 := (HRI.out.new (HLB.out _ hu)).cell (j := 11) rfl; have l12 := (HRI.out.new (HLB.out _ hu)).cell (j := 12) rfl; have ll := (HRI.out.new (HLB.out _ hu)).lt; clear hu; go_simp)
  try simp only [Act.put, List.getElem_toArray, List.getElem_cons_succ, List.getElem_cons_zero, List.setIfInBounds_toArray, List.set_cons_zero, List.set_cons_succ]
  refine wpAnyH_take (i := 1) (v := .agg #[.int .i64 d.reg.lim, .int .i64 d.reg.top, .slice ae d.reg.es.length pe, .int .i64 d.inr, .slice ai d.inT.length pi, .int .i64 d.outr, .slice ao d.outT.length po, .int .i64 d.get, .int .i64 d.give, .int .i64 d.first, .slice af d.flows.length pf, .bool d.away, .bool d.dead]) rfl (by kernel_rfl) (by kernel_rfl) (by kernel_rfl) (fun _ _ _ h => h) (Or.inl ⟨by kernel_rfl, ?ld⟩) hS ?_; case ld => (intro uu hu; have l0 := (HRX.out.new (HLB.out _ hu)).cell (j := 0) rfl; have l1 := (HRX.out.new (HLB.out _ hu)).cell (j := 1) rfl; have l2 := (HRX.out.new (HLB.out _ hu)).cell (j := 2) rfl; have l3 := (HRX.out.new (HLB.out _ hu)).cell (j := 3) rfl; have l4 := (HRX.out.new (HLB.out _ hu)).cell (j := 4) rfl; have l5 := (HRX.out.new (HLB.out _ hu)).cell (j := 5) rfl; have l6 := (HRX.out.new (HLB.out _ hu)).cell (j := 6) rfl; have l7 := (HRX.out.new (HLB.out _ hu)).cell (j := 7) rfl; have l8 := (HRX.out.new (HLB.out _ hu)).cell (j := 8) rfl; have l9 := (HRX.out.new (HLB.out _ hu)).cell (j := 9) rfl; have l10 := (HRX.out.new (HLB.out _ hu)).cell (j := 10) rfl; have l11 := (HRX.out.new (HLB.out _ hu)).cell (j := 11) rfl; have l12 := (HRX.out.new (HLB.out _ hu)).cell (j := 12) rfl; have ll := (HRX.out.new (HLB.out _ hu)).lt; clear hu; go_simp)
  try simp only [Act.put, List.getElem_toArray, List.getElem_cons_succ, List.getElem_cons_zero, List.setIfInBounds_toArray, List.set_cons_zero, List.set_cons_succ]
  refine wpAnyH_ready (rs := [2]) (by kernel_rfl) (by simp) ?_; refine AllReadyH.cons rfl (fun K hK => ?_) AllReadyH.nil; rw [if_pos (by kernel_rfl)]; go_simp
  refine (show Calls _ _ #[cnv d _ _ _ _] _ _ from toConn1 d _ _ _ _ _ (HV.out.new (bchain HBW.out (HLB.out _ hS))) hs).mono ?_
  rintro x x1 ⟨ue, ui, uo, uf, bs3, rfl, ho, hlo, hx1⟩
  have O3 := hide ho
  clear ho hlo
  obtain ⟨ea3, ep3, rfl, _⟩ := O3.out.rd.e.form
  obtain ⟨ia3, ip3, rfl, _⟩ := O3.out.rd.i.form
  obtain ⟨oa3, op3, rfl, _⟩ := O3.out.rd.o.form
  obtain ⟨fa3, fp3, rfl, _⟩ := O3.out.rd.f.form
  refine hK.out _ _ (HNEW.out _ _ hS hx1) (fun hS => ?_)
  clear hK K hx1
  dsimp only [cnv]
  try simp only [Act.put, List.getElem_toArray, List.getElem_cons_succ, List.getElem_cons_zero, List.setIfInBounds_toArray, List.set_cons_zero, List.set_cons_succ]
  refine wpAnyH_ready (rs := [3]) (by kernel_rfl) (by simp) ?_; refine AllReadyH.cons rfl (fun K hK => ?_) AllReadyH.nil; rw [if_pos (by kernel_rfl)]; go_simp
  refine (show Calls _ _ #[cnv d _ _ _ _, cnv d _ _ _ _] _ _ from eqConn1 d _ _ _ _ _ _ _ _ _ (O2.out.rd.new (HLB.out _ hS)) O3.out.rd).mono ?_
  rintro x x2 ⟨rfl, hx2⟩
  refine hK.out _ _ (HNEW.out _ _ hS hx2) (fun hS => ?_)
  clear hK K hx2
  try simp only [Act.put, List.getElem_toArray, List.getElem_cons_succ, List.getElem_cons_zero, List.setIfInBounds_toArray, List.set_cons_zero, List.set_cons_succ]
  refine wpAnyH_take (i := 4) (v := .bool false) rfl (by kernel_rfl) (by kernel_rfl) (by kernel_rfl) (fun _ _ _ h => h) (Or.inl ⟨by kernel_rfl, fun uu hu => (by kernel_rfl)⟩) hS ?_
  try simp only [Act.put, List.getElem_toArray, List.getElem_cons_succ, List.getElem_cons_zero, List.setIfInBounds_toArray, List.set_cons_zero, List.set_cons_succ]
  refine wpAnyH_done (by kernel_rfl) ?_ _
  have hbS := HLB.out _ hS
  go_wp2_with fail
  go_ret
  exact ⟨rfl, bchain HBW.out hbS⟩


theorem own : ownKnob Try.prog.godebug = none := by kernel_rfl
theorem laidOut : laidOutB Try.prog = true := by kernel_rfl

set_option maxRecDepth 100000 in
theorem lifted (os : Os) (started : os.Started) (H : Type) (enc : TypeId × Value → H) :
    ReturnsInHanded {} Try.checked os 3 .any (Rows.fnExactConnOkSpec.pre6 enc Try.prog Try.f3 Rows.fnExactConnOkRow.domain false) (Rows.fnExactConnOkSpec.post enc Try.prog Try.f3 false true false false) := by
  refine returnsInHanded_of_change (C := Try.checked) own started (by kernel_rfl) Try.func3
    (ChangeSpec.witness6 (enc := enc) (C := Try.checked) false ⟨#[], #[.agg #[.int .i64 0, .int .i64 0, .slice none 0 0, .int .i64 0, .slice none 0 0, .int .i64 0, .slice none 0 0, .int .i64 0, .int .i64 0, .int .i64 0, .slice none 0 0, .bool false, .bool false]], []⟩ 8 (by kernel_rfl) (by kernel_rfl) (by kernel_rfl) (by kernel_rfl)) ?_
  intro W base args ds gs before hval0 hW hcnd _
  have hval : ∀ (j : Nat) t v, Try.f3.params[j]? = some t → args[j]? = some v → Value.okWide Try.prog W .any base t v := hval0
  have hW' := hW
  obtain ⟨p, q, hA0, hV, rfl, hfz, hnd⟩ := hW
  have hA : DataW.TrodAll enc Try.prog W 0 (fun _ => true) true Try.f3.params.toList args.toList ds p := hA0
  rw [Try.params3] at hA hval
  obtain ⟨v0, vs0, d0, ds0, p0, q0, hargs, rfl, rfl, h0, r0⟩ := trodAll_cons hA
  obtain ⟨rfl, rfl, rfl⟩ := trodAll_nil r0
  obtain rfl : args = #[v0] := by cases args; simp_all
  obtain ⟨rfl, rfl⟩ := trodVars_none hV
  have k0 := h0
  have lt0 : ∀ x ∈ p0, x.block < W.heap.size := by obtain ⟨m, hm⟩ := k0; exact DataW.trod_lt m _ _ _ hm
  obtain ⟨d, ve, vi, vo, vf, rfl, hrd⟩ := open_Conn (hval 0 30 v0 rfl rfl) h0
  clear hA0 hval0
  refine (walk d ve vi vo vf W hrd).mono fun e W' ⟨he, bel⟩ => ?_
  subst he
  exact ⟨_, rfl, _, _, _, [], _, [], hW', trodAll_mk1 (shut_bool Try.underlying4 _), (trodAll_cons_mk (Below.trod laidOut (by kernel_rfl) (of_decide_eq_true (by kernel_rfl)) k0 bel lt0) trodAll_mk0), rfl, bel.frame _, fun h => by cases h⟩

theorem over : Rows.fnExactConnOkRow.holds Try.pinned (OpenSpec.ofChange Rows.fnExactConnOkSpec) :=
  OpenClaim.holds_of_wide 3 Try.f3 rfl rfl rfl rfl rfl rfl rfl ⟨rfl, rfl, rfl, rfl, rfl⟩ rfl rfl rfl rfl rfl (by kernel_rfl) Try.func3 (by kernel_rfl)
    (of_decide_eq_true (by kernel_rfl)) (by unfold Func.isWrapper; first | (rw [if_pos (by decide +kernel)]; kernel_rfl) | (rw [if_neg (by decide +kernel)]; exact ⟨rfl, rfl⟩))
    (fun os started H enc _ => lifted os started H enc)

end exactConnOk

theorem exactConnOk_proved : Rows.FnExactConnOkSaid := exactConnOk.over
#print axioms exactConnOk_proved
end Go.Proofs.Ytllaeakeaabiaaa
