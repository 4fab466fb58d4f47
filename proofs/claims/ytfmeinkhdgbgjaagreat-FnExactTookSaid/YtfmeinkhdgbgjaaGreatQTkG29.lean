/- Several small texts of one level, one behind the other. -/
import Derived.Test.YtfmeinkhdgbgjaaGreatQTkG28
import Derived.Test.YtfmeinkhdgbgjaaGreatQTkG26
import Derived.Test.YtfmeinkhdgbgjaaGreatQTkG2
import Derived.Test.YtfmeinkhdgbgjaaGreatQTkG18
import Derived.Test.YtfmeinkhdgbgjaaGreatQTkG16
import Derived.Test.YtfmeinkhdgbgjaaGreatQTkG3
import Derived.Test.YtfmeinkhdgbgjaaGreatQTkG19
import Derived.Test.YtfmeinkhdgbgjaaGreatQTkBlk
import Derived.Deep.Cut
import Derived.Deep.DeepCutAuto
import Derived.Test.YtfmeinkhdgbgjaaGreatQTkG8
import Derived.Deep.RegionHeld3
import Derived.Test.YtfmeinkhdgbgjaaGreatQTkG5
import Derived.Test.YtfmeinkhdgbgjaaGreatQTkG4
import Derived.Test.YtfmeinkhdgbgjaaGreatQTkBase
import Derived.Handy
import Derived.RegionTactic
import Derived.Maps.OwnOps
/- The program's link of a Conn. -/
namespace Go.Proofs.YtfmeinkhdgbgjaaGreat
open Go.RowKit
set_option maxRecDepth 100000
set_option linter.unusedSimpArgs false
set_option linter.unusedVariables false
abbrev lkcs0 (d : CnD) (ve vi vo vf tv : Value) : List Value := [.int .i64 d.reg.lim, .int .i64 d.reg.top, ve, .int .i64 d.inr, vi, .int .i64 d.outr, vo, .int .i64 d.get, .int .i64 d.give, .int .i64 d.first, vf, .bool d.away, .bool d.dead, tv]
set_option maxHeartbeats 8000000 in
theorem implLinkNo (d : CnD) (ve vi vo vf : Value) (w : World) (hv : CnRd w d ve vi vo vf) (hok : okCn d = false) :
    Calls Tryz.prog 42 #[cnv d ve vi vo vf] w fun x w' => x = .returned (.tuple #[.agg #[.int .i64 0, .int .i64 0, .slice none 0 0, .int .i64 0, .slice none 0 0, .int .i64 0, .slice none 0 0, .int .i64 0, .int .i64 0, .int .i64 0, .slice none 0 0, .bool false, .bool false, .slice none 0 0], .bool false]) ∧ Below w.heap.size w w' := by
  have HV := hide hv
  obtain ⟨ae, pe, rfl, _, _⟩ := hv.e.form
  obtain ⟨ai, pi, rfl, _, _⟩ := hv.i.form
  obtain ⟨ao, po, rfl, _, _⟩ := hv.o.form
  obtain ⟨af, pf, rfl, _, _⟩ := hv.f.form
  clear hv
  have hbA : Below w.heap.size w ((w.alloc (.cells #[.int .i64 d.reg.lim, .int .i64 d.reg.top, .slice ae d.reg.es.length pe, .int .i64 d.inr, .slice ai d.inT.length pi, .int .i64 d.outr, .slice ao d.outT.length po, .int .i64 d.get, .int .i64 d.give, .int .i64 d.first, .slice af d.flows.length pf, .bool d.away, .bool d.dead] 32)).alloc (.cells #[.int .i64 0, .int .i64 0, .slice none 0 0, .int .i64 0, .slice none 0 0, .int .i64 0, .slice none 0 0, .int .i64 0, .int .i64 0, .int .i64 0, .slice none 0 0, .bool false, .bool false, .slice none 0 0] 84)) := ((Below.refl _ _).alloc (Nat.le_refl _) _).alloc (by simp) _
  have RA := (rowIs_new w 32 [.int .i64 d.reg.lim, .int .i64 d.reg.top, .slice ae d.reg.es.length pe, .int .i64 d.inr, .slice ai d.inT.length pi, .int .i64 d.outr, .slice ao d.outT.length po, .int .i64 d.get, .int .i64 d.give, .int .i64 d.first, .slice af d.flows.length pf, .bool d.away, .bool d.dead]).alloc (.cells #[.int .i64 0, .int .i64 0, .slice none 0 0, .int .i64 0, .slice none 0 0, .int .i64 0, .slice none 0 0, .int .i64 0, .int .i64 0, .int .i64 0, .slice none 0 0, .bool false, .bool false, .slice none 0 0] 84)
  have RZ := rowIs_new (w.alloc (.cells #[.int .i64 d.reg.lim, .int .i64 d.reg.top, .slice ae d.reg.es.length pe, .int .i64 d.inr, .slice ai d.inT.length pi, .int .i64 d.outr, .slice ao d.outT.length po, .int .i64 d.get, .int .i64 d.give, .int .i64 d.first, .slice af d.flows.length pf, .bool d.away, .bool d.dead] 32)) 84 [.int .i64 0, .int .i64 0, .slice none 0 0, .int .i64 0, .slice none 0 0, .int .i64 0, .slice none 0 0, .int .i64 0, .int .i64 0, .int .i64 0, .slice none 0 0, .bool false, .bool false, .slice none 0 0]
  have hsz : (w.alloc (.cells #[.int .i64 d.reg.lim, .int .i64 d.reg.top, .slice ae d.reg.es.length pe, .int .i64 d.inr, .slice ai d.inT.length pi, .int .i64 d.outr, .slice ao d.outT.length po, .int .i64 d.get, .int .i64 d.give, .int .i64 d.first, .slice af d.flows.length pf, .bool d.away, .bool d.dead] 32)).heap.size = w.heap.size + 1 := by simp
  rw [hsz] at RZ
  obtain ⟨V, hV⟩ : ∃ V, (w.alloc (.cells #[.int .i64 d.reg.lim, .int .i64 d.reg.top, .slice ae d.reg.es.length pe, .int .i64 d.inr, .slice ai d.inT.length pi, .int .i64 d.outr, .slice ao d.outT.length po, .int .i64 d.get, .int .i64 d.give, .int .i64 d.first, .slice af d.flows.length pf, .bool d.away, .bool d.dead] 32)).alloc (.cells #[.int .i64 0, .int .i64 0, .slice none 0 0, .int .i64 0, .slice none 0 0, .int .i64 0, .slice none 0 0, .int .i64 0, .int .i64 0, .int .i64 0, .slice none 0 0, .bool false, .bool false, .slice none 0 0] 84) = V := ⟨_, rfl⟩
  rw [hV] at hbA RA RZ
  have HB := hide hbA
  clear hsz hbA
  go_enter Tryz.func42, Tryz.ntmps42
  go_upto_region 1 with fail
  try rw [hV]
  clear hV
  go_wp2_with (refine wpList_load_row (by rfl) 32 _ (by rfl) w.heap.size (by rfl) [.int .i64 d.reg.lim, .int .i64 d.reg.top, .slice ae d.reg.es.length pe, .int .i64 d.inr, .slice ai d.inT.length pi, .int .i64 d.outr, .slice ao d.outT.length po, .int .i64 d.get, .int .i64 d.give, .int .i64 d.first, .slice af d.flows.length pf, .bool d.away, .bool d.dead] _ 32 RA Tryz.underlying32 rfl (by kernel_rfl) ?_)
  refine (implConnRight d _ _ _ _ _ (HV.out.new HB.out)).mono ?_; rw [hok]; rintro e w1 ⟨rfl, hb1⟩
  replace RZ := RZ.new hb1
  have HB1 := hide (bchain HB.out hb1)
  clear hb1
  have RZ2 := hide (rowIs_setRow (cs' := [.int .i64 0, .int .i64 0, .slice none 0 0, .int .i64 0, .slice none 0 0, .int .i64 0, .slice none 0 0, .int .i64 0, .int .i64 0, .int .i64 0, .slice none 0 0, .bool false, .bool false, .slice none 0 0]) RZ)
  have HB2 := hide (below_setRow HB1.out (show w.heap.size ≤ w.heap.size + 1 by omega) #[.int .i64 0, .int .i64 0, .slice none 0 0, .int .i64 0, .slice none 0 0, .int .i64 0, .slice none 0 0, .int .i64 0, .int .i64 0, .int .i64 0, .slice none 0 0, .bool false, .bool false, .slice none 0 0])
  go_wp2_with (refine wpList_store_row (by rfl) 84 _ _ (by rfl) (w.heap.size + 1) [.int .i64 0, .int .i64 0, .slice none 0 0, .int .i64 0, .slice none 0 0, .int .i64 0, .slice none 0 0, .int .i64 0, .int .i64 0, .int .i64 0, .slice none 0 0, .bool false, .bool false, .slice none 0 0] (by rfl) (by rfl) 84 [.int .i64 0, .int .i64 0, .slice none 0 0, .int .i64 0, .slice none 0 0, .int .i64 0, .slice none 0 0, .int .i64 0, .int .i64 0, .int .i64 0, .slice none 0 0, .bool false, .bool false, .slice none 0 0] RZ (by kernel_rfl) rfl (by intro u hu; simp at hu; rcases hu with rfl | rfl | rfl | rfl | rfl | rfl | rfl | rfl | rfl | rfl | rfl | rfl | rfl | rfl <;> rfl) ?_)
  generalize w1.setRow (w.heap.size + 1) #[.int .i64 0, .int .i64 0, .slice none 0 0, .int .i64 0, .slice none 0 0, .int .i64 0, .slice none 0 0, .int .i64 0, .int .i64 0, .int .i64 0, .slice none 0 0, .bool false, .bool false, .slice none 0 0] = V2 at *
  have z0 := RowIs.cell (j := 0) RZ2.out rfl
  have z1 := RowIs.cell (j := 1) RZ2.out rfl
  have z2 := RowIs.cell (j := 2) RZ2.out rfl
  have z3 := RowIs.cell (j := 3) RZ2.out rfl
  have z4 := RowIs.cell (j := 4) RZ2.out rfl
  have z5 := RowIs.cell (j := 5) RZ2.out rfl
  have z6 := RowIs.cell (j := 6) RZ2.out rfl
  have z7 := RowIs.cell (j := 7) RZ2.out rfl
  have z8 := RowIs.cell (j := 8) RZ2.out rfl
  have z9 := RowIs.cell (j := 9) RZ2.out rfl
  have z10 := RowIs.cell (j := 10) RZ2.out rfl
  have z11 := RowIs.cell (j := 11) RZ2.out rfl
  have z12 := RowIs.cell (j := 12) RZ2.out rfl
  have z13 := RowIs.cell (j := 13) RZ2.out rfl
  have zf := fun j => RowIs.frozen RZ2.out j
  refine bodyPost_ret (v := .tuple #[.agg #[.int .i64 0, .int .i64 0, .slice none 0 0, .int .i64 0, .slice none 0 0, .int .i64 0, .slice none 0 0, .int .i64 0, .int .i64 0, .int .i64 0, .slice none 0 0, .bool false, .bool false, .slice none 0 0], .bool false]) (by simp [results, Tryz.results42, go_sem, *]) rfl ?_
  exact ⟨rfl, HB2.out⟩
set_option maxHeartbeats 8000000 in
theorem implLinkOf (d : CnD) (ve vi vo vf : Value) (w : World) (hv : CnRd w d ve vi vo vf) (hok : okCn d = true) :
    Calls Tryz.prog 42 #[cnv d ve vi vo vf] w fun x w' => ∃ ve' vi' vo' vf' bs, x = .returned (.tuple #[.agg (lkcs0 d ve' vi' vo' vf' (.slice none 0 0)).toArray, .bool (!d.dead)]) ∧ CnOw w' bs d ve' vi' vo' vf' ∧ (∀ b ∈ bs, w.heap.size ≤ b) ∧ Below w.heap.size w w' := by
  have HV := hide hv
  obtain ⟨ae, pe, rfl, _, _⟩ := hv.e.form
  obtain ⟨ai, pi, rfl, _, _⟩ := hv.i.form
  obtain ⟨ao, po, rfl, _, _⟩ := hv.o.form
  obtain ⟨af, pf, rfl, _, _⟩ := hv.f.form
  clear hv
  have hbA : Below w.heap.size w ((w.alloc (.cells #[.int .i64 d.reg.lim, .int .i64 d.reg.top, .slice ae d.reg.es.length pe, .int .i64 d.inr, .slice ai d.inT.length pi, .int .i64 d.outr, .slice ao d.outT.length po, .int .i64 d.get, .int .i64 d.give, .int .i64 d.first, .slice af d.flows.length pf, .bool d.away, .bool d.dead] 32)).alloc (.cells #[.int .i64 0, .int .i64 0, .slice none 0 0, .int .i64 0, .slice none 0 0, .int .i64 0, .slice none 0 0, .int .i64 0, .int .i64 0, .int .i64 0, .slice none 0 0, .bool false, .bool false, .slice none 0 0] 84)) := ((Below.refl _ _).alloc (Nat.le_refl _) _).alloc (by simp) _
  have RA := (rowIs_new w 32 [.int .i64 d.reg.lim, .int .i64 d.reg.top, .slice ae d.reg.es.length pe, .int .i64 d.inr, .slice ai d.inT.length pi, .int .i64 d.outr, .slice ao d.outT.length po, .int .i64 d.get, .int .i64 d.give, .int .i64 d.first, .slice af d.flows.length pf, .bool d.away, .bool d.dead]).alloc (.cells #[.int .i64 0, .int .i64 0, .slice none 0 0, .int .i64 0, .slice none 0 0, .int .i64 0, .slice none 0 0, .int .i64 0, .int .i64 0, .int .i64 0, .slice none 0 0, .bool false, .bool false, .slice none 0 0] 84)
  have RZ := rowIs_new (w.alloc (.cells #[.int .i64 d.reg.lim, .int .i64 d.reg.top, .slice ae d.reg.es.length pe, .int .i64 d.inr, .slice ai d.inT.length pi, .int .i64 d.outr, .slice ao d.outT.length po, .int .i64 d.get, .int .i64 d.give, .int .i64 d.first, .slice af d.flows.length pf, .bool d.away, .bool d.dead] 32)) 84 [.int .i64 0, .int .i64 0, .slice none 0 0, .int .i64 0, .slice none 0 0, .int .i64 0, .slice none 0 0, .int .i64 0, .int .i64 0, .int .i64 0, .slice none 0 0, .bool false, .bool false, .slice none 0 0]
  have hsz : (w.alloc (.cells #[.int .i64 d.reg.lim, .int .i64 d.reg.top, .slice ae d.reg.es.length pe, .int .i64 d.inr, .slice ai d.inT.length pi, .int .i64 d.outr, .slice ao d.outT.length po, .int .i64 d.get, .int .i64 d.give, .int .i64 d.first, .slice af d.flows.length pf, .bool d.away, .bool d.dead] 32)).heap.size = w.heap.size + 1 := by simp
  rw [hsz] at RZ
  obtain ⟨V, hV⟩ : ∃ V, (w.alloc (.cells #[.int .i64 d.reg.lim, .int .i64 d.reg.top, .slice ae d.reg.es.length pe, .int .i64 d.inr, .slice ai d.inT.length pi, .int .i64 d.outr, .slice ao d.outT.length po, .int .i64 d.get, .int .i64 d.give, .int .i64 d.first, .slice af d.flows.length pf, .bool d.away, .bool d.dead] 32)).alloc (.cells #[.int .i64 0, .int .i64 0, .slice none 0 0, .int .i64 0, .slice none 0 0, .int .i64 0, .slice none 0 0, .int .i64 0, .int .i64 0, .int .i64 0, .slice none 0 0, .bool false, .bool false, .slice none 0 0] 84) = V := ⟨_, rfl⟩
  rw [hV] at hbA RA RZ
  have HB := hide hbA
  have HOK := hide hok
  clear hsz hbA
  go_enter Tryz.func42, Tryz.ntmps42
  go_upto_region 1 with fail
  try rw [hV]
  clear hV
  go_wp2_with (refine wpList_load_row (by rfl) 32 _ (by rfl) w.heap.size (by rfl) [.int .i64 d.reg.lim, .int .i64 d.reg.top, .slice ae d.reg.es.length pe, .int .i64 d.inr, .slice ai d.inT.length pi, .int .i64 d.outr, .slice ao d.outT.length po, .int .i64 d.get, .int .i64 d.give, .int .i64 d.first, .slice af d.flows.length pf, .bool d.away, .bool d.dead] _ 32 RA Tryz.underlying32 rfl (by kernel_rfl) ?_)
  refine (implConnRight d _ _ _ _ _ (HV.out.new HB.out)).mono ?_; rw [hok]; rintro e w1 ⟨rfl, hb1⟩
  have HRA := hide (RA.new hb1)
  have HRZ := hide (RZ.new hb1)
  replace HB := hide (bchain HB.out hb1)
  clear hb1 RA RZ hok
  go_upto_region 3 with fail
  have hD : Below w1.heap.size w1 (World.drew w1) := (Below.refl _ _).drew
  replace HRA := hide (HRA.out.new hD)
  replace HRZ := hide (HRZ.out.new hD)
  replace HB := hide (bchain HB.out hD)
  clear hD
  refine wp_region_held_drew (S := fun u => RowIs u w.heap.size 32 [.int .i64 d.reg.lim, .int .i64 d.reg.top, .slice ae d.reg.es.length pe, .int .i64 d.inr, .slice ai d.inT.length pi, .int .i64 d.outr, .slice ao d.outT.length po, .int .i64 d.get, .int .i64 d.give, .int .i64 d.first, .slice af d.flows.length pf, .bool d.away, .bool d.dead]) (by kernel_rfl) HRA.out (fun hS => ?_)
  generalize World.drew w1 = v1 at *
  refine wpAnyH_take (i := 0) (v := .agg #[.int .i64 d.reg.lim, .int .i64 d.reg.top, .slice ae d.reg.es.length pe, .int .i64 d.inr, .slice ai d.inT.length pi, .int .i64 d.outr, .slice ao d.outT.length po, .int .i64 d.get, .int .i64 d.give, .int .i64 d.first, .slice af d.flows.length pf, .bool d.away, .bool d.dead]) rfl (by kernel_rfl) (by kernel_rfl) (by kernel_rfl) (fun _ _ _ h => h) (Or.inl ⟨by kernel_rfl, ?ld⟩) hS ?_
  case ld =>
    intro uu hu
    have z0 := RowIs.cell (j := 0) hu rfl
    have z1 := RowIs.cell (j := 1) hu rfl
    have z2 := RowIs.cell (j := 2) hu rfl
    have z3 := RowIs.cell (j := 3) hu rfl
    have z4 := RowIs.cell (j := 4) hu rfl
    have z5 := RowIs.cell (j := 5) hu rfl
    have z6 := RowIs.cell (j := 6) hu rfl
    have z7 := RowIs.cell (j := 7) hu rfl
    have z8 := RowIs.cell (j := 8) hu rfl
    have z9 := RowIs.cell (j := 9) hu rfl
    have z10 := RowIs.cell (j := 10) hu rfl
    have z11 := RowIs.cell (j := 11) hu rfl
    have z12 := RowIs.cell (j := 12) hu rfl
    clear hu
    go_simp
  refine wpAnyH_take (i := 3) (v := ?_) rfl (by kernel_rfl) (by kernel_rfl) (by kernel_rfl) (fun _ _ _ h => h) (Or.inl ⟨by rfl, ?_⟩) hS ?_; rotate_left; focus (intro w hw; clear hw; go_simp; try with_reducible rfl)
  refine wpAnyH_take (i := 4) (v := .bool d.dead) rfl (by kernel_rfl) (by kernel_rfl) (by kernel_rfl) (fun _ _ _ h => h) (Or.inl ⟨by kernel_rfl, ?ld⟩) hS ?_; case ld => (intro uu hu; have z2 := RowIs.cell (j := 12) hu rfl; have z8 := hu.lt; clear hu; go_simp)
  refine wpAnyH_take (i := 5) (v := ?_) rfl (by kernel_rfl) (by kernel_rfl) (by kernel_rfl) (fun _ _ _ h => h) (Or.inl ⟨by rfl, ?_⟩) hS ?_; rotate_left; focus (intro w hw; clear hw; go_simp; try with_reducible rfl)
  refine wpAnyH_ready (rs := [1]) (by kernel_rfl) (by simp) ?_; refine AllReadyH.cons rfl (fun K hK => ?_) AllReadyH.nil; go_simp
  refine (implConnApart d _ _ _ _ _ (HV.out.new HB.out) HOK.out).mono ?_; rintro e v2 ⟨vn, rfl, hnew, hb2⟩
  obtain ⟨w1', w2', w3', w4', bs, rfl, hcn, hlo⟩ := hnew
  obtain ⟨a1, p1, rfl, _, _⟩ := hcn.rd.e.form
  obtain ⟨a2, p2, rfl, _, _⟩ := hcn.rd.i.form
  obtain ⟨a3, p3, rfl, _, _⟩ := hcn.rd.o.form
  obtain ⟨a4, p4, rfl, _, _⟩ := hcn.rd.f.form
  replace HRA := hide (HRA.out.new hb2)
  have hz1 := HRZ.out.lt
  replace HRZ := hide (HRZ.out.new hb2)
  have HCN := hide hcn
  have HLO : Hid (∀ b ∈ bs, w.heap.size + 1 < b) := fun b hb => by have := hlo b hb; omega
  replace HB := hide (bchain HB.out hb2)
  refine hK.out _ _ HRA.out (fun hS => ?_)
  clear hK K hcn hlo hb2 hz1
  try simp only [Act.put, List.getElem_toArray, List.getElem_cons_succ, List.getElem_cons_zero, List.setIfInBounds_toArray, List.set_cons_zero, List.set_cons_succ]
  refine wpAnyH_take (i := 2) (v := ?_) rfl (by kernel_rfl) (by kernel_rfl) (by kernel_rfl) (fun _ _ _ h => h) (Or.inl ⟨by rfl, ?_⟩) hS ?_; rotate_left; focus (intro w hw; clear hw; go_simp; try with_reducible rfl)
  refine wpAnyH_ready (rs := [6]) (by kernel_rfl) (by simp) ?_
  refine AllReadyH.cons rfl (fun K hK => ?_) AllReadyH.nil
  try simp only [Act.put, List.getElem_toArray, List.getElem_cons_succ, List.getElem_cons_zero, List.setIfInBounds_toArray, List.set_cons_zero, List.set_cons_succ]
  rw [if_pos (by kernel_rfl)]
  refine wp_store_row 84 _ _ (by rfl) (w.heap.size + 1) #[.int .i64 d.reg.lim, .int .i64 d.reg.top, .slice a1 d.reg.es.length p1, .int .i64 d.inr, .slice a2 d.inT.length p2, .int .i64 d.outr, .slice a3 d.outT.length p3, .int .i64 d.get, .int .i64 d.give, .int .i64 d.first, .slice a4 d.flows.length p4, .bool d.away, .bool d.dead, .slice none 0 0] (by rfl) (by rfl) 84 #[.int .i64 0, .int .i64 0, .slice none 0 0, .int .i64 0, .slice none 0 0, .int .i64 0, .slice none 0 0, .int .i64 0, .int .i64 0, .int .i64 0, .slice none 0 0, .bool false, .bool false, .slice none 0 0] HRZ.out (by kernel_rfl) rfl (Array.all_eq_true_iff_forall_mem.2 (by intro u hu; simp at hu; rcases hu with rfl | rfl | rfl | rfl | rfl | rfl | rfl | rfl | rfl | rfl | rfl | rfl | rfl | rfl <;> rfl)) ?_
  have RZ2 := hide (rowIs_setRow (cs' := [.int .i64 d.reg.lim, .int .i64 d.reg.top, .slice a1 d.reg.es.length p1, .int .i64 d.inr, .slice a2 d.inT.length p2, .int .i64 d.outr, .slice a3 d.outT.length p3, .int .i64 d.get, .int .i64 d.give, .int .i64 d.first, .slice a4 d.flows.length p4, .bool d.away, .bool d.dead, .slice none 0 0]) HRZ.out)
  have HB2 := hide (below_setRow HB.out (show w.heap.size ≤ w.heap.size + 1 by omega) #[.int .i64 d.reg.lim, .int .i64 d.reg.top, .slice a1 d.reg.es.length p1, .int .i64 d.inr, .slice a2 d.inT.length p2, .int .i64 d.outr, .slice a3 d.outT.length p3, .int .i64 d.get, .int .i64 d.give, .int .i64 d.first, .slice a4 d.flows.length p4, .bool d.away, .bool d.dead, .slice none 0 0])
  have HRA2 := hide (HRA.out.kept (setRow_other v2 (w.heap.size + 1) #[.int .i64 d.reg.lim, .int .i64 d.reg.top, .slice a1 d.reg.es.length p1, .int .i64 d.inr, .slice a2 d.inT.length p2, .int .i64 d.outr, .slice a3 d.outT.length p3, .int .i64 d.get, .int .i64 d.give, .int .i64 d.first, .slice a4 d.flows.length p4, .bool d.away, .bool d.dead, .slice none 0 0] w.heap.size (by omega)))
  have HCN2 := hide (HCN.out.keep (w' := v2.setRow (w.heap.size + 1) #[.int .i64 d.reg.lim, .int .i64 d.reg.top, .slice a1 d.reg.es.length p1, .int .i64 d.inr, .slice a2 d.inT.length p2, .int .i64 d.outr, .slice a3 d.outT.length p3, .int .i64 d.get, .int .i64 d.give, .int .i64 d.first, .slice a4 d.flows.length p4, .bool d.away, .bool d.dead, .slice none 0 0]) (by rw [setRow_size]; exact Nat.le_refl _) (fun b hb => setRow_other _ _ _ _ (by have := HLO.out b hb; omega)))
  refine hK.out _ _ HRA2.out (fun hS => ?_)
  clear hK K HRA HRZ HB HCN
  try simp only [Act.put, List.getElem_toArray, List.getElem_cons_succ, List.getElem_cons_zero, List.setIfInBounds_toArray, List.set_cons_zero, List.set_cons_succ]
  generalize v2.setRow (w.heap.size + 1) #[.int .i64 d.reg.lim, .int .i64 d.reg.top, .slice a1 d.reg.es.length p1, .int .i64 d.inr, .slice a2 d.inT.length p2, .int .i64 d.outr, .slice a3 d.outT.length p3, .int .i64 d.get, .int .i64 d.give, .int .i64 d.first, .slice a4 d.flows.length p4, .bool d.away, .bool d.dead, .slice none 0 0] = V2 at *
  refine wpAnyH_take (i := 7) (v := ?_) rfl (by kernel_rfl) (by kernel_rfl) (by kernel_rfl) (fun _ _ _ h => h) (Or.inl ⟨by rfl, ?_⟩) hS ?_; rotate_left; focus (intro w hw; clear hw; go_simp; try with_reducible rfl)
  refine wpAnyH_done (by kernel_rfl) ?_ _
  have z0 := RowIs.cell (j := 0) RZ2.out rfl
  have z1 := RowIs.cell (j := 1) RZ2.out rfl
  have z2 := RowIs.cell (j := 2) RZ2.out rfl
  have z3 := RowIs.cell (j := 3) RZ2.out rfl
  have z4 := RowIs.cell (j := 4) RZ2.out rfl
  have z5 := RowIs.cell (j := 5) RZ2.out rfl
  have z6 := RowIs.cell (j := 6) RZ2.out rfl
  have z7 := RowIs.cell (j := 7) RZ2.out rfl
  have z8 := RowIs.cell (j := 8) RZ2.out rfl
  have z9 := RowIs.cell (j := 9) RZ2.out rfl
  have z10 := RowIs.cell (j := 10) RZ2.out rfl
  have z11 := RowIs.cell (j := 11) RZ2.out rfl
  have z12 := RowIs.cell (j := 12) RZ2.out rfl
  have z13 := RowIs.cell (j := 13) RZ2.out rfl
  have zf := fun j => RowIs.frozen RZ2.out j
  go_wp2_with fail
  refine bodyPost_ret (v := .tuple #[.agg #[.int .i64 d.reg.lim, .int .i64 d.reg.top, .slice a1 d.reg.es.length p1, .int .i64 d.inr, .slice a2 d.inT.length p2, .int .i64 d.outr, .slice a3 d.outT.length p3, .int .i64 d.get, .int .i64 d.give, .int .i64 d.first, .slice a4 d.flows.length p4, .bool d.away, .bool d.dead, .slice none 0 0], .bool (!d.dead)]) (by simp [results, Tryz.results42, go_sem, *]) rfl ?_
  exact ⟨_, _, _, _, bs, rfl, HCN2.out, fun b hb => by have := HLO.out b hb; omega, HB2.out⟩
end Go.Proofs.YtfmeinkhdgbgjaaGreat
/- The program's link: data comes in. -/
namespace Go.Proofs.YtfmeinkhdgbgjaaGreat
open Go.RowKit
set_option maxRecDepth 100000
set_option linter.unusedSimpArgs false
set_option linter.unusedVariables false
theorem gr_fits {w n : Int} (hw : winB w = true) (h1 : 1 ≤ n) (h2 : n ≤ 16777215) (h3 : w + n ≤ 16777215) : grV w n = (w + n, true) := by unfold grV; rw [if_pos ⟨hw, inB_of h1 h2, h3⟩]
theorem grant_shape (d : CnD) (id n : Int) : (grantD d id n).1.reg = d.reg ∧ (grantD d id n).1.flows.length = d.flows.length ∧ (grantD d id n).2.length ≤ 1 := by
  unfold grantD
  split
  · exact ⟨rfl, rfl, by simp⟩
  · split
    · exact ⟨rfl, rfl, by simp⟩
    · unfold atFl
      cases atE d.reg.es id with
      | none => exact ⟨rfl, rfl, by simp⟩
      | some k => exact ⟨rfl, by simp, by simp⟩
end Go.Proofs.YtfmeinkhdgbgjaaGreat
