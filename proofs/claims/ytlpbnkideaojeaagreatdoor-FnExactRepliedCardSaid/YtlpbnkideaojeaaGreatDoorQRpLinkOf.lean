/- Lemmas. -/
import Derived.Test.YtlpbnkideaojeaaGreatDoorQRpG33
namespace Go.Proofs.YtlpbnkideaojeaaGreatDoor
open Go.RowKit
open List renaming getElem_toArray → aI, getElem_cons_succ → aJ, getElem_cons_zero → aK, setIfInBounds_toArray → aL, set_cons_zero → aM, set_cons_succ → aN
set_option maxRecDepth 100000
set_option linter.unusedSimpArgs false
set_option linter.unusedVariables false
abbrev abb (d : aH) (ve vi vo vf tv : Value) : List Value := [.int .i64 d.reg.lim, .int .i64 d.reg.top, ve, .int .i64 d.inr, vi, .int .i64 d.au, vo, .int .i64 d.get, .int .i64 d.give, .int .i64 d.first, vf, .bool d.away, .bool d.dead, tv]
set_option maxHeartbeats 8000000 in
theorem aa6 (d : aH) (ve vi vo vf : Value) (w : World) (hv : je w d ve vi vo vf) (hok : dV d = false) :
  Calls Tryz.prog 23 #[bH d ve vi vo vf] w fun x w' => x = .returned (.tuple #[.agg #[.int .i64 0, .int .i64 0, .slice none 0 0, .int .i64 0, .slice none 0 0, .int .i64 0, .slice none 0 0, .int .i64 0, .int .i64 0, .int .i64 0, .slice none 0 0, .bool false, .bool false, .slice none 0 0], .bool false]) ∧ Below w.heap.size w w' := by
 have HV := hide hv
 obtain ⟨ae, pe, rfl, _, _⟩ := hv.e.form
 obtain ⟨ai, pi, rfl, _, _⟩ := hv.i.form
 obtain ⟨ao, po, rfl, _, _⟩ := hv.o.form
 obtain ⟨af, pf, rfl, _, _⟩ := hv.f.form
 clear hv
 have aP : Below w.heap.size w ((w.alloc (.cells #[.int .i64 d.reg.lim, .int .i64 d.reg.top, .slice ae d.reg.es.length pe, .int .i64 d.inr, .slice ai d.inT.length pi, .int .i64 d.au, .slice ao d.outT.length po, .int .i64 d.get, .int .i64 d.give, .int .i64 d.first, .slice af d.flows.length pf, .bool d.away, .bool d.dead] 40)).alloc (.cells #[.int .i64 0, .int .i64 0, .slice none 0 0, .int .i64 0, .slice none 0 0, .int .i64 0, .slice none 0 0, .int .i64 0, .int .i64 0, .int .i64 0, .slice none 0 0, .bool false, .bool false, .slice none 0 0] 61)) := ((Below.refl _ _).alloc (Nat.le_refl _) _).alloc (by simp) _
 have RA := (aB w 40 [.int .i64 d.reg.lim, .int .i64 d.reg.top, .slice ae d.reg.es.length pe, .int .i64 d.inr, .slice ai d.inT.length pi, .int .i64 d.au, .slice ao d.outT.length po, .int .i64 d.get, .int .i64 d.give, .int .i64 d.first, .slice af d.flows.length pf, .bool d.away, .bool d.dead]).alloc (.cells #[.int .i64 0, .int .i64 0, .slice none 0 0, .int .i64 0, .slice none 0 0, .int .i64 0, .slice none 0 0, .int .i64 0, .int .i64 0, .int .i64 0, .slice none 0 0, .bool false, .bool false, .slice none 0 0] 61)
 have RZ := aB (w.alloc (.cells #[.int .i64 d.reg.lim, .int .i64 d.reg.top, .slice ae d.reg.es.length pe, .int .i64 d.inr, .slice ai d.inT.length pi, .int .i64 d.au, .slice ao d.outT.length po, .int .i64 d.get, .int .i64 d.give, .int .i64 d.first, .slice af d.flows.length pf, .bool d.away, .bool d.dead] 40)) 61 [.int .i64 0, .int .i64 0, .slice none 0 0, .int .i64 0, .slice none 0 0, .int .i64 0, .slice none 0 0, .int .i64 0, .int .i64 0, .int .i64 0, .slice none 0 0, .bool false, .bool false, .slice none 0 0]
 have hsz : (w.alloc (.cells #[.int .i64 d.reg.lim, .int .i64 d.reg.top, .slice ae d.reg.es.length pe, .int .i64 d.inr, .slice ai d.inT.length pi, .int .i64 d.au, .slice ao d.outT.length po, .int .i64 d.get, .int .i64 d.give, .int .i64 d.first, .slice af d.flows.length pf, .bool d.away, .bool d.dead] 40)).heap.size = w.heap.size + 1 := by simp
 rw [hsz] at RZ
 obtain ⟨V, hV⟩ : ∃ V, (w.alloc (.cells #[.int .i64 d.reg.lim, .int .i64 d.reg.top, .slice ae d.reg.es.length pe, .int .i64 d.inr, .slice ai d.inT.length pi, .int .i64 d.au, .slice ao d.outT.length po, .int .i64 d.get, .int .i64 d.give, .int .i64 d.first, .slice af d.flows.length pf, .bool d.away, .bool d.dead] 40)).alloc (.cells #[.int .i64 0, .int .i64 0, .slice none 0 0, .int .i64 0, .slice none 0 0, .int .i64 0, .slice none 0 0, .int .i64 0, .int .i64 0, .int .i64 0, .slice none 0 0, .bool false, .bool false, .slice none 0 0] 61) = V := ⟨_, rfl⟩
 rw [hV] at aP RA RZ
 have HB := hide aP
 clear hsz aP
 go_enter Tryz.func23, Tryz.ntmps23
 go_upto_region 1 with fail
 try rw [hV]
 clear hV
 go_wp2_with (refine wpList_load_row (by rfl) 40 _ (by rfl) w.heap.size (by rfl) [.int .i64 d.reg.lim, .int .i64 d.reg.top, .slice ae d.reg.es.length pe, .int .i64 d.inr, .slice ai d.inT.length pi, .int .i64 d.au, .slice ao d.outT.length po, .int .i64 d.get, .int .i64 d.give, .int .i64 d.first, .slice af d.flows.length pf, .bool d.away, .bool d.dead] _ 40 RA Tryz.underlying40 rfl (by kernel_rfl) ?_)
 refine (Qu d _ _ _ _ _ (HV.out.new HB.out)).mono ?_; rw [hok]; rintro e w1 ⟨rfl, hb1⟩
 replace RZ := RZ.new hb1
 have HB1 := hide (ah HB.out hb1)
 clear hb1
 have cO := hide (dW (cs' := [.int .i64 0, .int .i64 0, .slice none 0 0, .int .i64 0, .slice none 0 0, .int .i64 0, .slice none 0 0, .int .i64 0, .int .i64 0, .int .i64 0, .slice none 0 0, .bool false, .bool false, .slice none 0 0]) RZ)
 have HB2 := hide (below_setRow HB1.out (show w.heap.size ≤ w.heap.size + 1 by omega) #[.int .i64 0, .int .i64 0, .slice none 0 0, .int .i64 0, .slice none 0 0, .int .i64 0, .slice none 0 0, .int .i64 0, .int .i64 0, .int .i64 0, .slice none 0 0, .bool false, .bool false, .slice none 0 0])
 go_wp2_with (refine wpList_store_row (by rfl) 61 _ _ (by rfl) (w.heap.size + 1) [.int .i64 0, .int .i64 0, .slice none 0 0, .int .i64 0, .slice none 0 0, .int .i64 0, .slice none 0 0, .int .i64 0, .int .i64 0, .int .i64 0, .slice none 0 0, .bool false, .bool false, .slice none 0 0] (by rfl) (by rfl) 61 [.int .i64 0, .int .i64 0, .slice none 0 0, .int .i64 0, .slice none 0 0, .int .i64 0, .slice none 0 0, .int .i64 0, .int .i64 0, .int .i64 0, .slice none 0 0, .bool false, .bool false, .slice none 0 0] RZ (by kernel_rfl) rfl (by intro u hu; simp at hu; rcases hu with rfl | rfl | rfl | rfl | rfl | rfl | rfl | rfl | rfl | rfl | rfl | rfl | rfl | rfl <;> rfl) ?_)
 generalize w1.setRow (w.heap.size + 1) #[.int .i64 0, .int .i64 0, .slice none 0 0, .int .i64 0, .slice none 0 0, .int .i64 0, .slice none 0 0, .int .i64 0, .int .i64 0, .int .i64 0, .slice none 0 0, .bool false, .bool false, .slice none 0 0] = V2 at *
 have z0 := ak 0 cO.out rfl
 have z1 := ak 1 cO.out rfl
 have z2 := ak 2 cO.out rfl
 have z3 := ak 3 cO.out rfl
 have z4 := ak 4 cO.out rfl
 have z5 := ak 5 cO.out rfl
 have z6 := ak 6 cO.out rfl
 have z7 := ak 7 cO.out rfl
 have z8 := ak 8 cO.out rfl
 have z9 := ak 9 cO.out rfl
 have jf := ak 10 cO.out rfl
 have jg := ak 11 cO.out rfl
 have z12 := ak 12 cO.out rfl
 have Di := ak 13 cO.out rfl
 have zf := fun j => aj.frozen cO.out j
 refine bodyPost_ret (v := .tuple #[.agg #[.int .i64 0, .int .i64 0, .slice none 0 0, .int .i64 0, .slice none 0 0, .int .i64 0, .slice none 0 0, .int .i64 0, .int .i64 0, .int .i64 0, .slice none 0 0, .bool false, .bool false, .slice none 0 0], .bool false]) (by simp [results, Tryz.results23, go_sem, *]) rfl ?_
 exact ⟨rfl, HB2.out⟩
set_option maxHeartbeats 8000000 in
theorem aa8 (d : aH) (ve vi vo vf : Value) (w : World) (hv : je w d ve vi vo vf) (hok : dV d = true) :
  Calls Tryz.prog 23 #[bH d ve vi vo vf] w fun x w' => ∃ ve' xk xq xu bs, x = .returned (.tuple #[.agg (abb d ve' xk xq xu (.slice none 0 0)).toArray, .bool (!d.dead)]) ∧ dY w' bs d ve' xk xq xu ∧ (∀ b ∈ bs, w.heap.size ≤ b) ∧ Below w.heap.size w w' := by
 have HV := hide hv
 obtain ⟨ae, pe, rfl, _, _⟩ := hv.e.form
 obtain ⟨ai, pi, rfl, _, _⟩ := hv.i.form
 obtain ⟨ao, po, rfl, _, _⟩ := hv.o.form
 obtain ⟨af, pf, rfl, _, _⟩ := hv.f.form
 clear hv
 have aP : Below w.heap.size w ((w.alloc (.cells #[.int .i64 d.reg.lim, .int .i64 d.reg.top, .slice ae d.reg.es.length pe, .int .i64 d.inr, .slice ai d.inT.length pi, .int .i64 d.au, .slice ao d.outT.length po, .int .i64 d.get, .int .i64 d.give, .int .i64 d.first, .slice af d.flows.length pf, .bool d.away, .bool d.dead] 40)).alloc (.cells #[.int .i64 0, .int .i64 0, .slice none 0 0, .int .i64 0, .slice none 0 0, .int .i64 0, .slice none 0 0, .int .i64 0, .int .i64 0, .int .i64 0, .slice none 0 0, .bool false, .bool false, .slice none 0 0] 61)) := ((Below.refl _ _).alloc (Nat.le_refl _) _).alloc (by simp) _
 have RA := (aB w 40 [.int .i64 d.reg.lim, .int .i64 d.reg.top, .slice ae d.reg.es.length pe, .int .i64 d.inr, .slice ai d.inT.length pi, .int .i64 d.au, .slice ao d.outT.length po, .int .i64 d.get, .int .i64 d.give, .int .i64 d.first, .slice af d.flows.length pf, .bool d.away, .bool d.dead]).alloc (.cells #[.int .i64 0, .int .i64 0, .slice none 0 0, .int .i64 0, .slice none 0 0, .int .i64 0, .slice none 0 0, .int .i64 0, .int .i64 0, .int .i64 0, .slice none 0 0, .bool false, .bool false, .slice none 0 0] 61)
 have RZ := aB (w.alloc (.cells #[.int .i64 d.reg.lim, .int .i64 d.reg.top, .slice ae d.reg.es.length pe, .int .i64 d.inr, .slice ai d.inT.length pi, .int .i64 d.au, .slice ao d.outT.length po, .int .i64 d.get, .int .i64 d.give, .int .i64 d.first, .slice af d.flows.length pf, .bool d.away, .bool d.dead] 40)) 61 [.int .i64 0, .int .i64 0, .slice none 0 0, .int .i64 0, .slice none 0 0, .int .i64 0, .slice none 0 0, .int .i64 0, .int .i64 0, .int .i64 0, .slice none 0 0, .bool false, .bool false, .slice none 0 0]
 have hsz : (w.alloc (.cells #[.int .i64 d.reg.lim, .int .i64 d.reg.top, .slice ae d.reg.es.length pe, .int .i64 d.inr, .slice ai d.inT.length pi, .int .i64 d.au, .slice ao d.outT.length po, .int .i64 d.get, .int .i64 d.give, .int .i64 d.first, .slice af d.flows.length pf, .bool d.away, .bool d.dead] 40)).heap.size = w.heap.size + 1 := by simp
 rw [hsz] at RZ
 obtain ⟨V, hV⟩ : ∃ V, (w.alloc (.cells #[.int .i64 d.reg.lim, .int .i64 d.reg.top, .slice ae d.reg.es.length pe, .int .i64 d.inr, .slice ai d.inT.length pi, .int .i64 d.au, .slice ao d.outT.length po, .int .i64 d.get, .int .i64 d.give, .int .i64 d.first, .slice af d.flows.length pf, .bool d.away, .bool d.dead] 40)).alloc (.cells #[.int .i64 0, .int .i64 0, .slice none 0 0, .int .i64 0, .slice none 0 0, .int .i64 0, .slice none 0 0, .int .i64 0, .int .i64 0, .int .i64 0, .slice none 0 0, .bool false, .bool false, .slice none 0 0] 61) = V := ⟨_, rfl⟩
 rw [hV] at aP RA RZ
 have HB := hide aP
 have gL := hide hok
 clear hsz aP
 go_enter Tryz.func23, Tryz.ntmps23
 go_upto_region 1 with fail
 try rw [hV]
 clear hV
 go_wp2_with (refine wpList_load_row (by rfl) 40 _ (by rfl) w.heap.size (by rfl) [.int .i64 d.reg.lim, .int .i64 d.reg.top, .slice ae d.reg.es.length pe, .int .i64 d.inr, .slice ai d.inT.length pi, .int .i64 d.au, .slice ao d.outT.length po, .int .i64 d.get, .int .i64 d.give, .int .i64 d.first, .slice af d.flows.length pf, .bool d.away, .bool d.dead] _ 40 RA Tryz.underlying40 rfl (by kernel_rfl) ?_)
 refine (Qu d _ _ _ _ _ (HV.out.new HB.out)).mono ?_; rw [hok]; rintro e w1 ⟨rfl, hb1⟩
 have dA := hide (RA.new hb1)
 have aZ := hide (RZ.new hb1)
 replace HB := hide (ah HB.out hb1)
 clear hb1 RA RZ hok
 go_upto_region 3 with fail
 have hD : Below w1.heap.size w1 (World.drew w1) := (Below.refl _ _).drew
 replace dA := hide (dA.out.new hD)
 replace aZ := hide (aZ.out.new hD)
 replace HB := hide (ah HB.out hD)
 clear hD
 refine wp_region_held_drew (S := fun u => aj u w.heap.size 40 [.int .i64 d.reg.lim, .int .i64 d.reg.top, .slice ae d.reg.es.length pe, .int .i64 d.inr, .slice ai d.inT.length pi, .int .i64 d.au, .slice ao d.outT.length po, .int .i64 d.get, .int .i64 d.give, .int .i64 d.first, .slice af d.flows.length pf, .bool d.away, .bool d.dead]) (by kernel_rfl) dA.out (fun hS => ?_)
 generalize World.drew w1 = v1 at *
 refine wpAnyH_take (i := 0) (v := .agg #[.int .i64 d.reg.lim, .int .i64 d.reg.top, .slice ae d.reg.es.length pe, .int .i64 d.inr, .slice ai d.inT.length pi, .int .i64 d.au, .slice ao d.outT.length po, .int .i64 d.get, .int .i64 d.give, .int .i64 d.first, .slice af d.flows.length pf, .bool d.away, .bool d.dead]) rfl (by kernel_rfl) (by kernel_rfl) (by kernel_rfl) (fun _ _ _ h => h) (Or.inl ⟨by kernel_rfl, ?ld⟩) hS ?_
 case ld =>
  intro uu hu
  obtain ⟨z0, z1, z2, z3, z4, z5, z6, z7, z8, z9, jf, jg, z12⟩ := dw hu
  clear hu
  go_simp
 refine wpAnyH_take (i := 3) (v := ?_) rfl (by kernel_rfl) (by kernel_rfl) (by kernel_rfl) (fun _ _ _ h => h) (Or.inl ⟨by rfl, ?_⟩) hS ?_; rotate_left; focus (intro w hw; clear hw; go_simp; try with_reducible rfl)
 refine wpAnyH_take (i := 4) (v := .bool d.dead) rfl (by kernel_rfl) (by kernel_rfl) (by kernel_rfl) (fun _ _ _ h => h) (Or.inl ⟨by kernel_rfl, ?ld⟩) hS ?_; case ld => (intro uu hu; have z2 := ak 12 hu rfl; have z8 := hu.lt; clear hu; go_simp)
 refine wpAnyH_take (i := 5) (v := ?_) rfl (by kernel_rfl) (by kernel_rfl) (by kernel_rfl) (fun _ _ _ h => h) (Or.inl ⟨by rfl, ?_⟩) hS ?_; rotate_left; focus (intro w hw; clear hw; go_simp; try with_reducible rfl)
 refine wpAnyH_ready (rs := [1]) (by kernel_rfl) (by simp) ?_; refine AllReadyH.cons rfl (fun K hK => ?_) AllReadyH.nil; go_simp
 refine (Sn d _ _ _ _ _ (HV.out.new HB.out) gL.out).mono ?_; rintro e v2 ⟨vn, rfl, hnew, hb2⟩
 obtain ⟨w1', w2', w3', w4', bs, rfl, hcn, hlo⟩ := hnew
 obtain ⟨a1, p1, rfl, _, _⟩ := hcn.rd.e.form
 obtain ⟨a2, p2, rfl, _, _⟩ := hcn.rd.i.form
 obtain ⟨a3, p3, rfl, _, _⟩ := hcn.rd.o.form
 obtain ⟨a4, p4, rfl, _, _⟩ := hcn.rd.f.form
 replace dA := hide (dA.out.new hb2)
 have hz1 := aZ.out.lt
 replace aZ := hide (aZ.out.new hb2)
 have fH := hide hcn
 have Ct : Hid (∀ b ∈ bs, w.heap.size + 1 < b) := fun b hb => by have := hlo b hb; omega
 replace HB := hide (ah HB.out hb2)
 refine hK.out _ _ dA.out (fun hS => ?_)
 clear hK K hcn hlo hb2 hz1
 try simp only [Act.put, aI, aJ, aK, aL, aM, aN]
 refine wpAnyH_take (i := 2) (v := ?_) rfl (by kernel_rfl) (by kernel_rfl) (by kernel_rfl) (fun _ _ _ h => h) (Or.inl ⟨by rfl, ?_⟩) hS ?_; rotate_left; focus (intro w hw; clear hw; go_simp; try with_reducible rfl)
 refine wpAnyH_ready (rs := [6]) (by kernel_rfl) (by simp) ?_
 refine AllReadyH.cons rfl (fun K hK => ?_) AllReadyH.nil
 try simp only [Act.put, aI, aJ, aK, aL, aM, aN]
 rw [if_pos (by kernel_rfl)]
 refine wp_store_row 61 _ _ (by rfl) (w.heap.size + 1) #[.int .i64 d.reg.lim, .int .i64 d.reg.top, .slice a1 d.reg.es.length p1, .int .i64 d.inr, .slice a2 d.inT.length p2, .int .i64 d.au, .slice a3 d.outT.length p3, .int .i64 d.get, .int .i64 d.give, .int .i64 d.first, .slice a4 d.flows.length p4, .bool d.away, .bool d.dead, .slice none 0 0] (by rfl) (by rfl) 61 #[.int .i64 0, .int .i64 0, .slice none 0 0, .int .i64 0, .slice none 0 0, .int .i64 0, .slice none 0 0, .int .i64 0, .int .i64 0, .int .i64 0, .slice none 0 0, .bool false, .bool false, .slice none 0 0] aZ.out (by kernel_rfl) rfl (Array.all_eq_true_iff_forall_mem.2 (by intro u hu; simp at hu; rcases hu with rfl | rfl | rfl | rfl | rfl | rfl | rfl | rfl | rfl | rfl | rfl | rfl | rfl | rfl <;> rfl)) ?_
 have cO := hide (dW (cs' := [.int .i64 d.reg.lim, .int .i64 d.reg.top, .slice a1 d.reg.es.length p1, .int .i64 d.inr, .slice a2 d.inT.length p2, .int .i64 d.au, .slice a3 d.outT.length p3, .int .i64 d.get, .int .i64 d.give, .int .i64 d.first, .slice a4 d.flows.length p4, .bool d.away, .bool d.dead, .slice none 0 0]) aZ.out)
 have HB2 := hide (below_setRow HB.out (show w.heap.size ≤ w.heap.size + 1 by omega) #[.int .i64 d.reg.lim, .int .i64 d.reg.top, .slice a1 d.reg.es.length p1, .int .i64 d.inr, .slice a2 d.inT.length p2, .int .i64 d.au, .slice a3 d.outT.length p3, .int .i64 d.get, .int .i64 d.give, .int .i64 d.first, .slice a4 d.flows.length p4, .bool d.away, .bool d.dead, .slice none 0 0])
 have abd := hide (dA.out.kept (setRow_other v2 (w.heap.size + 1) #[.int .i64 d.reg.lim, .int .i64 d.reg.top, .slice a1 d.reg.es.length p1, .int .i64 d.inr, .slice a2 d.inT.length p2, .int .i64 d.au, .slice a3 d.outT.length p3, .int .i64 d.get, .int .i64 d.give, .int .i64 d.first, .slice a4 d.flows.length p4, .bool d.away, .bool d.dead, .slice none 0 0] w.heap.size (by omega)))
 have pG := hide (fH.out.keep (w' := v2.setRow (w.heap.size + 1) #[.int .i64 d.reg.lim, .int .i64 d.reg.top, .slice a1 d.reg.es.length p1, .int .i64 d.inr, .slice a2 d.inT.length p2, .int .i64 d.au, .slice a3 d.outT.length p3, .int .i64 d.get, .int .i64 d.give, .int .i64 d.first, .slice a4 d.flows.length p4, .bool d.away, .bool d.dead, .slice none 0 0]) (by rw [setRow_size]; exact Nat.le_refl _) (fun b hb => setRow_other _ _ _ _ (by have := Ct.out b hb; omega)))
 refine hK.out _ _ abd.out (fun hS => ?_)
 clear hK K dA aZ HB fH
 try simp only [Act.put, aI, aJ, aK, aL, aM, aN]
 generalize v2.setRow (w.heap.size + 1) #[.int .i64 d.reg.lim, .int .i64 d.reg.top, .slice a1 d.reg.es.length p1, .int .i64 d.inr, .slice a2 d.inT.length p2, .int .i64 d.au, .slice a3 d.outT.length p3, .int .i64 d.get, .int .i64 d.give, .int .i64 d.first, .slice a4 d.flows.length p4, .bool d.away, .bool d.dead, .slice none 0 0] = V2 at *
 refine wpAnyH_take (i := 7) (v := ?_) rfl (by kernel_rfl) (by kernel_rfl) (by kernel_rfl) (fun _ _ _ h => h) (Or.inl ⟨by rfl, ?_⟩) hS ?_; rotate_left; focus (intro w hw; clear hw; go_simp; try with_reducible rfl)
 refine wpAnyH_done (by kernel_rfl) ?_ _
 have z0 := ak 0 cO.out rfl
 have z1 := ak 1 cO.out rfl
 have z2 := ak 2 cO.out rfl
 have z3 := ak 3 cO.out rfl
 have z4 := ak 4 cO.out rfl
 have z5 := ak 5 cO.out rfl
 have z6 := ak 6 cO.out rfl
 have z7 := ak 7 cO.out rfl
 have z8 := ak 8 cO.out rfl
 have z9 := ak 9 cO.out rfl
 have jf := ak 10 cO.out rfl
 have jg := ak 11 cO.out rfl
 have z12 := ak 12 cO.out rfl
 have Di := ak 13 cO.out rfl
 have zf := fun j => aj.frozen cO.out j
 go_wp2_with fail
 refine bodyPost_ret (v := .tuple #[.agg #[.int .i64 d.reg.lim, .int .i64 d.reg.top, .slice a1 d.reg.es.length p1, .int .i64 d.inr, .slice a2 d.inT.length p2, .int .i64 d.au, .slice a3 d.outT.length p3, .int .i64 d.get, .int .i64 d.give, .int .i64 d.first, .slice a4 d.flows.length p4, .bool d.away, .bool d.dead, .slice none 0 0], .bool (!d.dead)]) (by simp [results, Tryz.results23, go_sem, *]) rfl ?_
 exact ⟨_, _, _, _, bs, rfl, pG.out, fun b hb => by have := Ct.out b hb; omega, HB2.out⟩
end Go.Proofs.YtlpbnkideaojeaaGreatDoor
