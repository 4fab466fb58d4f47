/- Lemmas. -/
import Derived.Test.YtlpbnkideaojeaaGreatDoorQRpG32
namespace Go.Proofs.YtlpbnkideaojeaaGreatDoor
open Go.RowKit
open List renaming getElem_toArray → aI, getElem_cons_succ → aJ, getElem_cons_zero → aK, setIfInBounds_toArray → aL, set_cons_zero → aM, set_cons_succ → aN
set_option maxRecDepth 100000
set_option linter.unusedSimpArgs false
set_option linter.unusedVariables false
theorem R6 (V : World) : dY V [] vP (.slice none 0 0) (.slice none 0 0) (.slice none 0 0) (.slice none 0 0) :=
 ⟨⟨[], [], [], [], ⟨[], rfl, World.ownsRow_nil V 0 _ _, fun t ht => (by cases ht), rfl⟩, ⟨[], rfl, World.ownsRow_nil V 0 _ _, fun t ht => (by cases ht), rfl⟩, ⟨[], rfl, World.ownsRow_nil V 0 _ _, fun t ht => (by cases ht), rfl⟩, ⟨[], rfl, World.ownsRow_nil V 0 _ _, fun t ht => (by cases ht), rfl⟩, rfl⟩, by simp⟩
set_option maxHeartbeats 8000000 in
theorem QU (d : aH) (ve vi vo vf : Value) (id code : Int) (w : World) (hv : je w d ve vi vo vf) :
  Calls Tryz.prog 5 #[bH d ve vi vo vf, .int .i64 id, .int .i64 code] w fun x w' => ∃ v kG, x = .returned (.tuple #[v, kG]) ∧ Cc w.heap.size ((iU d id code).1, (iU d id code).2) v kG w' ∧ Below w.heap.size w w' := by
 have HV := hide hv
 obtain ⟨ae, pe, rfl, _, _⟩ := hv.e.form
 obtain ⟨ai, pi, rfl, _, _⟩ := hv.i.form
 obtain ⟨ao, po, rfl, _, _⟩ := hv.o.form
 obtain ⟨af, pf, rfl, _, _⟩ := hv.f.form
 clear hv
 have aP : Below w.heap.size w (w.alloc (.cells #[.int .i64 d.reg.lim, .int .i64 d.reg.top, .slice ae d.reg.es.length pe, .int .i64 d.inr, .slice ai d.inT.length pi, .int .i64 d.au, .slice ao d.outT.length po, .int .i64 d.get, .int .i64 d.give, .int .i64 d.first, .slice af d.flows.length pf, .bool d.away, .bool d.dead] 40)) := (Below.refl _ _).alloc (Nat.le_refl _) _
 have RA := aB w 40 [.int .i64 d.reg.lim, .int .i64 d.reg.top, .slice ae d.reg.es.length pe, .int .i64 d.inr, .slice ai d.inT.length pi, .int .i64 d.au, .slice ao d.outT.length po, .int .i64 d.get, .int .i64 d.give, .int .i64 d.first, .slice af d.flows.length pf, .bool d.away, .bool d.dead]
 generalize hA : w.alloc (.cells #[.int .i64 d.reg.lim, .int .i64 d.reg.top, .slice ae d.reg.es.length pe, .int .i64 d.inr, .slice ai d.inT.length pi, .int .i64 d.au, .slice ao d.outT.length po, .int .i64 d.get, .int .i64 d.give, .int .i64 d.first, .slice af d.flows.length pf, .bool d.away, .bool d.dead] 40) = WA at *
 have hsA : WA.heap.size = w.heap.size + 1 := by rw [← hA]; simp
 have vQ : Below WA.heap.size WA (WA.alloc (.cells #[.int .i64 0, .int .i64 0, .slice none 0 0, .int .i64 0, .slice none 0 0, .int .i64 0, .slice none 0 0, .int .i64 0, .int .i64 0, .int .i64 0, .slice none 0 0, .bool false, .bool false] 40)) := (Below.refl _ _).alloc (Nat.le_refl _) _
 have RZ := aB WA 40 [.int .i64 0, .int .i64 0, .slice none 0 0, .int .i64 0, .slice none 0 0, .int .i64 0, .slice none 0 0, .int .i64 0, .int .i64 0, .int .i64 0, .slice none 0 0, .bool false, .bool false]
 generalize hZ : WA.alloc (.cells #[.int .i64 0, .int .i64 0, .slice none 0 0, .int .i64 0, .slice none 0 0, .int .i64 0, .slice none 0 0, .int .i64 0, .int .i64 0, .int .i64 0, .slice none 0 0, .bool false, .bool false] 40) = WZ at *
 replace RA := RA.new vQ
 rw [hsA] at RZ
 have HB := hide (ah aP vQ)
 go_enter Tryz.func5, Tryz.ntmps5
 go_upto_region 1 with fail
 have zm : Hid (WZ.heap.size = w.heap.size + 2) := by show _ = _; rw [← hZ]; simp; omega
 clear hA hZ hsA aP vQ WA
 go_wp2_with (refine wpList_load_row (by rfl) 40 _ (by rfl) w.heap.size (by rfl) [.int .i64 d.reg.lim, .int .i64 d.reg.top, .slice ae d.reg.es.length pe, .int .i64 d.inr, .slice ai d.inT.length pi, .int .i64 d.au, .slice ao d.outT.length po, .int .i64 d.get, .int .i64 d.give, .int .i64 d.first, .slice af d.flows.length pf, .bool d.away, .bool d.dead] _ 40 RA Tryz.underlying40 rfl (by kernel_rfl) ?_)
 refine (R8 d _ _ _ _ _ (HV.out.new HB.out)).mono ?_; rintro e w1 ⟨rfl, hb1⟩
 replace RA := RA.new hb1; replace RZ := RZ.new hb1
 have HW1 : Hid (w.heap.size + 2 ≤ w1.heap.size) := by show _ ≤ _; have := hb1.size; have := zm.out; omega
 replace HB := hide (ah HB.out hb1)
 clear hb1
 cases hok : dV d
 ·have HG : Hid (iU d id code = (vP, [])) := by show _ = _; unfold iU; rw [if_pos hok]
  have KC : Below w1.heap.size w1 (w1.alloc (.cells #[] 72)) := (Below.refl _ _).alloc (Nat.le_refl _) _
  have R9 : Hid ((w1.alloc (.cells #[] 72)).ownsRow w.heap.size 72 4 (.slice (some ⟨w1.heap.size, 0, none⟩) 0 0) 0 (fr [])) := eG (kW w1 72 4 0 #[] rfl (by omega)) (fun q hq => by simp [Value.ownBlock] at hq; have := HW1.out; omega)
  have KD := RZ.new KC
  have hB2 := hide (below_setRow (ah HB.out KC) (show w.heap.size ≤ w.heap.size + 1 by omega) #[.int .i64 0, .int .i64 0, .slice none 0 0, .int .i64 0, .slice none 0 0, .int .i64 0, .slice none 0 0, .int .i64 0, .int .i64 0, .int .i64 0, .slice none 0 0, .bool false, .bool false])
  have cO := hide (dW (cs' := [.int .i64 0, .int .i64 0, .slice none 0 0, .int .i64 0, .slice none 0 0, .int .i64 0, .slice none 0 0, .int .i64 0, .int .i64 0, .int .i64 0, .slice none 0 0, .bool false, .bool false]) KD)
  have Sb := hide (gK (w' := (w1.alloc (.cells #[] 72)).setRow (w.heap.size + 1) #[.int .i64 0, .int .i64 0, .slice none 0 0, .int .i64 0, .slice none 0 0, .int .i64 0, .slice none 0 0, .int .i64 0, .int .i64 0, .int .i64 0, .slice none 0 0, .bool false, .bool false]) R9.out (fun k hk _ => setRow_other _ _ _ _ (by simp [Value.ownBlock] at hk; have := HW1.out; omega)))
  go_wp2_with (refine wpList_store_row (by rfl) 40 _ _ (by rfl) (w.heap.size + 1) [.int .i64 0, .int .i64 0, .slice none 0 0, .int .i64 0, .slice none 0 0, .int .i64 0, .slice none 0 0, .int .i64 0, .int .i64 0, .int .i64 0, .slice none 0 0, .bool false, .bool false] (by rfl) (by rfl) 40 [.int .i64 0, .int .i64 0, .slice none 0 0, .int .i64 0, .slice none 0 0, .int .i64 0, .slice none 0 0, .int .i64 0, .int .i64 0, .int .i64 0, .slice none 0 0, .bool false, .bool false] KD (by kernel_rfl) rfl (by intro u hu; simp at hu; rcases hu with rfl | rfl | rfl | rfl | rfl | rfl | rfl | rfl | rfl | rfl | rfl | rfl | rfl <;> rfl) ?_)
  generalize (w1.alloc (.cells #[] 72)).setRow (w.heap.size + 1) #[.int .i64 0, .int .i64 0, .slice none 0 0, .int .i64 0, .slice none 0 0, .int .i64 0, .slice none 0 0, .int .i64 0, .int .i64 0, .int .i64 0, .slice none 0 0, .bool false, .bool false] = V at *
  obtain ⟨z0, z1, z2, z3, z4, z5, z6, z7, z8, z9, jf, jg, z12⟩ := dw cO.out
  have zf := fun j => aj.frozen cO.out j
  refine bodyPost_ret (v := .tuple #[.agg #[.int .i64 0, .int .i64 0, .slice none 0 0, .int .i64 0, .slice none 0 0, .int .i64 0, .slice none 0 0, .int .i64 0, .int .i64 0, .int .i64 0, .slice none 0 0, .bool false, .bool false], .slice (some ⟨w1.heap.size, 0, none⟩) 0 0]) (by simp [results, Tryz.results5, go_sem, *]) rfl ?_
  rw [HG.out]
  exact ⟨_, _, rfl, ⟨_, _, _, _, [], rfl, R6 V, fun b hb => (by cases hb), Sb.out, fun q hq hx => (by cases hx)⟩, hB2.out⟩
 have HG : Hid (iU d id code = jG d id code) := by show _ = _; unfold iU; rw [if_neg (by rw [hok]; decide)]
 go_wp2_with (refine wpList_load_row (by rfl) 40 _ (by rfl) w.heap.size (by rfl) [.int .i64 d.reg.lim, .int .i64 d.reg.top, .slice ae d.reg.es.length pe, .int .i64 d.inr, .slice ai d.inT.length pi, .int .i64 d.au, .slice ao d.outT.length po, .int .i64 d.get, .int .i64 d.give, .int .i64 d.first, .slice af d.flows.length pf, .bool d.away, .bool d.dead] _ 40 RA Tryz.underlying40 rfl (by kernel_rfl) ?_)
 refine (Sc d _ _ _ _ _ (HV.out.new HB.out) hok).mono ?_; rintro e w2 ⟨vc, rfl, hnc, hb2⟩
 obtain ⟨ve2, vi2, vo2, vf2, bs, rfl, hcn, hlo⟩ := hnc
 obtain ⟨dG, dH, rfl, _, _⟩ := hcn.rd.e.form
 obtain ⟨dB, dD, rfl, _, _⟩ := hcn.rd.i.form
 obtain ⟨dx, dz, rfl, _, _⟩ := hcn.rd.o.form
 obtain ⟨xL, xM, rfl, _, _⟩ := hcn.rd.f.form
 dsimp only [bH]
 have hz1 : w.heap.size + 2 ≤ w1.heap.size := by exact HW1.out
 have HZ1 := hide hz1
 have hz2 := hb2.size
 replace RZ := RZ.new hb2
 replace HB := hide (ah HB.out hb2)
 have qX : Below w2.heap.size w2 ((w2.alloc (.cells #[.int .i64 0, .int .i64 0, .slice none 0 0, .int .i64 0, .slice none 0 0, .int .i64 0, .slice none 0 0, .int .i64 0, .int .i64 0, .int .i64 0, .slice none 0 0, .bool false, .bool false] 40)).setRow w2.heap.size #[.int .i64 d.reg.lim, .int .i64 d.reg.top, .slice dG d.reg.es.length dH, .int .i64 d.inr, .slice dB d.inT.length dD, .int .i64 d.au, .slice dx d.outT.length dz, .int .i64 d.get, .int .i64 d.give, .int .i64 d.first, .slice xL d.flows.length xM, .bool d.away, .bool d.dead]) := below_setRow ((Below.refl _ _).alloc (Nat.le_refl _) _) (Nat.le_refl _) #[.int .i64 d.reg.lim, .int .i64 d.reg.top, .slice dG d.reg.es.length dH, .int .i64 d.inr, .slice dB d.inT.length dD, .int .i64 d.au, .slice dx d.outT.length dz, .int .i64 d.get, .int .i64 d.give, .int .i64 d.first, .slice xL d.flows.length xM, .bool d.away, .bool d.dead]
 have RN := aB w2 40 [.int .i64 0, .int .i64 0, .slice none 0 0, .int .i64 0, .slice none 0 0, .int .i64 0, .slice none 0 0, .int .i64 0, .int .i64 0, .int .i64 0, .slice none 0 0, .bool false, .bool false]
 have HCM : Hid (cZ ((w2.alloc (.cells #[.int .i64 0, .int .i64 0, .slice none 0 0, .int .i64 0, .slice none 0 0, .int .i64 0, .slice none 0 0, .int .i64 0, .int .i64 0, .int .i64 0, .slice none 0 0, .bool false, .bool false] 40)).setRow w2.heap.size #[.int .i64 d.reg.lim, .int .i64 d.reg.top, .slice dG d.reg.es.length dH, .int .i64 d.inr, .slice dB d.inT.length dD, .int .i64 d.au, .slice dx d.outT.length dz, .int .i64 d.get, .int .i64 d.give, .int .i64 d.first, .slice xL d.flows.length xM, .bool d.away, .bool d.dead]) w2.heap.size d bs) := ⟨⟨_, _, _, _, dW (cs' := [.int .i64 d.reg.lim, .int .i64 d.reg.top, .slice dG d.reg.es.length dH, .int .i64 d.inr, .slice dB d.inT.length dD, .int .i64 d.au, .slice dx d.outT.length dz, .int .i64 d.get, .int .i64 d.give, .int .i64 d.first, .slice xL d.flows.length xM, .bool d.away, .bool d.dead]) RN, hcn.new qX⟩, fun hx => by have := hcn.lt _ hx; omega⟩
 have Ct := hide hlo
 have aZ := hide (RZ.new qX)
 replace HB := hide (ah HB.out qX)
 clear hb2 hcn hlo RA
 go_upto_region 4 with (refine wpList_store_row (by rfl) 40 _ _ (by rfl) w2.heap.size [.int .i64 d.reg.lim, .int .i64 d.reg.top, .slice dG d.reg.es.length dH, .int .i64 d.inr, .slice dB d.inT.length dD, .int .i64 d.au, .slice dx d.outT.length dz, .int .i64 d.get, .int .i64 d.give, .int .i64 d.first, .slice xL d.flows.length xM, .bool d.away, .bool d.dead] (by rfl) (by rfl) 40 [.int .i64 0, .int .i64 0, .slice none 0 0, .int .i64 0, .slice none 0 0, .int .i64 0, .slice none 0 0, .int .i64 0, .int .i64 0, .int .i64 0, .slice none 0 0, .bool false, .bool false] RN (by kernel_rfl) rfl (by intro u hu; simp at hu; rcases hu with rfl | rfl | rfl | rfl | rfl | rfl | rfl | rfl | rfl | rfl | rfl | rfl | rfl <;> rfl) ?_)
 clear RN RZ qX
 obtain ⟨gO, Fz⟩ : ∃ q, q = w2.heap.size := ⟨_, rfl⟩
 rw [← Fz] at HCM aZ HB
 try rw [← Fz]
 have Sd : w.heap.size + 2 ≤ gO := by omega
 generalize (w2.alloc (.cells #[.int .i64 0, .int .i64 0, .slice none 0 0, .int .i64 0, .slice none 0 0, .int .i64 0, .slice none 0 0, .int .i64 0, .int .i64 0, .int .i64 0, .slice none 0 0, .bool false, .bool false] 40)).setRow gO #[.int .i64 d.reg.lim, .int .i64 d.reg.top, .slice dG d.reg.es.length dH, .int .i64 d.inr, .slice dB d.inT.length dD, .int .i64 d.au, .slice dx d.outT.length dz, .int .i64 d.get, .int .i64 d.give, .int .i64 d.first, .slice xL d.flows.length xM, .bool d.away, .bool d.dead] = X at *
 clear Fz hz1 hz2
 go_wp2_with fail
 refine (Sg gO d bs id code _ HCM.out hok).mono ?_
 intro x w4 KE
 have Si := KE
 obtain ⟨vx, _, rfl, _⟩ := Si
 obtain ⟨v4, bz, uY, hc4, FB, gZ, nO, KF⟩ := KE
 obtain rfl := (Ending.returned.inj uY).symm
 have lH : Hid (∀ b ∈ gO :: bs, w.heap.size + 2 ≤ b) := fun b hb => by
  rcases List.mem_cons.1 hb with e | e
  ·rw [e]; exact Sd
  ·have := Ct.out b e; have := HZ1.out; omega
 have hxs := HB.out.size
 have hxg := HCM.out.lt
 have KG : Hid (∀ b ∈ bz, w.heap.size + 2 ≤ b) := fun b hb => by
  rcases nO b hb with e | e
  ·exact lH.out b (by simp [e])
  ·omega
 have FC : Hid (∀ q, v4.ownBlock = some q → w.heap.size + 2 ≤ q ∧ q ∉ bz) := fun q hq => ⟨by have := (FB.lt q hq).1; omega, fun hx => KF q hq (by simp [hx])⟩
 replace aZ := hide (aZ.out.kept (gZ.block _ aZ.out.lt (fun hx => by have := lH.out _ hx; omega)))
 have zn : Hid (Below w.heap.size w w4) := ⟨gZ.os.trans HB.out.os, gZ.tape.trans HB.out.tape, gZ.output.trans HB.out.output, Nat.le_trans HB.out.size gZ.size, fun k hk => (gZ.block k (Nat.lt_of_lt_of_le hk HB.out.size) (fun hx => by have := lH.out _ hx; omega)).trans (HB.out.block k hk)⟩
 have zo := hide (eG FB (fun q hq => by have := (FC.out q hq).1; omega : ∀ q, v4.ownBlock = some q → w.heap.size ≤ q))
 obtain ⟨Sj, Sk, Sl, vf4, hr4, _, ug⟩ := hc4.handed (lo := 0) (fun b hb => Nat.zero_le _)
 obtain ⟨R, hR⟩ : ∃ x, jG d id code = x := ⟨_, rfl⟩
 rw [hR] at zo hr4 ug
 try rw [hR]
 have HG2 : Hid (iU d id code = R) := by show _ = _; rw [HG.out, ← hR]
 obtain ⟨dd, ll⟩ := R
 dsimp only at zo hr4 ug
 try dsimp only
 obtain ⟨qY, qZ, rfl, _, _⟩ := ug.rd.e.form
 obtain ⟨ru, rA, rfl, _, _⟩ := ug.rd.i.form
 obtain ⟨rD, rE, rfl, _, _⟩ := ug.rd.o.form
 obtain ⟨rF, rG, rfl, _, _⟩ := ug.rd.f.form
 obtain ⟨a9, p9, ow, _, _⟩ := bW zo.out
 subst ow
 have jY := hide (below_setRow zn.out (show w.heap.size ≤ w.heap.size + 1 by omega) #[.int .i64 dd.reg.lim, .int .i64 dd.reg.top, .slice qY dd.reg.es.length qZ, .int .i64 dd.inr, .slice ru dd.inT.length rA, .int .i64 dd.au, .slice rD dd.outT.length rE, .int .i64 dd.get, .int .i64 dd.give, .int .i64 dd.first, .slice rF dd.flows.length rG, .bool dd.away, .bool dd.dead])
 have xO := hide (dW (cs' := [.int .i64 dd.reg.lim, .int .i64 dd.reg.top, .slice qY dd.reg.es.length qZ, .int .i64 dd.inr, .slice ru dd.inT.length rA, .int .i64 dd.au, .slice rD dd.outT.length rE, .int .i64 dd.get, .int .i64 dd.give, .int .i64 dd.first, .slice rF dd.flows.length rG, .bool dd.away, .bool dd.dead]) aZ.out)
 have Sm : Hid (dY (w4.setRow (w.heap.size + 1) #[.int .i64 dd.reg.lim, .int .i64 dd.reg.top, .slice qY dd.reg.es.length qZ, .int .i64 dd.inr, .slice ru dd.inT.length rA, .int .i64 dd.au, .slice rD dd.outT.length rE, .int .i64 dd.get, .int .i64 dd.give, .int .i64 dd.first, .slice rF dd.flows.length rG, .bool dd.away, .bool dd.dead]) bz dd (.slice qY dd.reg.es.length qZ) (.slice ru dd.inT.length rA) (.slice rD dd.outT.length rE) (.slice rF dd.flows.length rG)) := ug.keep (by rw [setRow_size]; exact Nat.le_refl _) (fun b hb => setRow_other _ _ _ _ (by have := KG.out b hb; omega))
 have Cu := hide (gK (w' := w4.setRow (w.heap.size + 1) #[.int .i64 dd.reg.lim, .int .i64 dd.reg.top, .slice qY dd.reg.es.length qZ, .int .i64 dd.inr, .slice ru dd.inT.length rA, .int .i64 dd.au, .slice rD dd.outT.length rE, .int .i64 dd.get, .int .i64 dd.give, .int .i64 dd.first, .slice rF dd.flows.length rG, .bool dd.away, .bool dd.dead]) zo.out (fun k hk _ => setRow_other _ _ _ _ (by have := (FC.out k hk).1; omega)))
 have HR4 := hide hr4
 clear hc4 gZ hr4 ug hR HCM HB zn FB nO KF zo
 go_wp2_with (first | (refine wpList_load_row (by rfl) 40 _ (by rfl) gO (by rfl) [.int .i64 dd.reg.lim, .int .i64 dd.reg.top, .slice qY dd.reg.es.length qZ, .int .i64 dd.inr, .slice ru dd.inT.length rA, .int .i64 dd.au, .slice rD dd.outT.length rE, .int .i64 dd.get, .int .i64 dd.give, .int .i64 dd.first, .slice rF dd.flows.length rG, .bool dd.away, .bool dd.dead] _ 40 HR4.out Tryz.underlying40 rfl (by kernel_rfl) ?_) | (refine wpList_store_row (by rfl) 40 _ _ (by rfl) (w.heap.size + 1) [.int .i64 dd.reg.lim, .int .i64 dd.reg.top, .slice qY dd.reg.es.length qZ, .int .i64 dd.inr, .slice ru dd.inT.length rA, .int .i64 dd.au, .slice rD dd.outT.length rE, .int .i64 dd.get, .int .i64 dd.give, .int .i64 dd.first, .slice rF dd.flows.length rG, .bool dd.away, .bool dd.dead] (by rfl) (by rfl) 40 [.int .i64 0, .int .i64 0, .slice none 0 0, .int .i64 0, .slice none 0 0, .int .i64 0, .slice none 0 0, .int .i64 0, .int .i64 0, .int .i64 0, .slice none 0 0, .bool false, .bool false] aZ.out (by kernel_rfl) rfl (by intro u hu; simp at hu; rcases hu with rfl | rfl | rfl | rfl | rfl | rfl | rfl | rfl | rfl | rfl | rfl | rfl | rfl <;> rfl) ?_))
 generalize w4.setRow (w.heap.size + 1) #[.int .i64 dd.reg.lim, .int .i64 dd.reg.top, .slice qY dd.reg.es.length qZ, .int .i64 dd.inr, .slice ru dd.inT.length rA, .int .i64 dd.au, .slice rD dd.outT.length rE, .int .i64 dd.get, .int .i64 dd.give, .int .i64 dd.first, .slice rF dd.flows.length rG, .bool dd.away, .bool dd.dead] = V at *
 obtain ⟨z0, z1, z2, z3, z4, z5, z6, z7, z8, z9, jf, jg, z12⟩ := dw xO.out
 have zf := fun j => aj.frozen xO.out j
 refine bodyPost_ret (v := .tuple #[.agg #[.int .i64 dd.reg.lim, .int .i64 dd.reg.top, .slice qY dd.reg.es.length qZ, .int .i64 dd.inr, .slice ru dd.inT.length rA, .int .i64 dd.au, .slice rD dd.outT.length rE, .int .i64 dd.get, .int .i64 dd.give, .int .i64 dd.first, .slice rF dd.flows.length rG, .bool dd.away, .bool dd.dead], .slice a9 ll.length p9]) (by simp [results, Tryz.results5, go_sem, *]) rfl ?_
 rw [HG2.out]
 exact ⟨_, _, rfl, ⟨_, _, _, _, bz, rfl, Sm.out, fun b hb => by have := KG.out b hb; omega, Cu.out, fun q hq => (FC.out q hq).2⟩, jY.out⟩
theorem KH {room : Int} {L : List Fd} (h : bI room L = true) : jH room L room = ((room, L), true) := by
 have hp := mE h
 unfold jH
 rw [if_pos h, if_pos (Cv hp.1 hp.2.1), zq (by have := hp.2.2.2.1; omega)]
set_option maxHeartbeats 16000000 in
theorem Sn (d : aH) (ve vi vo vf : Value) (w : World) (hv : je w d ve vi vo vf) (hok : dV d = true) :
  Calls Tryz.prog 58 #[bH d ve vi vo vf] w fun x w' => ∃ v', x = .returned v' ∧ FD w.heap.size d v' w' ∧ Below w.heap.size w w' := by
 have hiff := jI.1 hok
 have mG := (rH hok).2
 have Sq : d.flows.length ≤ 60 := by have := (rH hok).1; omega
 have FE : Hid (∀ f ∈ d.flows, dZ f.fds = true ∧ jJ f.tun = true) := fun f hf => ⟨(zu hok hf).2.2.2, (zu hok hf).2.2.1⟩
 have Ck := hide (KH hiff.2.1)
 have zw := hide (KH hiff.2.2.1)
 obtain ⟨hv1, hv2, hv3, hv4⟩ := hv
 obtain ⟨ae, pe, rfl, e1, e2⟩ := hv1.form
 obtain ⟨ai, pi, rfl, i1, i2⟩ := hv2.form
 obtain ⟨ao, po, rfl, o1, o2⟩ := hv3.form
 obtain ⟨af, pf, rfl, f1, f2⟩ := hv4.form
 obtain ⟨⟨rl, rt, es⟩, ir, it, bG, ot, gt, gv, fs, fl, aw, de⟩ := d
 dsimp only [bH] at *
 have FH := hide hv1; have xP := hide hv2; have xQ := hide hv3; have FK := hide hv4
 clear hok hv1 hv2 hv3 hv4 hiff
 have aP : Below w.heap.size w ((w.alloc (.cells #[.int .i64 rl, .int .i64 rt, .slice ae es.length pe, .int .i64 ir, .slice ai it.length pi, .int .i64 bG, .slice ao ot.length po, .int .i64 gt, .int .i64 gv, .int .i64 fs, .slice af fl.length pf, .bool aw, .bool de] 40)).alloc (.cells #[.int .i64 0, .int .i64 0, .slice none 0 0, .int .i64 0, .slice none 0 0, .int .i64 0, .slice none 0 0, .int .i64 0, .int .i64 0, .int .i64 0, .slice none 0 0, .bool false, .bool false] 40)) := ((Below.refl _ _).alloc (Nat.le_refl _) _).alloc (by simp) _
 have RA := (aB w 40 [.int .i64 rl, .int .i64 rt, .slice ae es.length pe, .int .i64 ir, .slice ai it.length pi, .int .i64 bG, .slice ao ot.length po, .int .i64 gt, .int .i64 gv, .int .i64 fs, .slice af fl.length pf, .bool aw, .bool de]).alloc (.cells #[.int .i64 0, .int .i64 0, .slice none 0 0, .int .i64 0, .slice none 0 0, .int .i64 0, .slice none 0 0, .int .i64 0, .int .i64 0, .int .i64 0, .slice none 0 0, .bool false, .bool false] 40)
 have RZ := aB (w.alloc (.cells #[.int .i64 rl, .int .i64 rt, .slice ae es.length pe, .int .i64 ir, .slice ai it.length pi, .int .i64 bG, .slice ao ot.length po, .int .i64 gt, .int .i64 gv, .int .i64 fs, .slice af fl.length pf, .bool aw, .bool de] 40)) 40 [.int .i64 0, .int .i64 0, .slice none 0 0, .int .i64 0, .slice none 0 0, .int .i64 0, .slice none 0 0, .int .i64 0, .int .i64 0, .int .i64 0, .slice none 0 0, .bool false, .bool false]
 have hsz : (w.alloc (.cells #[.int .i64 rl, .int .i64 rt, .slice ae es.length pe, .int .i64 ir, .slice ai it.length pi, .int .i64 bG, .slice ao ot.length po, .int .i64 gt, .int .i64 gv, .int .i64 fs, .slice af fl.length pf, .bool aw, .bool de] 40)).heap.size = w.heap.size + 1 := by simp
 have hs2 : ((w.alloc (.cells #[.int .i64 rl, .int .i64 rt, .slice ae es.length pe, .int .i64 ir, .slice ai it.length pi, .int .i64 bG, .slice ao ot.length po, .int .i64 gt, .int .i64 gv, .int .i64 fs, .slice af fl.length pf, .bool aw, .bool de] 40)).alloc (.cells #[.int .i64 0, .int .i64 0, .slice none 0 0, .int .i64 0, .slice none 0 0, .int .i64 0, .slice none 0 0, .int .i64 0, .int .i64 0, .int .i64 0, .slice none 0 0, .bool false, .bool false] 40)).heap.size = w.heap.size + 2 := by simp
 rw [hsz] at RZ
 obtain ⟨W1, hV⟩ : ∃ V, (w.alloc (.cells #[.int .i64 rl, .int .i64 rt, .slice ae es.length pe, .int .i64 ir, .slice ai it.length pi, .int .i64 bG, .slice ao ot.length po, .int .i64 gt, .int .i64 gv, .int .i64 fs, .slice af fl.length pf, .bool aw, .bool de] 40)).alloc (.cells #[.int .i64 0, .int .i64 0, .slice none 0 0, .int .i64 0, .slice none 0 0, .int .i64 0, .slice none 0 0, .int .i64 0, .int .i64 0, .int .i64 0, .slice none 0 0, .bool false, .bool false] 40) = V := ⟨_, rfl⟩
 rw [hV] at aP RA RZ hs2
 have HB := hide aP
 have hlo : w.heap.size + 2 ≤ W1.heap.size := by omega
 clear hsz hs2 aP
 go_enter Tryz.func58, Tryz.ntmps58
 go_upto_region 1 with fail
 try rw [hV]
 clear hV
 obtain ⟨a0, a1, a2⟩ := jZ RA
 go_wp2_with fail
 refine (KI ⟨rl, rt, es⟩ (.slice ae es.length pe) _ (FH.out.new HB.out) mG).mono ?_; rintro e w2 ⟨vE, rfl, ho, hb⟩
 obtain ⟨dG, dH, rfl, Sr, Sv⟩ := bW ho
 replace RA := RA.new hb
 replace RZ := RZ.new hb
 replace HB := hide (ah HB.out hb)
 have xR := FL (eG (base' := (w.heap.size + 2)) ho (fun q hq => by have := (iV ho q hq).1; omega))
 have HE := hide xR
 have KJ := hb.size
 clear ho hb xR a0 a1 a2
 obtain ⟨a0, a1, a2⟩ := jZ RA
 have hfz := fun j => aj.frozen RA j
 have al := RA.lt
 go_upto_region 2 with fail
 have hsv : (((w2.setCell ⟨w.heap.size, 0, none⟩ (.int .i64 rl)).setCell ⟨w.heap.size, 1, none⟩ (.int .i64 rt)).setCell ⟨w.heap.size, 2, none⟩ (.slice dG es.length dH)).heap.size = w2.heap.size := by simp
 have qh : aj (((w2.setCell ⟨w.heap.size, 0, none⟩ (.int .i64 rl)).setCell ⟨w.heap.size, 1, none⟩ (.int .i64 rt)).setCell ⟨w.heap.size, 2, none⟩ (.slice dG es.length dH)) w.heap.size 40 [.int .i64 rl, .int .i64 rt, .slice dG es.length dH, .int .i64 ir, .slice ai it.length pi, .int .i64 bG, .slice ao ot.length po, .int .i64 gt, .int .i64 gv, .int .i64 fs, .slice af fl.length pf, .bool aw, .bool de] := (((RA.set 0 (.int .i64 rl)).set 1 (.int .i64 rt)).set 2 (.slice dG es.length dH))
 have bJ := (((RZ.far ⟨w.heap.size, 0, none⟩ (.int .i64 rl) (show w.heap.size ≠ w.heap.size + 1 by omega)).far ⟨w.heap.size, 1, none⟩ (.int .i64 rt) (show w.heap.size ≠ w.heap.size + 1 by omega)).far ⟨w.heap.size, 2, none⟩ (.slice dG es.length dH) (show w.heap.size ≠ w.heap.size + 1 by omega))
 have bD := hide (((HB.out.setCell (p := ⟨w.heap.size, 0, none⟩) (Nat.le_refl _) (.int .i64 rl)).setCell (p := ⟨w.heap.size, 1, none⟩) (Nat.le_refl _) (.int .i64 rt)).setCell (p := ⟨w.heap.size, 2, none⟩) (Nat.le_refl _) (.slice dG es.length dH))
 have NE := hide (((HE.out.far ⟨w.heap.size, 0, none⟩ (.int .i64 rl) (.inl (show w.heap.size < (w.heap.size + 2) by omega))).far ⟨w.heap.size, 1, none⟩ (.int .i64 rt) (.inl (show w.heap.size < (w.heap.size + 2) by omega))).far ⟨w.heap.size, 2, none⟩ (.slice dG es.length dH) (.inl (show w.heap.size < (w.heap.size + 2) by omega)))
 clear RA RZ HB HE a0 a1 a2 hfz al
 generalize (((w2.setCell ⟨w.heap.size, 0, none⟩ (.int .i64 rl)).setCell ⟨w.heap.size, 1, none⟩ (.int .i64 rt)).setCell ⟨w.heap.size, 2, none⟩ (.slice dG es.length dH)) = W2 at *
 have RA := qh
 have RZ := bJ
 have HB := bD
 obtain ⟨e9, tZ⟩ : ∃ n, w2.heap.size = n := ⟨_, rfl⟩
 rw [tZ] at NE hsv KJ
 have HE : Hid (aD bE W2 (w.heap.size + 2) e9 (.slice dG es.length dH) es) := NE
 clear qh bJ bD NE tZ
 have Cw : e9 ≤ W2.heap.size := by omega
 have abg : (w.heap.size + 2) ≤ e9 := by omega
 clear hsv KJ
 have a3 := ak 3 RA rfl
 have a4 := ak 4 RA rfl
 go_wp2_with fail
 refine (FN it ir (.slice ai it.length pi) _ (dM (xP.out.new HB.out)) (eu xP.out)).mono ?_; rw [Ck.out]; rintro e w3 ⟨vI, rfl, ho, hb⟩
 obtain ⟨dB, dD, rfl, Sw, Sy⟩ := bW ho
 replace RA := RA.new hb
 replace RZ := RZ.new hb
 replace HB := hide (ah HB.out hb)
 replace HE := hide (HE.out.new hb)
 have xS := (fun z => vR z (eu xP.out)) (eG (base' := e9) ho (fun q hq => by have := (iV ho q hq).1; omega))
 have HI := hide xS
 have KL := hb.size
 clear ho hb xS a3 a4
 have a3 := ak 3 RA rfl
 have a4 := ak 4 RA rfl
 have hfz := fun j => aj.frozen RA j
 have al := RA.lt
 go_upto_region 3 with fail
 have hsv : ((w3.setCell ⟨w.heap.size, 3, none⟩ (.int .i64 ir)).setCell ⟨w.heap.size, 4, none⟩ (.slice dB it.length dD)).heap.size = w3.heap.size := by simp
 have qh : aj ((w3.setCell ⟨w.heap.size, 3, none⟩ (.int .i64 ir)).setCell ⟨w.heap.size, 4, none⟩ (.slice dB it.length dD)) w.heap.size 40 [.int .i64 rl, .int .i64 rt, .slice dG es.length dH, .int .i64 ir, .slice dB it.length dD, .int .i64 bG, .slice ao ot.length po, .int .i64 gt, .int .i64 gv, .int .i64 fs, .slice af fl.length pf, .bool aw, .bool de] := ((RA.set 3 (.int .i64 ir)).set 4 (.slice dB it.length dD))
 have bJ := ((RZ.far ⟨w.heap.size, 3, none⟩ (.int .i64 ir) (show w.heap.size ≠ w.heap.size + 1 by omega)).far ⟨w.heap.size, 4, none⟩ (.slice dB it.length dD) (show w.heap.size ≠ w.heap.size + 1 by omega))
 have bD := hide ((HB.out.setCell (p := ⟨w.heap.size, 3, none⟩) (Nat.le_refl _) (.int .i64 ir)).setCell (p := ⟨w.heap.size, 4, none⟩) (Nat.le_refl _) (.slice dB it.length dD))
 have NI := hide ((HI.out.far ⟨w.heap.size, 3, none⟩ (.int .i64 ir) (.inl (show w.heap.size < e9 by omega))).far ⟨w.heap.size, 4, none⟩ (.slice dB it.length dD) (.inl (show w.heap.size < e9 by omega)))
 have vS := hide (((HE.out.far ⟨w.heap.size, 3, none⟩ (.int .i64 ir) (.inl (show w.heap.size < w.heap.size + 2 by omega))).far ⟨w.heap.size, 4, none⟩ (.slice dB it.length dD) (.inl (show w.heap.size < w.heap.size + 2 by omega))))
 clear RA RZ HB HI a3 a4 hfz al
 clear HE
 generalize ((w3.setCell ⟨w.heap.size, 3, none⟩ (.int .i64 ir)).setCell ⟨w.heap.size, 4, none⟩ (.slice dB it.length dD)) = W3 at *
 have RA := qh
 have RZ := bJ
 have HB := bD
 obtain ⟨i9, hi9⟩ : ∃ n, w3.heap.size = n := ⟨_, rfl⟩
 rw [hi9] at NI hsv KL
 have HI : Hid (aD bT W3 e9 i9 (.slice dB it.length dD) it) := NI
 have HE := vS
 clear qh bJ bD NI hi9 vS
 have Cx : i9 ≤ W3.heap.size := by omega
 have abh : e9 ≤ i9 := by omega
 clear hsv KL
 have a5 := ak 5 RA rfl
 have a6 := ak 6 RA rfl
 go_wp2_with fail
 refine (FN ot bG (.slice ao ot.length po) _ (dM (xQ.out.new HB.out)) (eu xQ.out)).mono ?_; rw [zw.out]; rintro e w4 ⟨vU, rfl, ho, hb⟩
 obtain ⟨dx, dz, rfl, Sz, SA⟩ := bW ho
 replace RA := RA.new hb
 replace RZ := RZ.new hb
 replace HB := hide (ah HB.out hb)
 replace HE := hide (HE.out.new hb)
 replace HI := hide (HI.out.new hb)
 have xU := (fun z => vR z (eu xQ.out)) (eG (base' := i9) ho (fun q hq => by have := (iV ho q hq).1; omega))
 have HU := hide xU
 have KM := hb.size
 clear ho hb xU a5 a6
 have a5 := ak 5 RA rfl
 have a6 := ak 6 RA rfl
 have hfz := fun j => aj.frozen RA j
 have al := RA.lt
 go_upto_region 4 with fail
 have hsv : ((w4.setCell ⟨w.heap.size, 5, none⟩ (.int .i64 bG)).setCell ⟨w.heap.size, 6, none⟩ (.slice dx ot.length dz)).heap.size = w4.heap.size := by simp
 have qh : aj ((w4.setCell ⟨w.heap.size, 5, none⟩ (.int .i64 bG)).setCell ⟨w.heap.size, 6, none⟩ (.slice dx ot.length dz)) w.heap.size 40 [.int .i64 rl, .int .i64 rt, .slice dG es.length dH, .int .i64 ir, .slice dB it.length dD, .int .i64 bG, .slice dx ot.length dz, .int .i64 gt, .int .i64 gv, .int .i64 fs, .slice af fl.length pf, .bool aw, .bool de] := ((RA.set 5 (.int .i64 bG)).set 6 (.slice dx ot.length dz))
 have bJ := ((RZ.far ⟨w.heap.size, 5, none⟩ (.int .i64 bG) (show w.heap.size ≠ w.heap.size + 1 by omega)).far ⟨w.heap.size, 6, none⟩ (.slice dx ot.length dz) (show w.heap.size ≠ w.heap.size + 1 by omega))
 have bD := hide ((HB.out.setCell (p := ⟨w.heap.size, 5, none⟩) (Nat.le_refl _) (.int .i64 bG)).setCell (p := ⟨w.heap.size, 6, none⟩) (Nat.le_refl _) (.slice dx ot.length dz))
 have NU := hide ((HU.out.far ⟨w.heap.size, 5, none⟩ (.int .i64 bG) (.inl (show w.heap.size < i9 by omega))).far ⟨w.heap.size, 6, none⟩ (.slice dx ot.length dz) (.inl (show w.heap.size < i9 by omega)))
 have vS := hide (((HE.out.far ⟨w.heap.size, 5, none⟩ (.int .i64 bG) (.inl (show w.heap.size < w.heap.size + 2 by omega))).far ⟨w.heap.size, 6, none⟩ (.slice dx ot.length dz) (.inl (show w.heap.size < w.heap.size + 2 by omega))))
 have Cy := hide (((HI.out.far ⟨w.heap.size, 5, none⟩ (.int .i64 bG) (.inl (show w.heap.size < e9 by omega))).far ⟨w.heap.size, 6, none⟩ (.slice dx ot.length dz) (.inl (show w.heap.size < e9 by omega))))
 clear RA RZ HB HU a5 a6 hfz al
 clear HE
 clear HI
 generalize ((w4.setCell ⟨w.heap.size, 5, none⟩ (.int .i64 bG)).setCell ⟨w.heap.size, 6, none⟩ (.slice dx ot.length dz)) = W4 at *
 have RA := qh
 have RZ := bJ
 have HB := bD
 obtain ⟨u9, oz⟩ : ∃ n, w4.heap.size = n := ⟨_, rfl⟩
 rw [oz] at NU hsv KM
 have HU : Hid (aD bT W4 i9 u9 (.slice dx ot.length dz) ot) := NU
 have HE := vS
 have HI := Cy
 clear qh bJ bD NU oz vS Cy
 have zx : u9 ≤ W4.heap.size := by omega
 have abj : i9 ≤ u9 := by omega
 clear hsv KM
 have kX := ak 10 RA rfl
 go_wp2_with fail
 refine (SB fl _ _ (FK.out.new HB.out) FE.out Sq).mono ?_; rintro e w5 ⟨vF, rfl, ho, hb⟩
 obtain ⟨ac, pc, rfl, SC, SE⟩ := ho.form
 replace RA := RA.new hb
 replace RZ := RZ.new hb
 replace HB := hide (ah HB.out hb)
 replace HE := hide (HE.out.new hb)
 replace HI := hide (HI.out.new hb)
 replace HU := hide (HU.out.new hb)
 have HF := hide (ho.wide (lo' := u9) zx (Nat.le_refl _))
 have hz5 : u9 ≤ w5.heap.size := Nat.le_trans zx hb.size
 clear ho hb kX
 have kX := ak 10 RA rfl
 have hfz := aj.frozen RA 10
 have al := RA.lt
 go_upto_region 5 with fail
 have qh := hide (show aj (w5.setCell ⟨w.heap.size, 10, none⟩ (.slice ac fl.length pc)) w.heap.size 40 [.int .i64 rl, .int .i64 rt, .slice dG es.length dH, .int .i64 ir, .slice dB it.length dD, .int .i64 bG, .slice dx ot.length dz, .int .i64 gt, .int .i64 gv, .int .i64 fs, .slice ac fl.length pc, .bool aw, .bool de] from RA.set 10 (.slice ac fl.length pc))
 have bJ := hide (RZ.far ⟨w.heap.size, 10, none⟩ (.slice ac fl.length pc) (show w.heap.size ≠ w.heap.size + 1 by omega))
 have bD := hide (HB.out.setCell (p := ⟨w.heap.size, 10, none⟩) (Nat.le_refl _) (.slice ac fl.length pc))
 have vS := hide (HE.out.far ⟨w.heap.size, 10, none⟩ (.slice ac fl.length pc) (.inl (show w.heap.size < w.heap.size + 2 by omega)))
 have Cy := hide (HI.out.far ⟨w.heap.size, 10, none⟩ (.slice ac fl.length pc) (.inl (show w.heap.size < e9 by omega)))
 have SF := hide (HU.out.far ⟨w.heap.size, 10, none⟩ (.slice ac fl.length pc) (.inl (show w.heap.size < i9 by omega)))
 have KN := hide (HF.out.far ⟨w.heap.size, 10, none⟩ (.slice ac fl.length pc) (.inl (show w.heap.size < u9 by omega)))
 have hsv : (w5.setCell ⟨w.heap.size, 10, none⟩ (.slice ac fl.length pc)).heap.size = w5.heap.size := by simp
 clear RA RZ HB HE HI HU HF kX hfz al
 generalize w5.setCell ⟨w.heap.size, 10, none⟩ (.slice ac fl.length pc) = W5 at *
 have HF : Hid (aD bF W5 u9 w5.heap.size (.slice ac fl.length pc) fl) := KN
 clear KN
 have HR2 := hide (dW (cs' := [.int .i64 rl, .int .i64 rt, .slice dG es.length dH, .int .i64 ir, .slice dB it.length dD, .int .i64 bG, .slice dx ot.length dz, .int .i64 gt, .int .i64 gv, .int .i64 fs, .slice ac fl.length pc, .bool aw, .bool de]) bJ.out)
 have HB2 := hide (below_setRow bD.out (show w.heap.size ≤ w.heap.size + 1 by omega) #[.int .i64 rl, .int .i64 rt, .slice dG es.length dH, .int .i64 ir, .slice dB it.length dD, .int .i64 bG, .slice dx ot.length dz, .int .i64 gt, .int .i64 gv, .int .i64 fs, .slice ac fl.length pc, .bool aw, .bool de])
 have hsx : (W5.setRow (w.heap.size + 1) #[.int .i64 rl, .int .i64 rt, .slice dG es.length dH, .int .i64 ir, .slice dB it.length dD, .int .i64 bG, .slice dx ot.length dz, .int .i64 gt, .int .i64 gv, .int .i64 fs, .slice ac fl.length pc, .bool aw, .bool de]).heap.size = W5.heap.size := setRow_size _ _ _
 have hkx : ∀ q, w.heap.size + 2 ≤ q → (W5.setRow (w.heap.size + 1) #[.int .i64 rl, .int .i64 rt, .slice dG es.length dH, .int .i64 ir, .slice dB it.length dD, .int .i64 bG, .slice dx ot.length dz, .int .i64 gt, .int .i64 gv, .int .i64 fs, .slice ac fl.length pc, .bool aw, .bool de]).heap[q]? = W5.heap[q]? := fun q hq => setRow_other _ _ _ _ (by omega)
 go_wp2_with (first | (refine wpList_load_row (by rfl) 40 _ (by rfl) w.heap.size (by rfl) [.int .i64 rl, .int .i64 rt, .slice dG es.length dH, .int .i64 ir, .slice dB it.length dD, .int .i64 bG, .slice dx ot.length dz, .int .i64 gt, .int .i64 gv, .int .i64 fs, .slice ac fl.length pc, .bool aw, .bool de] _ 40 qh.out Tryz.underlying40 rfl (by kernel_rfl) ?_) | (refine wpList_store_row (by rfl) 40 _ _ (by rfl) (w.heap.size + 1) [.int .i64 rl, .int .i64 rt, .slice dG es.length dH, .int .i64 ir, .slice dB it.length dD, .int .i64 bG, .slice dx ot.length dz, .int .i64 gt, .int .i64 gv, .int .i64 fs, .slice ac fl.length pc, .bool aw, .bool de] (by rfl) (by rfl) 40 [.int .i64 0, .int .i64 0, .slice none 0 0, .int .i64 0, .slice none 0 0, .int .i64 0, .slice none 0 0, .int .i64 0, .int .i64 0, .int .i64 0, .slice none 0 0, .bool false, .bool false] bJ.out (by kernel_rfl) rfl (by intro u hu; simp at hu; rcases hu with rfl | rfl | rfl | rfl | rfl | rfl | rfl | rfl | rfl | rfl | rfl | rfl | rfl <;> rfl) ?_))
 generalize W5.setRow (w.heap.size + 1) #[.int .i64 rl, .int .i64 rt, .slice dG es.length dH, .int .i64 ir, .slice dB it.length dD, .int .i64 bG, .slice dx ot.length dz, .int .i64 gt, .int .i64 gv, .int .i64 fs, .slice ac fl.length pc, .bool aw, .bool de] = V at *
 have HE2 := vS.out.nA hsx (fun q hq => hkx q (by omega))
 have HI2 := Cy.out.nA hsx (fun q hq => hkx q (by omega))
 have zy := SF.out.nA hsx (fun q hq => hkx q (by omega))
 have lI := HF.out.nA hsx (fun q hq => hkx q (by omega))
 obtain ⟨bs, hcn, hlo2⟩ := KO (d := ⟨⟨rl, rt, es⟩, ir, it, bG, ot, gt, gv, fs, fl, aw, de⟩) HE2 HI2 zy lI (by omega) (by omega) (by omega) (by omega) (by omega) (by omega)
 have fH := hide hcn
 clear hcn HE2 HI2 zy lI
 obtain ⟨z0, z1, z2, z3, z4, z5, z6, z7, z8, z9, jf, jg, z12⟩ := dw HR2.out
 have zf := fun j => aj.frozen HR2.out j
 refine bodyPost_ret (v := .agg #[.int .i64 rl, .int .i64 rt, .slice dG es.length dH, .int .i64 ir, .slice dB it.length dD, .int .i64 bG, .slice dx ot.length dz, .int .i64 gt, .int .i64 gv, .int .i64 fs, .slice ac fl.length pc, .bool aw, .bool de]) (by simp [results, Tryz.results58, go_sem, *]) rfl ?_
 exact ⟨_, rfl, ⟨_, _, _, _, bs, rfl, fH.out, fun q hq => by have := hlo2 q hq; omega⟩, HB2.out⟩
theorem SG {a b : List aF} (h : a.map aF.id = b.map aF.id) (id : Int) : dI a id = dI b id := by
 have hl : a.length = b.length := by have := congrArg List.length h; simpa using this
 have hat : ∀ j (h1 : j < a.length) (h2 : j < b.length), a[j].id = b[j].id := fun j h1 h2 => by
  have e1 : (a.map aF.id)[j]'(by simpa using h1) = (b.map aF.id)[j]'(by simpa using h2) := by simp only [h]
  simpa using e1
 cases hb : dI b id with
 | some k =>
  obtain ⟨hk, h1, h2⟩ := mH hb
  exact Cz k (by omega) ((hat k (by omega) hk).trans h1) fun j hj => by rw [hat j (by omega) (by omega)]; exact h2 j hj
 | none =>
  cases ha : dI a id with
  | none => rfl
  | some k =>
   obtain ⟨hk, h1, _⟩ := mH ha
   exact absurd ((hat k hk (by omega)).symm.trans h1) (KP hb _ (List.getElem_mem _))
theorem FP {c : Nat} (h0 : 100 ≤ c) (h1 : c ≤ 999) : okF (bU (c : Int)) = true := FQ (Cv (by omega) (by omega))
theorem xV {w w' : World} {v : Value} {n size : Nat} {xs : List Value} (h : Reads w v n size xs) (hb : Below w.heap.size w w') : Reads w' v n size xs := h.new hb
set_option maxHeartbeats 8000000 in
theorem SH (lo g : Nat) (d : aH) (L : List Fr) (bs : List Nat) (id : Int) (c k : Nat) (w : World) (h : fO w lo g d L bs) (hok : dV d = true) (ha : dI d.reg.es id = some k) (hk : k < d.flows.length) (h0 : 100 ≤ c) (h1 : c ≤ 999) (hL : L.length ≤ 1000000) (ht : qU w) :
  Calls Tryz.prog 26 #[.pointer (some ⟨g, 0, none⟩), .int .i64 id, .int .i64 c] w fun x w' => x = .returned (.tuple #[]) ∧ ∃ D' M bx, fZ lo g w bs w' D' (L ++ M) bx ∧
   (D', M) = if (c : Int) = 200 then ({ d with outT := (bA d.au d.outT [bU c]).2 }, [⟨2, 0, id, (bA d.au d.outT [bU c]).1⟩]) else ({ oD { d with outT := (bA d.au d.outT [bU c]).2 } id 3 with flows := d.flows.set k (rJ d.flows[k]) }, [⟨2, 1, id, (bA d.au d.outT [bU c]).1⟩]) := by
 have FR : bI d.au d.outT = true := (jI.1 hok).2.2.1
 obtain ⟨bb, M, hE⟩ : ∃ bb M, bA d.au d.outT [bU c] = (bb, M) := ⟨_, _, rfl⟩
 have hen : kg d.au d.outT [bU c] = (bb, (d.au, M), true) := by
  unfold kg
  rw [if_pos FR, if_pos (by unfold dZ; simp [FP h0 h1]), hE]
 rw [hE]
 have CB := hide hen
 have SI : Hid (∀ x ∈ M, x.fine) := by
  have hT := xW [bU (c : Int)] FR (fun f hf => by simp at hf; subst hf; exact FP h0 h1)
  rw [hE] at hT
  have SK : M.all okF = true := by unfold bI at hT; simp only [Bool.and_eq_true] at hT; exact hT.2.1
  exact fun x hx => qj (List.all_eq_true.1 SK x hx)
 have CF : Hid (∀ f ∈ [bU (c : Int)], f.fine) := fun f hf => by simp at hf; subst hf; exact qj (FP h0 h1)
 have HM := hide h; have HV := hide ht; have gL := hide hok; have HA := hide ha; have HK := hide hk
 obtain ⟨⟨ve, vi, vo, vf, tv, cb, hrow, hc, h3, h4, h5⟩, hl, hlo, dJ, hbs⟩ := h
 obtain ⟨ao, po, rfl, _, _⟩ := hc.rd.o.form
 have HI := hide hc.rd.o
 have fC := hide hrow
 clear hE hen hrow hc h3 h4 h5 hl hlo dJ hbs ht hok ha FR
 go_enter Tryz.func26, Tryz.ntmps26
 go_upto_region 0 with fail
 go_cut [6, 7, 8] (fun x p y wc => ∃ ta tp gt, x = .string bb ∧ p = .pointer (some ⟨gt, 0, none⟩) ∧ y = .bool true ∧ Hid (Below w.heap.size w wc) ∧ Hid (wc.ownsRow w.heap.size 104 2 (Value.slice ta M.length tp) M.length (fv M)) ∧ Hid (aj wc gt 37 [.int .i64 d.au, .slice ta M.length tp]))
 case first =>
  have hD : Below w.heap.size w (World.drew w) := (Below.refl _ _).drew
  have CG := hide hD
  have CJ := hide (fC.out.new hD)
  clear hD
  refine wp_region_held_drew (S := fun u => aj u g 61 (lJ d ve vi (.slice ao d.outT.length po) vf tv)) (by kernel_rfl) CJ.out (fun hS => ?_)
  generalize World.drew w = v1 at *
  refine wpAnyH_take (i := 0) (v := ?_) rfl (by kernel_rfl) (by kernel_rfl) (by kernel_rfl) (fun _ _ _ h => h) (Or.inl ⟨by rfl, ?_⟩) hS ?_; rotate_left; focus (intro w hw; clear hw; go_simp; try with_reducible rfl)
  refine wpAnyH_take (i := 1) (v := ?_) rfl (by kernel_rfl) (by kernel_rfl) (by kernel_rfl) (fun _ _ _ h => h) (Or.inl ⟨by rfl, ?_⟩) hS ?_; rotate_left; focus (intro w hw; clear hw; go_simp; try with_reducible rfl)
  refine wpAnyH_take (i := 2) (v := ?_) rfl (by kernel_rfl) (by kernel_rfl) (by kernel_rfl) (fun _ _ _ h => h) (Or.inl ⟨by rfl, ?_⟩) hS ?_; rotate_left; focus (intro w hw; clear hw; go_simp; try with_reducible rfl)
  refine wpAnyH_take (i := 3) (v := ?_) rfl (by kernel_rfl) (by kernel_rfl) (by kernel_rfl) (fun _ _ _ h => h) (Or.inl ⟨by rfl, ?_⟩) hS ?_; rotate_left; focus (intro w hw; clear hw; go_simp; try with_reducible rfl)
  refine wpAnyH_take (i := 4) (v := .agg #[.int .i64 d.au, .slice ao d.outT.length po]) rfl (by kernel_rfl) (by kernel_rfl) (by kernel_rfl) (fun _ _ _ h => h) (Or.inl ⟨by kernel_rfl, ?ld⟩) hS ?_
  case ld =>
   intro uu hu
   have z3 := ak 5 hu rfl
   have z4 := ak 6 hu rfl
   clear hu
   go_simp
  refine wpAnyH_take (i := 5) (v := ?_) rfl (by kernel_rfl) (by kernel_rfl) (by kernel_rfl) (fun _ _ _ h => h) (Or.inl ⟨by rfl, ?_⟩) hS ?_; rotate_left; focus (intro w hw; clear hw; go_simp; try with_reducible rfl)
  refine wpAnyH_ready (rs := [6, 14]) (by kernel_rfl) (by simp) ?_
  refine AllReadyH.cons rfl (fun K hK => ?_) (AllReadyH.cons rfl (fun K hK => ?_) AllReadyH.nil)
  ·skip
   try simp only [Act.put, aI, aJ, aK, aL, aM, aN]
   go_simp
   refine (KQ c _ (by omega) (HV.out.new CG.out)).mono ?_; rintro x x1 ⟨rfl, hb⟩
   have FT := hide (ah CG.out hb)
   have CK := hide (CJ.out.new hb)
   refine hK.out _ _ CK.out (fun hS => ?_)
   clear hK K hb
   try simp only [Act.put, aI, aJ, aK, aL, aM, aN]
   refine wpAnyH_take (i := 7) (v := ?_) rfl (by kernel_rfl) (by kernel_rfl) (by kernel_rfl) (fun _ _ _ h => h) (Or.inl ⟨by rfl, ?_⟩) hS ?_; rotate_left; focus (intro w hw; clear hw; go_simp; try with_reducible rfl)
   refine wpAnyH_ready (rs := [8, 14]) (by kernel_rfl) (by simp) ?_
   refine AllReadyH.cons rfl (fun K hK => ?_) (AllReadyH.cons rfl (fun K hK => ?_) AllReadyH.nil)
   ·skip
    try simp only [Act.put, aI, aJ, aK, aL, aM, aN]
    go_simp
    obtain ⟨x2, hw⟩ : ∃ y, x1.alloc (.cells #[.string ⟨#[58, 115, 116, 97, 116, 117, 115]⟩, .string (strOf (iK c))] 104) = y := ⟨_, rfl⟩
    have hb : Below x1.heap.size x1 x2 := by rw [← hw]; exact (Below.refl _ _).alloc (Nat.le_refl _) _
    have xX := hide (ah FT.out hb)
    have CO := hide (CK.out.new hb)
    have FU : Hid (Reads x2 (.slice (some ⟨x1.heap.size, 0, none⟩) 1 1) 1 2 (fv [bU c])) := by
     show Reads _ _ _ _ _
     rw [← hw]
     exact eP (kW x1 104 2 1 #[.string ⟨#[58, 115, 116, 97, 116, 117, 115]⟩, .string (strOf (iK c))] rfl (by omega))
    rw [hw]
    refine hK.out _ _ CO.out (fun hS => ?_)
    clear hK K hb hw
    try simp only [Act.put, aI, aJ, aK, aL, aM, aN]
    refine wpAnyH_ready (rs := [9, 14]) (by kernel_rfl) (by simp) ?_
    refine AllReadyH.cons rfl (fun K hK => ?_) (AllReadyH.cons rfl (fun K hK => ?_) AllReadyH.nil)
    ·skip
     try simp only [Act.put, aI, aJ, aK, aL, aM, aN]
     go_simp
     refine (CP d.outT [bU c] d.au _ _ _ (dM (HI.out.new xX.out)) (eu (HI.out.new xX.out)) FU.out CF.out).mono ?_; rw [CB.out]; rintro x x3 ⟨vn, rfl, ho, hb⟩
     obtain ⟨ta, tp, rfl, _, _⟩ := bW ho
     have KR := hide (ah xX.out hb)
     have FV := hide (CO.out.new hb)
     have SL := hide (xV FU.out hb)
     have zA := hide ho
     have vT := hide xX.out.size
     dsimp only at zA
     refine hK.out _ _ FV.out (fun hS => ?_)
     clear hK K hb ho
     try simp only [Act.put, aI, aJ, aK, aL, aM, aN]
     refine wpAnyH_take (i := 10) (v := ?_) rfl (by kernel_rfl) (by kernel_rfl) (by kernel_rfl) (fun _ _ _ h => h) (Or.inl ⟨by rfl, ?_⟩) hS ?_; rotate_left; focus (intro w hw; clear hw; go_simp; try with_reducible rfl)
     refine wpAnyH_take (i := 11) (v := ?_) rfl (by kernel_rfl) (by kernel_rfl) (by kernel_rfl) (fun _ _ _ h => h) (Or.inl ⟨by rfl, ?_⟩) hS ?_; rotate_left; focus (intro w hw; clear hw; go_simp; try with_reducible rfl)
     refine wpAnyH_take (i := 12) (v := ?_) rfl (by kernel_rfl) (by kernel_rfl) (by kernel_rfl) (fun _ _ _ h => h) (Or.inl ⟨by rfl, ?_⟩) hS ?_; rotate_left; focus (intro w hw; clear hw; go_simp; try with_reducible rfl)
     refine wpAnyH_take (i := 13) (v := ?_) rfl (by kernel_rfl) (by kernel_rfl) (by kernel_rfl) (fun _ _ _ h => h) (Or.inl ⟨by rfl, ?_⟩) hS ?_; rotate_left; focus (intro w hw; clear hw; go_simp; try with_reducible rfl)
     refine wpAnyH_ready (rs := [14]) (by kernel_rfl) (by simp) ?_
     refine AllReadyH.cons rfl (fun K hK => ?_) AllReadyH.nil
     try simp only [Act.put, aI, aJ, aK, aL, aM, aN]
     go_simp
     obtain ⟨x4, hw⟩ : ∃ y, x3.alloc (.cells #[.int .i64 0, .slice none 0 0] 37) = y := ⟨_, rfl⟩
     have hb : Below x3.heap.size x3 x4 := by rw [← hw]; exact (Below.refl _ _).alloc (Nat.le_refl _) _
     obtain ⟨gt, hgt⟩ : ∃ y, x3.heap.size = y := ⟨_, rfl⟩
     have SN := hide (ah KR.out hb)
     have KS := hide (FV.out.new hb)
     have HLx4 := hide (xV SL.out hb)
     have KT := hide (aX zA.out hb)
     have zB : Hid (aj x4 gt 37 [.int .i64 0, .slice none 0 0]) := by
      show aj _ _ _ _
      rw [← hw, ← hgt]; exact aB x3 37 _
     have jK : Hid (g ≠ gt ∧ w.heap.size ≤ gt) := ⟨by have := FV.out.lt; omega, by have := KR.out.size; omega⟩
     have lH : Hid ((Value.slice ta M.length tp).ownBlock ≠ some gt) := fun e => by have := (iV zA.out gt e).2; omega
     rw [hw, hgt]
     refine hK.out _ _ KS.out (fun hS => ?_)
     clear hK K hb hw hgt
     try simp only [Act.put, aI, aJ, aK, aL, aM, aN]
     refine wpAnyH_take (i := 15) (v := ?_) rfl (by kernel_rfl) (by kernel_rfl) (by kernel_rfl) (fun _ _ _ h => h) (Or.inl ⟨by rfl, ?_⟩) hS ?_; rotate_left; focus (intro w hw; clear hw; go_simp; try with_reducible rfl)
     have z0 := ak 0 zB.out rfl
     have z1 := ak 1 zB.out rfl
     have zf := fun j => aj.frozen zB.out j
     have zl := zB.out.lt
     refine wpAnyH_ready (rs := [16]) (by kernel_rfl) (by simp) ?_; refine AllReadyH.cons rfl (fun K hK => ?_) AllReadyH.nil; go_simp
     have vV := hide ((zB.out.set 0 (.int .i64 d.au)).set 1 (.slice ta M.length tp))
     have vW := hide ((SN.out.setCell (p := ⟨gt, 0, none⟩) jK.out.2 (.int .i64 d.au)).setCell (p := ⟨gt, 1, none⟩) jK.out.2 (.slice ta M.length tp))
     have lK := hide (eG (base' := w.heap.size) (fD (fD KT.out ⟨gt, 0, none⟩ (.int .i64 d.au) lH.out) ⟨gt, 1, none⟩ (.slice ta M.length tp) lH.out) (fun q hq => by have := (iV KT.out q hq).1; have := vT.out; omega))
     refine hK.out _ _ ((KS.out.far ⟨gt, 0, none⟩ _ (fun e => jK.out.1 e.symm)).far ⟨gt, 1, none⟩ _ (fun e => jK.out.1 e.symm)) (fun hS => ?_)
     clear hK K z0 z1 zf zl
     try simp only [Act.put, aI, aJ, aK, aL, aM, aN]
     refine wpAnyH_take (i := 17) (v := ?_) rfl (by kernel_rfl) (by kernel_rfl) (by kernel_rfl) (fun _ _ _ h => h) (Or.inl ⟨by rfl, ?_⟩) hS ?_; rotate_left; focus (intro w hw; clear hw; go_simp; try with_reducible rfl)
     refine wpAnyH_done (by kernel_rfl) ?_ _
     go_wp2_with fail
     go_meet
     exact ⟨ta, tp, gt, rfl, rfl, rfl, vW, lK, vV⟩
    ·skip
     try simp only [Act.put, aI, aJ, aK, aL, aM, aN]
     go_simp
     obtain ⟨x5, hw⟩ : ∃ y, x2.alloc (.cells #[.int .i64 0, .slice none 0 0] 37) = y := ⟨_, rfl⟩
     have hb : Below x2.heap.size x2 x5 := by rw [← hw]; exact (Below.refl _ _).alloc (Nat.le_refl _) _
     obtain ⟨gt, hgt⟩ : ∃ y, x2.heap.size = y := ⟨_, rfl⟩
     have CQ := hide (ah xX.out hb)
     have KU := hide (CO.out.new hb)
     have KV := hide (xV FU.out hb)
     have CU : Hid (aj x5 gt 37 [.int .i64 0, .slice none 0 0]) := by
      show aj _ _ _ _
      rw [← hw, ← hgt]; exact aB x2 37 _
     have jK : Hid (g ≠ gt ∧ w.heap.size ≤ gt) := ⟨by have := CO.out.lt; omega, by have := xX.out.size; omega⟩
     rw [hw, hgt]
     refine hK.out _ _ KU.out (fun hS => ?_)
     clear hK K hb hw hgt
     try simp only [Act.put, aI, aJ, aK, aL, aM, aN]
     refine wpAnyH_ready (rs := [9]) (by kernel_rfl) (by simp) ?_
     refine AllReadyH.cons rfl (fun K hK => ?_) AllReadyH.nil
     try simp only [Act.put, aI, aJ, aK, aL, aM, aN]
     go_simp
     refine (CP d.outT [bU c] d.au _ _ _ (dM (HI.out.new CQ.out)) (eu (HI.out.new CQ.out)) KV.out CF.out).mono ?_; rw [CB.out]; rintro x x6 ⟨vn, rfl, ho, hb⟩
     obtain ⟨ta, tp, rfl, _, _⟩ := bW ho
     have hgt := CU.out.lt
     have SQ := hide (ah CQ.out hb)
     have KW := hide (KU.out.new hb)
     have HLx6 := hide (xV KV.out hb)
     have zC := hide (CU.out.new hb)
     have FW := hide ho
     have vT := hide CQ.out.size
     have lH : Hid ((Value.slice ta M.length tp).ownBlock ≠ some gt) := fun e => by have := (iV ho gt e).1; omega
     dsimp only at FW
     refine hK.out _ _ KW.out (fun hS => ?_)
     clear hK K hb ho
     try simp only [Act.put, aI, aJ, aK, aL, aM, aN]
     refine wpAnyH_take (i := 10) (v := ?_) rfl (by kernel_rfl) (by kernel_rfl) (by kernel_rfl) (fun _ _ _ h => h) (Or.inl ⟨by rfl, ?_⟩) hS ?_; rotate_left; focus (intro w hw; clear hw; go_simp; try with_reducible rfl)
     refine wpAnyH_take (i := 11) (v := ?_) rfl (by kernel_rfl) (by kernel_rfl) (by kernel_rfl) (fun _ _ _ h => h) (Or.inl ⟨by rfl, ?_⟩) hS ?_; rotate_left; focus (intro w hw; clear hw; go_simp; try with_reducible rfl)
     refine wpAnyH_take (i := 12) (v := ?_) rfl (by kernel_rfl) (by kernel_rfl) (by kernel_rfl) (fun _ _ _ h => h) (Or.inl ⟨by rfl, ?_⟩) hS ?_; rotate_left; focus (intro w hw; clear hw; go_simp; try with_reducible rfl)
     refine wpAnyH_take (i := 13) (v := ?_) rfl (by kernel_rfl) (by kernel_rfl) (by kernel_rfl) (fun _ _ _ h => h) (Or.inl ⟨by rfl, ?_⟩) hS ?_; rotate_left; focus (intro w hw; clear hw; go_simp; try with_reducible rfl)
     refine wpAnyH_take (i := 15) (v := ?_) rfl (by kernel_rfl) (by kernel_rfl) (by kernel_rfl) (fun _ _ _ h => h) (Or.inl ⟨by rfl, ?_⟩) hS ?_; rotate_left; focus (intro w hw; clear hw; go_simp; try with_reducible rfl)
     have z0 := ak 0 zC.out rfl
     have z1 := ak 1 zC.out rfl
     have zf := fun j => aj.frozen zC.out j
     have zl := zC.out.lt
     refine wpAnyH_ready (rs := [16]) (by kernel_rfl) (by simp) ?_; refine AllReadyH.cons rfl (fun K hK => ?_) AllReadyH.nil; go_simp
     have vV := hide ((zC.out.set 0 (.int .i64 d.au)).set 1 (.slice ta M.length tp))
     have vW := hide ((SQ.out.setCell (p := ⟨gt, 0, none⟩) jK.out.2 (.int .i64 d.au)).setCell (p := ⟨gt, 1, none⟩) jK.out.2 (.slice ta M.length tp))
     have lK := hide (eG (base' := w.heap.size) (fD (fD FW.out ⟨gt, 0, none⟩ (.int .i64 d.au) lH.out) ⟨gt, 1, none⟩ (.slice ta M.length tp) lH.out) (fun q hq => by have := (iV FW.out q hq).1; have := vT.out; omega))
     refine hK.out _ _ ((KW.out.far ⟨gt, 0, none⟩ _ (fun e => jK.out.1 e.symm)).far ⟨gt, 1, none⟩ _ (fun e => jK.out.1 e.symm)) (fun hS => ?_)
     clear hK K z0 z1 zf zl
     try simp only [Act.put, aI, aJ, aK, aL, aM, aN]
     refine wpAnyH_take (i := 17) (v := ?_) rfl (by kernel_rfl) (by kernel_rfl) (by kernel_rfl) (fun _ _ _ h => h) (Or.inl ⟨by rfl, ?_⟩) hS ?_; rotate_left; focus (intro w hw; clear hw; go_simp; try with_reducible rfl)
     refine wpAnyH_done (by kernel_rfl) ?_ _
     go_wp2_with fail
     go_meet
     exact ⟨ta, tp, gt, rfl, rfl, rfl, vW, lK, vV⟩
   ·skip
    try simp only [Act.put, aI, aJ, aK, aL, aM, aN]
    go_simp
    obtain ⟨x7, hw⟩ : ∃ y, x1.alloc (.cells #[.int .i64 0, .slice none 0 0] 37) = y := ⟨_, rfl⟩
    have hb : Below x1.heap.size x1 x7 := by rw [← hw]; exact (Below.refl _ _).alloc (Nat.le_refl _) _
    obtain ⟨gt, hgt⟩ : ∃ y, x1.heap.size = y := ⟨_, rfl⟩
    have SV := hide (ah FT.out hb)
    have KX := hide (CK.out.new hb)
    have SX : Hid (aj x7 gt 37 [.int .i64 0, .slice none 0 0]) := by
     show aj _ _ _ _
     rw [← hw, ← hgt]; exact aB x1 37 _
    have jK : Hid (g ≠ gt ∧ w.heap.size ≤ gt) := ⟨by have := CK.out.lt; omega, by have := FT.out.size; omega⟩
    rw [hw, hgt]
    refine hK.out _ _ KX.out (fun hS => ?_)
    clear hK K hb hw hgt
    try simp only [Act.put, aI, aJ, aK, aL, aM, aN]
    refine wpAnyH_ready (rs := [8]) (by kernel_rfl) (by simp) ?_
    refine AllReadyH.cons rfl (fun K hK => ?_) AllReadyH.nil
    try simp only [Act.put, aI, aJ, aK, aL, aM, aN]
    go_simp
    obtain ⟨x8, hw⟩ : ∃ y, x7.alloc (.cells #[.string ⟨#[58, 115, 116, 97, 116, 117, 115]⟩, .string (strOf (iK c))] 104) = y := ⟨_, rfl⟩
    have hb : Below x7.heap.size x7 x8 := by rw [← hw]; exact (Below.refl _ _).alloc (Nat.le_refl _) _
    have CV := hide (ah SV.out hb)
    have KY := hide (KX.out.new hb)
    have KZ := hide (SX.out.new hb)
    have K5 : Hid (Reads x8 (.slice (some ⟨x7.heap.size, 0, none⟩) 1 1) 1 2 (fv [bU c])) := by
     show Reads _ _ _ _ _
     rw [← hw]
     exact eP (kW x7 104 2 1 #[.string ⟨#[58, 115, 116, 97, 116, 117, 115]⟩, .string (strOf (iK c))] rfl (by omega))
    rw [hw]
    refine hK.out _ _ KY.out (fun hS => ?_)
    clear hK K hb hw
    try simp only [Act.put, aI, aJ, aK, aL, aM, aN]
    refine wpAnyH_ready (rs := [9]) (by kernel_rfl) (by simp) ?_
    refine AllReadyH.cons rfl (fun K hK => ?_) AllReadyH.nil
    try simp only [Act.put, aI, aJ, aK, aL, aM, aN]
    go_simp
    refine (CP d.outT [bU c] d.au _ _ _ (dM (HI.out.new CV.out)) (eu (HI.out.new CV.out)) K5.out CF.out).mono ?_; rw [CB.out]; rintro x x9 ⟨vn, rfl, ho, hb⟩
    obtain ⟨ta, tp, rfl, _, _⟩ := bW ho
    have hgt := KZ.out.lt
    have SY := hide (ah CV.out hb)
    have K6 := hide (KY.out.new hb)
    have HLx9 := hide (xV K5.out hb)
    have zD := hide (KZ.out.new hb)
    have FX := hide ho
    have vT := hide CV.out.size
    have lH : Hid ((Value.slice ta M.length tp).ownBlock ≠ some gt) := fun e => by have := (iV ho gt e).1; omega
    dsimp only at FX
    refine hK.out _ _ K6.out (fun hS => ?_)
    clear hK K hb ho
    try simp only [Act.put, aI, aJ, aK, aL, aM, aN]
    refine wpAnyH_take (i := 10) (v := ?_) rfl (by kernel_rfl) (by kernel_rfl) (by kernel_rfl) (fun _ _ _ h => h) (Or.inl ⟨by rfl, ?_⟩) hS ?_; rotate_left; focus (intro w hw; clear hw; go_simp; try with_reducible rfl)
    refine wpAnyH_take (i := 11) (v := ?_) rfl (by kernel_rfl) (by kernel_rfl) (by kernel_rfl) (fun _ _ _ h => h) (Or.inl ⟨by rfl, ?_⟩) hS ?_; rotate_left; focus (intro w hw; clear hw; go_simp; try with_reducible rfl)
    refine wpAnyH_take (i := 12) (v := ?_) rfl (by kernel_rfl) (by kernel_rfl) (by kernel_rfl) (fun _ _ _ h => h) (Or.inl ⟨by rfl, ?_⟩) hS ?_; rotate_left; focus (intro w hw; clear hw; go_simp; try with_reducible rfl)
    refine wpAnyH_take (i := 13) (v := ?_) rfl (by kernel_rfl) (by kernel_rfl) (by kernel_rfl) (fun _ _ _ h => h) (Or.inl ⟨by rfl, ?_⟩) hS ?_; rotate_left; focus (intro w hw; clear hw; go_simp; try with_reducible rfl)
    refine wpAnyH_take (i := 15) (v := ?_) rfl (by kernel_rfl) (by kernel_rfl) (by kernel_rfl) (fun _ _ _ h => h) (Or.inl ⟨by rfl, ?_⟩) hS ?_; rotate_left; focus (intro w hw; clear hw; go_simp; try with_reducible rfl)
    have z0 := ak 0 zD.out rfl
    have z1 := ak 1 zD.out rfl
    have zf := fun j => aj.frozen zD.out j
    have zl := zD.out.lt
    refine wpAnyH_ready (rs := [16]) (by kernel_rfl) (by simp) ?_; refine AllReadyH.cons rfl (fun K hK => ?_) AllReadyH.nil; go_simp
    have vV := hide ((zD.out.set 0 (.int .i64 d.au)).set 1 (.slice ta M.length tp))
    have vW := hide ((SY.out.setCell (p := ⟨gt, 0, none⟩) jK.out.2 (.int .i64 d.au)).setCell (p := ⟨gt, 1, none⟩) jK.out.2 (.slice ta M.length tp))
    have lK := hide (eG (base' := w.heap.size) (fD (fD FX.out ⟨gt, 0, none⟩ (.int .i64 d.au) lH.out) ⟨gt, 1, none⟩ (.slice ta M.length tp) lH.out) (fun q hq => by have := (iV FX.out q hq).1; have := vT.out; omega))
    refine hK.out _ _ ((K6.out.far ⟨gt, 0, none⟩ _ (fun e => jK.out.1 e.symm)).far ⟨gt, 1, none⟩ _ (fun e => jK.out.1 e.symm)) (fun hS => ?_)
    clear hK K z0 z1 zf zl
    try simp only [Act.put, aI, aJ, aK, aL, aM, aN]
    refine wpAnyH_take (i := 17) (v := ?_) rfl (by kernel_rfl) (by kernel_rfl) (by kernel_rfl) (fun _ _ _ h => h) (Or.inl ⟨by rfl, ?_⟩) hS ?_; rotate_left; focus (intro w hw; clear hw; go_simp; try with_reducible rfl)
    refine wpAnyH_done (by kernel_rfl) ?_ _
    go_wp2_with fail
    go_meet
    exact ⟨ta, tp, gt, rfl, rfl, rfl, vW, lK, vV⟩
  ·skip
   try simp only [Act.put, aI, aJ, aK, aL, aM, aN]
   go_simp
   obtain ⟨x10, hw⟩ : ∃ y, v1.alloc (.cells #[.int .i64 0, .slice none 0 0] 37) = y := ⟨_, rfl⟩
   have hb : Below v1.heap.size v1 x10 := by rw [← hw]; exact (Below.refl _ _).alloc (Nat.le_refl _) _
   obtain ⟨gt, hgt⟩ : ∃ y, v1.heap.size = y := ⟨_, rfl⟩
   have K7 := hide (ah CG.out hb)
   have K9 := hide (CJ.out.new hb)
   have S9 : Hid (aj x10 gt 37 [.int .i64 0, .slice none 0 0]) := by
    show aj _ _ _ _
    rw [← hw, ← hgt]; exact aB v1 37 _
   have jK : Hid (g ≠ gt ∧ w.heap.size ≤ gt) := ⟨by have := CJ.out.lt; omega, by have := CG.out.size; omega⟩
   rw [hw, hgt]
   refine hK.out _ _ K9.out (fun hS => ?_)
   clear hK K hb hw hgt
   try simp only [Act.put, aI, aJ, aK, aL, aM, aN]
   refine wpAnyH_ready (rs := [6]) (by kernel_rfl) (by simp) ?_
   refine AllReadyH.cons rfl (fun K hK => ?_) AllReadyH.nil
   try simp only [Act.put, aI, aJ, aK, aL, aM, aN]
   go_simp
   refine (KQ c _ (by omega) (HV.out.new K7.out)).mono ?_; rintro x bC ⟨rfl, hb⟩
   have Ta := hide (ah K7.out hb)
   have La := hide (K9.out.new hb)
   have Tc := hide (S9.out.new hb)
   refine hK.out _ _ La.out (fun hS => ?_)
   clear hK K hb
   try simp only [Act.put, aI, aJ, aK, aL, aM, aN]
   refine wpAnyH_take (i := 7) (v := ?_) rfl (by kernel_rfl) (by kernel_rfl) (by kernel_rfl) (fun _ _ _ h => h) (Or.inl ⟨by rfl, ?_⟩) hS ?_; rotate_left; focus (intro w hw; clear hw; go_simp; try with_reducible rfl)
   refine wpAnyH_ready (rs := [8]) (by kernel_rfl) (by simp) ?_
   refine AllReadyH.cons rfl (fun K hK => ?_) AllReadyH.nil
   try simp only [Act.put, aI, aJ, aK, aL, aM, aN]
   go_simp
   obtain ⟨bS, hw⟩ : ∃ y, bC.alloc (.cells #[.string ⟨#[58, 115, 116, 97, 116, 117, 115]⟩, .string (strOf (iK c))] 104) = y := ⟨_, rfl⟩
   have hb : Below bC.heap.size bC bS := by rw [← hw]; exact (Below.refl _ _).alloc (Nat.le_refl _) _
   have CW := hide (ah Ta.out hb)
   have Lb := hide (La.out.new hb)
   have Lc := hide (Tc.out.new hb)
   have Ld : Hid (Reads bS (.slice (some ⟨bC.heap.size, 0, none⟩) 1 1) 1 2 (fv [bU c])) := by
    show Reads _ _ _ _ _
    rw [← hw]
    exact eP (kW bC 104 2 1 #[.string ⟨#[58, 115, 116, 97, 116, 117, 115]⟩, .string (strOf (iK c))] rfl (by omega))
   rw [hw]
   refine hK.out _ _ Lb.out (fun hS => ?_)
   clear hK K hb hw
   try simp only [Act.put, aI, aJ, aK, aL, aM, aN]
   refine wpAnyH_ready (rs := [9]) (by kernel_rfl) (by simp) ?_
   refine AllReadyH.cons rfl (fun K hK => ?_) AllReadyH.nil
   try simp only [Act.put, aI, aJ, aK, aL, aM, aN]
   go_simp
   refine (CP d.outT [bU c] d.au _ _ _ (dM (HI.out.new CW.out)) (eu (HI.out.new CW.out)) Ld.out CF.out).mono ?_; rw [CB.out]; rintro x oF ⟨vn, rfl, ho, hb⟩
   obtain ⟨ta, tp, rfl, _, _⟩ := bW ho
   have hgt := Lc.out.lt
   have Td := hide (ah CW.out hb)
   have Lg := hide (Lb.out.new hb)
   have abk := hide (xV Ld.out hb)
   have zG := hide (Lc.out.new hb)
   have FY := hide ho
   have vT := hide CW.out.size
   have lH : Hid ((Value.slice ta M.length tp).ownBlock ≠ some gt) := fun e => by have := (iV ho gt e).1; omega
   dsimp only at FY
   refine hK.out _ _ Lg.out (fun hS => ?_)
   clear hK K hb ho
   try simp only [Act.put, aI, aJ, aK, aL, aM, aN]
   refine wpAnyH_take (i := 10) (v := ?_) rfl (by kernel_rfl) (by kernel_rfl) (by kernel_rfl) (fun _ _ _ h => h) (Or.inl ⟨by rfl, ?_⟩) hS ?_; rotate_left; focus (intro w hw; clear hw; go_simp; try with_reducible rfl)
   refine wpAnyH_take (i := 11) (v := ?_) rfl (by kernel_rfl) (by kernel_rfl) (by kernel_rfl) (fun _ _ _ h => h) (Or.inl ⟨by rfl, ?_⟩) hS ?_; rotate_left; focus (intro w hw; clear hw; go_simp; try with_reducible rfl)
   refine wpAnyH_take (i := 12) (v := ?_) rfl (by kernel_rfl) (by kernel_rfl) (by kernel_rfl) (fun _ _ _ h => h) (Or.inl ⟨by rfl, ?_⟩) hS ?_; rotate_left; focus (intro w hw; clear hw; go_simp; try with_reducible rfl)
   refine wpAnyH_take (i := 13) (v := ?_) rfl (by kernel_rfl) (by kernel_rfl) (by kernel_rfl) (fun _ _ _ h => h) (Or.inl ⟨by rfl, ?_⟩) hS ?_; rotate_left; focus (intro w hw; clear hw; go_simp; try with_reducible rfl)
   refine wpAnyH_take (i := 15) (v := ?_) rfl (by kernel_rfl) (by kernel_rfl) (by kernel_rfl) (fun _ _ _ h => h) (Or.inl ⟨by rfl, ?_⟩) hS ?_; rotate_left; focus (intro w hw; clear hw; go_simp; try with_reducible rfl)
   have z0 := ak 0 zG.out rfl
   have z1 := ak 1 zG.out rfl
   have zf := fun j => aj.frozen zG.out j
   have zl := zG.out.lt
   refine wpAnyH_ready (rs := [16]) (by kernel_rfl) (by simp) ?_; refine AllReadyH.cons rfl (fun K hK => ?_) AllReadyH.nil; go_simp
   have vV := hide ((zG.out.set 0 (.int .i64 d.au)).set 1 (.slice ta M.length tp))
   have vW := hide ((Td.out.setCell (p := ⟨gt, 0, none⟩) jK.out.2 (.int .i64 d.au)).setCell (p := ⟨gt, 1, none⟩) jK.out.2 (.slice ta M.length tp))
   have lK := hide (eG (base' := w.heap.size) (fD (fD FY.out ⟨gt, 0, none⟩ (.int .i64 d.au) lH.out) ⟨gt, 1, none⟩ (.slice ta M.length tp) lH.out) (fun q hq => by have := (iV FY.out q hq).1; have := vT.out; omega))
   refine hK.out _ _ ((Lg.out.far ⟨gt, 0, none⟩ _ (fun e => jK.out.1 e.symm)).far ⟨gt, 1, none⟩ _ (fun e => jK.out.1 e.symm)) (fun hS => ?_)
   clear hK K z0 z1 zf zl
   try simp only [Act.put, aI, aJ, aK, aL, aM, aN]
   refine wpAnyH_take (i := 17) (v := ?_) rfl (by kernel_rfl) (by kernel_rfl) (by kernel_rfl) (fun _ _ _ h => h) (Or.inl ⟨by rfl, ?_⟩) hS ?_; rotate_left; focus (intro w hw; clear hw; go_simp; try with_reducible rfl)
   refine wpAnyH_done (by kernel_rfl) ?_ _
   go_wp2_with fail
   go_meet
   exact ⟨ta, tp, gt, rfl, rfl, rfl, vW, lK, vV⟩
 rename_i wc
 obtain ⟨ta, tp, gt, rfl, rfl, rfl, aC, HO, FZ⟩ := hcut
 obtain ⟨Te, hls⟩ := HM.out.Tf aC.out d.au M (.slice ta M.length tp) (vR HO.out SI.out)
 obtain ⟨D1, hD1⟩ : ∃ D1 : aH, ({ d with outT := M } : aH) = D1 := ⟨_, rfl⟩
 have Lh : fZ lo g w bs ((wc.setCell ⟨g, 5, none⟩ (.int .i64 d.au)).setCell ⟨g, 6, none⟩ (.slice ta M.length tp)) D1 L Te := by rw [← hD1]; exact hls
 have hmc := HM.out.new aC.out
 obtain ⟨⟨qe, qi, qo, qf, qt, cb, hrow, hc, h3, h4, h5⟩, hl, hlo, dJ, hbs⟩ := hmc
 have y5 := ak 5 hrow rfl
 have y6 := ak 6 hrow rfl
 have yf := fun j => aj.frozen hrow j
 have yl := hrow.lt
 have t0 := ak 0 FZ.out rfl
 have t1 := ak 1 FZ.out rfl
 have rM := hide Lh
 have HD1 : Hid (D1.reg = d.reg ∧ D1.flows = d.flows) := ⟨by rw [← hD1], by rw [← hD1]⟩
 have zH := hide hD1
 clear hls Lh hD1 hrow hc h3 h4 h5 hl hlo dJ hbs FZ HO
 go_upto_region 2 with fail
 generalize (wc.setCell ⟨g, 5, none⟩ (.int .i64 d.au)).setCell ⟨g, 6, none⟩ (.slice ta M.length tp) = W at *
 clear y5 y6 yf yl t0 t1
 by_cases h2 : c = 200
 ·subst h2
  have hm := rM.out.m
  go_wp2_with fail
  refine (Lj lo g D1 L _ 2 0 id bb _ hm hL).mono ?_; rintro x w5 ⟨rfl, bx, hl5⟩
  have HF := hide (rM.out.step hl5)
  clear hl5 hm
  go_wp2_with fail
  first | go_end0 | refine bodyPost_ret (results_none rfl _ _ _) rfl ?_
  have hh := HF.out
  rw [← zH.out] at hh
  exact ⟨rfl, bx, hh⟩
 have Tg : ((c : Int) != 200) = true := by simp; omega
 have Ll : ¬ (c : Int) = 200 := by omega
 have H2 := hide Ll
 have hrg : fE D1.reg = true := by rw [HD1.out.1]; exact (jI.1 gL.out).1
 obtain ⟨D2, hD2⟩ : ∃ D2, oD D1 id 3 = D2 := ⟨_, rfl⟩
 have vX : D2.flows = d.flows := by rw [← hD2]; exact HD1.out.2
 have Lm : dI D2.reg.es id = some k := by
  rw [← hD2, ← HA.out, ← HD1.out.1]
  exact SG (CX D1.reg id 3) id
 have hle2 : D2.flows.length = D2.reg.es.length ∧ D2.reg.es.length ≤ 60 := by
  have h1 := congrArg List.length (CX D1.reg id 3)
  have h3 := rH gL.out
  simp only [List.length_map] at h1
  rw [vX, ← hD2]
  show _ = (gq D1.reg id 3).1.es.length ∧ (gq D1.reg id 3).1.es.length ≤ 60
  rw [h1, HD1.out.1]; exact h3
 have HD2 := hide hD2; have Ti := hide Lm; have Lp := hide hle2; have F3 := hide vX
 have hm := rM.out.m
 clear h2 Ll hD2 vX Lm hle2
 go_wp2_with fail
 refine (Tj lo g D1 L _ id 3 _ hm hrg).mono ?_; rw [HD2.out]; rintro x w5 ⟨rfl, bx, hl5⟩
 have CY := hide (rM.out.step hl5)
 clear hl5 hm hrg rM
 have hk2 : k < D2.flows.length := by rw [F3.out]; exact HK.out
 obtain ⟨gf, A, C, pe, pi, pq, cap, v0, tv2, hrow, hgb, CZ, hgg, hmid, f0, f1, hput⟩ := CY.out.m.xY k hk2
 have hF : D2.flows[k] = d.flows[k]'HK.out := by simp only [F3.out]
 have bK := zu gL.out (List.getElem_mem HK.out)
 obtain ⟨F, F4⟩ : ∃ F, d.flows[k]'HK.out = F := ⟨_, rfl⟩
 rw [hF] at hmid f0 f1 hput
 rw [F4] at hmid f0 f1 hput bK
 have hpp := (F5 bK.2.2.1).2.1
 have Tk : Hid (okB F.tun.dn.r F.tun.dn.b F.tun.dn.k = true) := hpp
 have F6 := hide F4
 have zK : Hid (F.tun.dn.b.size ≤ 2000) := by show _ ≤ _; have := C8 hpp; omega
 have HX := hide (ak 10 hrow rfl)
 have HP := hide hput
 have Tm := hide hmid.off
 have vY := hide (bL.part (p := [.int .i64 F.id, .int .i64 F.get, .int .i64 F.give, v0, .int .i64 F.tun.up.r, .string F.tun.up.b, .bool F.tun.up.e, .bool F.tun.up.k]) (m := Lr F.tun.dn) (q := [.int .i64 F.tun.went, .int .i64 F.tun.came, .bool F.ended]) hmid)
 have F0 := hide f0; have F1 := hide f1
 have zL := CY.out.m
 clear hrow hgb CZ hgg hmid f0 f1 hput hF F4 bK hpp hk2
 go_wp2_with fail
 refine (Tn lo g D2 L bx id k gf cap _ zL Lp.out.1 Lp.out.2 Ti.out HX.out).mono ?_; rintro x w6 ⟨rfl, hb6⟩
 replace vY := hide (vY.out.new hb6)
 have HT := hide (aG.new (bs := [gf]) hb6)
 clear hb6 zL HX
 go_wp2_with (refine wpList_load_mid (by rfl) 88 _ (by rfl) gf (k * 15 + 8) (by rfl) (Lr F.tun.dn) _ (fun j u hu => vY.out.cell hu) Tryz.underlying88 rfl (by kernel_rfl) ?_)
 refine (Tp F.tun.dn.r F.tun.dn.b F.tun.dn.e F.tun.dn.k _ (by have := zK.out; unfold maxLen; omega) (by have := zK.out; omega)).mono ?_; rw [if_pos Tk.out]; rintro x w7 ⟨rfl, dK⟩
 replace vY := hide (vY.out.new dK)
 replace HT := hide (HT.out.trans (aG.new dK))
 clear dK
 go_wp2_with (refine wpList_store_mid (by rfl) 88 _ _ (by rfl) gf (k * 15 + 8) [.int .i64 F.tun.dn.r, .string F.tun.dn.b, .bool true, .bool F.tun.dn.k] (by rfl) (by rfl) 92 _ _ _ vY.out (by kernel_rfl) rfl (by intro u hu; simp at hu; rcases hu with rfl | rfl | rfl | rfl <;> rfl) ?_)
 intro w8 Ls nP
 have Lu := bL.whole (p := [.int .i64 F.id, .int .i64 F.get, .int .i64 F.give, v0, .int .i64 F.tun.up.r, .string F.tun.up.b, .bool F.tun.up.e, .bool F.tun.up.k]) (m := [.int .i64 F.tun.dn.r, .string F.tun.dn.b, .bool true, .bool F.tun.dn.k]) (q := [.int .i64 F.tun.went, .int .i64 F.tun.came, .bool F.ended]) Ls Tm.out
 have C9 := CY.out.step (HP.out w8 (rJ F) rfl F0.out F1.out Lu (HT.out.trans nP))
 obtain ⟨D3, hD3⟩ : ∃ D3 : aH, ({ D2 with flows := D2.flows.set k (rJ F) } : aH) = D3 := ⟨_, rfl⟩
 rw [hD3] at C9
 have Tq := hide C9; have HD3 := hide hD3
 have hm := C9.m
 clear Lu Ls nP C9 vY HT HP CY hD3
 go_wp2_with fail
 refine (Lj lo g D3 L _ 2 1 id bb _ hm hL).mono ?_; rintro x w9 ⟨rfl, bz, ko⟩
 have Tt := hide (Tq.out.step ko)
 clear ko hm
 go_wp2_with fail
 first | go_end0 | refine bodyPost_ret (results_none rfl _ _ _) rfl ?_
 have hh := Tt.out
 rw [← HD3.out, F3.out, ← HD2.out, ← zH.out, ← F6.out] at hh
 exact ⟨rfl, bz, hh⟩
end Go.Proofs.YtlpbnkideaojeaaGreatDoor
