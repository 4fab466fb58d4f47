/- Several small texts of one level, one behind the other. -/
import Derived.Test.YtllaeakeaabiaaaGreatQG37
import Derived.Test.YtllaeakeaabiaaaGreatQG30
import Derived.Test.YtllaeakeaabiaaaGreatQG34
import Derived.Test.YtllaeakeaabiaaaGreatQG31
import Derived.Test.YtllaeakeaabiaaaGreatQG4
import Derived.Test.YtllaeakeaabiaaaGreatQG5
import Derived.Test.YtllaeakeaabiaaaGreatQG8
import Derived.Deep.DeepMust
import Derived.Test.YtllaeakeaabiaaaGreatQG28
/- Chapter 17's model as it is called: a frame got. -/
namespace Go.Proofs.YtllaeakeaabiaaaGreat
open Go.RowKit
set_option maxRecDepth 100000
set_option linter.unusedSimpArgs false
set_option linter.unusedVariables false
set_option maxHeartbeats 8000000 in
theorem specGot (d : CnD) (ve vi vo vf : Value) (f : Fr) (w : World) (hv : CnRd w d ve vi vo vf) (hf : f.b.size ≤ maxLen) :
    Calls Tryz.prog 7 #[cnv d ve vi vo vf, frv f] w fun x w' => ∃ v vfr, x = .returned (.tuple #[v, vfr]) ∧ FaceF w.heap.size ((gotD d f).1, (gotD d f).2) v vfr w' ∧ Below w.heap.size w w' := by
  have HV := hide hv
  obtain ⟨ae, pe, rfl, _, _⟩ := hv.e.form
  obtain ⟨ai, pi, rfl, _, _⟩ := hv.i.form
  obtain ⟨ao, po, rfl, _, _⟩ := hv.o.form
  obtain ⟨af, pf, rfl, _, _⟩ := hv.f.form
  clear hv
  have hbA : Below w.heap.size w (w.alloc (.cells #[.int .i64 d.reg.lim, .int .i64 d.reg.top, .slice ae d.reg.es.length pe, .int .i64 d.inr, .slice ai d.inT.length pi, .int .i64 d.outr, .slice ao d.outT.length po, .int .i64 d.get, .int .i64 d.give, .int .i64 d.first, .slice af d.flows.length pf, .bool d.away, .bool d.dead] 43)) := (Below.refl _ _).alloc (Nat.le_refl _) _
  have RA := rowIs_new w 43 [.int .i64 d.reg.lim, .int .i64 d.reg.top, .slice ae d.reg.es.length pe, .int .i64 d.inr, .slice ai d.inT.length pi, .int .i64 d.outr, .slice ao d.outT.length po, .int .i64 d.get, .int .i64 d.give, .int .i64 d.first, .slice af d.flows.length pf, .bool d.away, .bool d.dead]
  generalize hA : w.alloc (.cells #[.int .i64 d.reg.lim, .int .i64 d.reg.top, .slice ae d.reg.es.length pe, .int .i64 d.inr, .slice ai d.inT.length pi, .int .i64 d.outr, .slice ao d.outT.length po, .int .i64 d.get, .int .i64 d.give, .int .i64 d.first, .slice af d.flows.length pf, .bool d.away, .bool d.dead] 43) = WA at *
  have hbF : Below WA.heap.size WA (WA.alloc (.cells #[.int .i64 f.k, .int .i64 f.fl, .int .i64 f.st, .string f.b] 48)) := (Below.refl _ _).alloc (Nat.le_refl _) _
  have RF := rowIs_new WA 48 [.int .i64 f.k, .int .i64 f.fl, .int .i64 f.st, .string f.b]
  have hsA : WA.heap.size = w.heap.size + 1 := by rw [← hA]; simp
  generalize hF : WA.alloc (.cells #[.int .i64 f.k, .int .i64 f.fl, .int .i64 f.st, .string f.b] 48) = WF at *
  have hsF : WF.heap.size = w.heap.size + 2 := by rw [← hF]; simp; omega
  replace RA := RA.new hbF
  have hbZ : Below WF.heap.size WF (WF.alloc (.cells #[.int .i64 0, .int .i64 0, .slice none 0 0, .int .i64 0, .slice none 0 0, .int .i64 0, .slice none 0 0, .int .i64 0, .int .i64 0, .int .i64 0, .slice none 0 0, .bool false, .bool false] 43)) := (Below.refl _ _).alloc (Nat.le_refl _) _
  have RZ := rowIs_new WF 43 [.int .i64 0, .int .i64 0, .slice none 0 0, .int .i64 0, .slice none 0 0, .int .i64 0, .slice none 0 0, .int .i64 0, .int .i64 0, .int .i64 0, .slice none 0 0, .bool false, .bool false]
  generalize hZ : WF.alloc (.cells #[.int .i64 0, .int .i64 0, .slice none 0 0, .int .i64 0, .slice none 0 0, .int .i64 0, .slice none 0 0, .int .i64 0, .int .i64 0, .int .i64 0, .slice none 0 0, .bool false, .bool false] 43) = WZ at *
  replace RA := RA.new hbZ
  replace RF := RF.new hbZ
  rw [hsF] at RZ
  rw [hsA] at RF
  have HB := hide (bchain (bchain hbA hbF) hbZ)
  go_enter Tryz.func7, Tryz.ntmps7
  go_upto_region 1 with fail
  have HSZ : Hid (WZ.heap.size = w.heap.size + 3) := by show _ = _; rw [← hZ]; simp; omega
  clear hA hZ hsA hbA hbZ hF hsF hbF WA WF
  go_wp2_with (refine wpList_load_row (by rfl) 43 _ (by rfl) w.heap.size (by rfl) [.int .i64 d.reg.lim, .int .i64 d.reg.top, .slice ae d.reg.es.length pe, .int .i64 d.inr, .slice ai d.inT.length pi, .int .i64 d.outr, .slice ao d.outT.length po, .int .i64 d.get, .int .i64 d.give, .int .i64 d.first, .slice af d.flows.length pf, .bool d.away, .bool d.dead] _ 43 RA Tryz.underlying43 rfl (by kernel_rfl) ?_)
  refine (specConnOk d _ _ _ _ _ (HV.out.new HB.out)).mono ?_; rintro e w1 ⟨rfl, hb1⟩
  replace RA := RA.new hb1; replace RZ := RZ.new hb1; replace RF := RF.new hb1
  have HW1 : Hid (w.heap.size + 3 ≤ w1.heap.size) := by show _ ≤ _; have := hb1.size; have := HSZ.out; omega
  replace HB := hide (bchain HB.out hb1)
  clear hb1
  cases hok : okCn d
  · have HG : Hid (gotD d f = (zCn, [])) := by show _ = _; unfold gotD; rw [if_pos hok]
    have hbE : Below w1.heap.size w1 (w1.alloc (.cells #[] 48)) := (Below.refl _ _).alloc (Nat.le_refl _) _
    have HOE : Hid ((w1.alloc (.cells #[] 48)).ownsRow w.heap.size 48 4 (.slice (some ⟨w1.heap.size, 0, none⟩) 0 0) 0 (fr [])) := owns_base (owns_lit w1 48 4 0 #[] rfl (by omega)) (fun q hq => by simp [Value.ownBlock] at hq; have := HW1.out; omega)
    have RZE := RZ.new hbE
    have hB2 := hide (below_setRow (bchain HB.out hbE) (show w.heap.size ≤ w.heap.size + 2 by omega) #[.int .i64 0, .int .i64 0, .slice none 0 0, .int .i64 0, .slice none 0 0, .int .i64 0, .slice none 0 0, .int .i64 0, .int .i64 0, .int .i64 0, .slice none 0 0, .bool false, .bool false])
    have RZ2 := hide (rowIs_setRow (cs' := [.int .i64 0, .int .i64 0, .slice none 0 0, .int .i64 0, .slice none 0 0, .int .i64 0, .slice none 0 0, .int .i64 0, .int .i64 0, .int .i64 0, .slice none 0 0, .bool false, .bool false]) RZE)
    have HOE2 := hide (owns_kept (w' := (w1.alloc (.cells #[] 48)).setRow (w.heap.size + 2) #[.int .i64 0, .int .i64 0, .slice none 0 0, .int .i64 0, .slice none 0 0, .int .i64 0, .slice none 0 0, .int .i64 0, .int .i64 0, .int .i64 0, .slice none 0 0, .bool false, .bool false]) HOE.out (fun k hk _ => setRow_other _ _ _ _ (by simp [Value.ownBlock] at hk; have := HW1.out; omega)))
    go_wp2_with (refine wpList_store_row (by rfl) 43 _ _ (by rfl) (w.heap.size + 2) [.int .i64 0, .int .i64 0, .slice none 0 0, .int .i64 0, .slice none 0 0, .int .i64 0, .slice none 0 0, .int .i64 0, .int .i64 0, .int .i64 0, .slice none 0 0, .bool false, .bool false] (by rfl) (by rfl) 43 [.int .i64 0, .int .i64 0, .slice none 0 0, .int .i64 0, .slice none 0 0, .int .i64 0, .slice none 0 0, .int .i64 0, .int .i64 0, .int .i64 0, .slice none 0 0, .bool false, .bool false] RZE (by kernel_rfl) rfl (by intro u hu; simp at hu; rcases hu with rfl | rfl | rfl | rfl | rfl | rfl | rfl | rfl | rfl | rfl | rfl | rfl | rfl <;> rfl) ?_)
    generalize (w1.alloc (.cells #[] 48)).setRow (w.heap.size + 2) #[.int .i64 0, .int .i64 0, .slice none 0 0, .int .i64 0, .slice none 0 0, .int .i64 0, .slice none 0 0, .int .i64 0, .int .i64 0, .int .i64 0, .slice none 0 0, .bool false, .bool false] = V at *
    have z0 := RowIs.cell (j := 0) RZ2.out rfl
    have z1 := RowIs.cell (j := 1) RZ2.out rfl
    have z2 := RowIs.cell (j := 2) RZ2.out rfl
    have z3 := RowIs.cell (j := 3) RZ2.out rfl
    have z4 := RowIs.cell (j := 4) RZ2.out rfl
    have z5 := RowIs.cell (j := 5) RZ2.out rfl
    have z6 := RowIs.cell (j := 6) RZ2.out rfl
    have z7 := RowIs.cell (j := 7) RZ2.out rfl
    have z8 := RowIs.cell (j := 8) RZ2.out rfl
    have z9 := RowIs.cell (j := 9) RZ2.out rfl
    have z10 := RowIs.cell (j := 10) RZ2.out rfl
    have z11 := RowIs.cell (j := 11) RZ2.out rfl
    have z12 := RowIs.cell (j := 12) RZ2.out rfl
    have zf := fun j => RowIs.frozen RZ2.out j
    refine bodyPost_ret (v := .tuple #[.agg #[.int .i64 0, .int .i64 0, .slice none 0 0, .int .i64 0, .slice none 0 0, .int .i64 0, .slice none 0 0, .int .i64 0, .int .i64 0, .int .i64 0, .slice none 0 0, .bool false, .bool false], .slice (some ⟨w1.heap.size, 0, none⟩) 0 0]) (by simp [results, Tryz.results7, go_sem, *]) rfl ?_
    rw [HG.out]
    exact ⟨_, _, rfl, ⟨_, _, _, _, [], rfl, zero_ow V, fun b hb => (by cases hb), HOE2.out, fun q hq hx => (by cases hx)⟩, hB2.out⟩
  have HG : Hid (gotD d f = (if okFr f = false then (d, []) else gotRaw d f)) := by show _ = _; unfold gotD; rw [if_neg (by rw [hok]; decide)]
  go_wp2_with (refine wpList_load_row (by rfl) 43 _ (by rfl) w.heap.size (by rfl) [.int .i64 d.reg.lim, .int .i64 d.reg.top, .slice ae d.reg.es.length pe, .int .i64 d.inr, .slice ai d.inT.length pi, .int .i64 d.outr, .slice ao d.outT.length po, .int .i64 d.get, .int .i64 d.give, .int .i64 d.first, .slice af d.flows.length pf, .bool d.away, .bool d.dead] _ 43 RA Tryz.underlying43 rfl (by kernel_rfl) ?_)
  refine (specCopy17 d _ _ _ _ _ (HV.out.new HB.out) hok).mono ?_; rintro e w2 ⟨vc, rfl, hnc, hb2⟩
  obtain ⟨ve2, vi2, vo2, vf2, bs, rfl, hcn, hlo⟩ := hnc
  obtain ⟨ae2, pe2, rfl, _, _⟩ := hcn.rd.e.form
  obtain ⟨ai2, pi2, rfl, _, _⟩ := hcn.rd.i.form
  obtain ⟨ao2, po2, rfl, _, _⟩ := hcn.rd.o.form
  obtain ⟨af2, pf2, rfl, _, _⟩ := hcn.rd.f.form
  dsimp only [cnv]
  have hz1 : w.heap.size + 3 ≤ w1.heap.size := by exact HW1.out
  have HZ1 := hide hz1
  have hz2 := hb2.size
  replace RZ := RZ.new hb2
  replace RF := RF.new hb2
  replace HB := hide (bchain HB.out hb2)
  have hbO : Below w2.heap.size w2 ((w2.alloc (.cells #[.int .i64 0, .int .i64 0, .slice none 0 0, .int .i64 0, .slice none 0 0, .int .i64 0, .slice none 0 0, .int .i64 0, .int .i64 0, .int .i64 0, .slice none 0 0, .bool false, .bool false] 43)).setRow w2.heap.size #[.int .i64 d.reg.lim, .int .i64 d.reg.top, .slice ae2 d.reg.es.length pe2, .int .i64 d.inr, .slice ai2 d.inT.length pi2, .int .i64 d.outr, .slice ao2 d.outT.length po2, .int .i64 d.get, .int .i64 d.give, .int .i64 d.first, .slice af2 d.flows.length pf2, .bool d.away, .bool d.dead]) := below_setRow ((Below.refl _ _).alloc (Nat.le_refl _) _) (Nat.le_refl _) #[.int .i64 d.reg.lim, .int .i64 d.reg.top, .slice ae2 d.reg.es.length pe2, .int .i64 d.inr, .slice ai2 d.inT.length pi2, .int .i64 d.outr, .slice ao2 d.outT.length po2, .int .i64 d.get, .int .i64 d.give, .int .i64 d.first, .slice af2 d.flows.length pf2, .bool d.away, .bool d.dead]
  have RN := rowIs_new w2 43 [.int .i64 0, .int .i64 0, .slice none 0 0, .int .i64 0, .slice none 0 0, .int .i64 0, .slice none 0 0, .int .i64 0, .int .i64 0, .int .i64 0, .slice none 0 0, .bool false, .bool false]
  have HCM : Hid (CnM ((w2.alloc (.cells #[.int .i64 0, .int .i64 0, .slice none 0 0, .int .i64 0, .slice none 0 0, .int .i64 0, .slice none 0 0, .int .i64 0, .int .i64 0, .int .i64 0, .slice none 0 0, .bool false, .bool false] 43)).setRow w2.heap.size #[.int .i64 d.reg.lim, .int .i64 d.reg.top, .slice ae2 d.reg.es.length pe2, .int .i64 d.inr, .slice ai2 d.inT.length pi2, .int .i64 d.outr, .slice ao2 d.outT.length po2, .int .i64 d.get, .int .i64 d.give, .int .i64 d.first, .slice af2 d.flows.length pf2, .bool d.away, .bool d.dead]) w2.heap.size d bs) := ⟨⟨_, _, _, _, rowIs_setRow (cs' := [.int .i64 d.reg.lim, .int .i64 d.reg.top, .slice ae2 d.reg.es.length pe2, .int .i64 d.inr, .slice ai2 d.inT.length pi2, .int .i64 d.outr, .slice ao2 d.outT.length po2, .int .i64 d.get, .int .i64 d.give, .int .i64 d.first, .slice af2 d.flows.length pf2, .bool d.away, .bool d.dead]) RN, hcn.new hbO⟩, fun hx => by have := hcn.lt _ hx; omega⟩
  have HLO := hide hlo
  have HRZ := hide (RZ.new hbO)
  have HRF := hide (RF.new hbO)
  have HRO := hide (rowIs_setRow (cs' := [.int .i64 d.reg.lim, .int .i64 d.reg.top, .slice ae2 d.reg.es.length pe2, .int .i64 d.inr, .slice ai2 d.inT.length pi2, .int .i64 d.outr, .slice ao2 d.outT.length po2, .int .i64 d.get, .int .i64 d.give, .int .i64 d.first, .slice af2 d.flows.length pf2, .bool d.away, .bool d.dead]) RN)
  have HCN0 := hide (hcn.new hbO)
  replace HB := hide (bchain HB.out hbO)
  clear hb2 hcn hlo RA
  go_upto_region 4 with (refine wpList_store_row (by rfl) 43 _ _ (by rfl) w2.heap.size [.int .i64 d.reg.lim, .int .i64 d.reg.top, .slice ae2 d.reg.es.length pe2, .int .i64 d.inr, .slice ai2 d.inT.length pi2, .int .i64 d.outr, .slice ao2 d.outT.length po2, .int .i64 d.get, .int .i64 d.give, .int .i64 d.first, .slice af2 d.flows.length pf2, .bool d.away, .bool d.dead] (by rfl) (by rfl) 43 [.int .i64 0, .int .i64 0, .slice none 0 0, .int .i64 0, .slice none 0 0, .int .i64 0, .slice none 0 0, .int .i64 0, .int .i64 0, .int .i64 0, .slice none 0 0, .bool false, .bool false] RN (by kernel_rfl) rfl (by intro u hu; simp at hu; rcases hu with rfl | rfl | rfl | rfl | rfl | rfl | rfl | rfl | rfl | rfl | rfl | rfl | rfl <;> rfl) ?_)
  clear RN RZ RF hbO
  obtain ⟨gO, hgO⟩ : ∃ q, q = w2.heap.size := ⟨_, rfl⟩
  rw [← hgO] at HCM HRZ HB HRF HRO HCN0
  try rw [← hgO]
  have hgO1 : w.heap.size + 3 ≤ gO := by omega
  generalize (w2.alloc (.cells #[.int .i64 0, .int .i64 0, .slice none 0 0, .int .i64 0, .slice none 0 0, .int .i64 0, .slice none 0 0, .int .i64 0, .int .i64 0, .int .i64 0, .slice none 0 0, .bool false, .bool false] 43)).setRow gO #[.int .i64 d.reg.lim, .int .i64 d.reg.top, .slice ae2 d.reg.es.length pe2, .int .i64 d.inr, .slice ai2 d.inT.length pi2, .int .i64 d.outr, .slice ao2 d.outT.length po2, .int .i64 d.get, .int .i64 d.give, .int .i64 d.first, .slice af2 d.flows.length pf2, .bool d.away, .bool d.dead] = X at *
  clear hgO hz1 hz2
  dsimp only [frv]
  go_wp2_with (refine wpList_load_row (by rfl) 48 _ (by rfl) (w.heap.size + 1) (by rfl) [.int .i64 f.k, .int .i64 f.fl, .int .i64 f.st, .string f.b] _ 48 HRF.out Tryz.underlying48 rfl (by kernel_rfl) ?_)
  refine (specFrameOk f.k f.fl f.st f.b _ hf).mono ?_; rintro e w3 ⟨rfl, hb3⟩
  rw [show (⟨f.k, f.fl, f.st, f.b⟩ : Fr) = f from rfl]
  have hXs := HB.out.size
  replace HCM := hide (HCM.out.new hb3); replace HRZ := hide (HRZ.out.new hb3); replace HRF := hide (HRF.out.new hb3); replace HRO := hide (HRO.out.new hb3); replace HCN0 := hide (HCN0.out.new hb3)
  replace HB := hide (bchain HB.out hb3)
  clear hb3 hXs
  have hw3 : w.heap.size + 3 ≤ w3.heap.size := by have := HCM.out.lt; omega
  cases hfr : okFr f
  · have HG2 : Hid (gotD d f = (d, [])) := by show _ = _; unfold gotD; rw [if_neg (by rw [hok]; decide), if_pos hfr]
    have hbE : Below w3.heap.size w3 (w3.alloc (.cells #[] 48)) := (Below.refl _ _).alloc (Nat.le_refl _) _
    have HOE : Hid ((w3.alloc (.cells #[] 48)).ownsRow w.heap.size 48 4 (.slice (some ⟨w3.heap.size, 0, none⟩) 0 0) 0 (fr [])) := owns_base (owns_lit w3 48 4 0 #[] rfl (by omega)) (fun q hq => by simp [Value.ownBlock] at hq; omega)
    have RZE := HRZ.out.new hbE
    have HB5 := hide (below_setRow (bchain HB.out hbE) (show w.heap.size ≤ w.heap.size + 2 by omega) #[.int .i64 d.reg.lim, .int .i64 d.reg.top, .slice ae2 d.reg.es.length pe2, .int .i64 d.inr, .slice ai2 d.inT.length pi2, .int .i64 d.outr, .slice ao2 d.outT.length po2, .int .i64 d.get, .int .i64 d.give, .int .i64 d.first, .slice af2 d.flows.length pf2, .bool d.away, .bool d.dead])
    have HR5 := hide (rowIs_setRow (cs' := [.int .i64 d.reg.lim, .int .i64 d.reg.top, .slice ae2 d.reg.es.length pe2, .int .i64 d.inr, .slice ai2 d.inT.length pi2, .int .i64 d.outr, .slice ao2 d.outT.length po2, .int .i64 d.get, .int .i64 d.give, .int .i64 d.first, .slice af2 d.flows.length pf2, .bool d.away, .bool d.dead]) RZE)
    have HOE2 := hide (owns_kept (w' := (w3.alloc (.cells #[] 48)).setRow (w.heap.size + 2) #[.int .i64 d.reg.lim, .int .i64 d.reg.top, .slice ae2 d.reg.es.length pe2, .int .i64 d.inr, .slice ai2 d.inT.length pi2, .int .i64 d.outr, .slice ao2 d.outT.length po2, .int .i64 d.get, .int .i64 d.give, .int .i64 d.first, .slice af2 d.flows.length pf2, .bool d.away, .bool d.dead]) HOE.out (fun k hk _ => setRow_other _ _ _ _ (by simp [Value.ownBlock] at hk; omega)))
    have HLO3 : Hid (∀ b ∈ bs, w.heap.size + 3 ≤ b ∧ b < w3.heap.size) := fun b hb => ⟨by have := HLO.out b hb; have := HZ1.out; omega, HCN0.out.lt b hb⟩
    have HCN5 : Hid (CnOw ((w3.alloc (.cells #[] 48)).setRow (w.heap.size + 2) #[.int .i64 d.reg.lim, .int .i64 d.reg.top, .slice ae2 d.reg.es.length pe2, .int .i64 d.inr, .slice ai2 d.inT.length pi2, .int .i64 d.outr, .slice ao2 d.outT.length po2, .int .i64 d.get, .int .i64 d.give, .int .i64 d.first, .slice af2 d.flows.length pf2, .bool d.away, .bool d.dead]) bs d (.slice ae2 d.reg.es.length pe2) (.slice ai2 d.inT.length pi2) (.slice ao2 d.outT.length po2) (.slice af2 d.flows.length pf2)) := (HCN0.out.new hbE).keep (by rw [setRow_size]; exact Nat.le_refl _) (fun b hb => setRow_other _ _ _ _ (by have := HLO3.out b hb; omega))
    clear hbE HG
    go_wp2_with (first | (refine wpList_load_row (by rfl) 43 _ (by rfl) gO (by rfl) [.int .i64 d.reg.lim, .int .i64 d.reg.top, .slice ae2 d.reg.es.length pe2, .int .i64 d.inr, .slice ai2 d.inT.length pi2, .int .i64 d.outr, .slice ao2 d.outT.length po2, .int .i64 d.get, .int .i64 d.give, .int .i64 d.first, .slice af2 d.flows.length pf2, .bool d.away, .bool d.dead] _ 43 HRO.out Tryz.underlying43 rfl (by kernel_rfl) ?_) | (refine wpList_store_row (by rfl) 43 _ _ (by rfl) (w.heap.size + 2) [.int .i64 d.reg.lim, .int .i64 d.reg.top, .slice ae2 d.reg.es.length pe2, .int .i64 d.inr, .slice ai2 d.inT.length pi2, .int .i64 d.outr, .slice ao2 d.outT.length po2, .int .i64 d.get, .int .i64 d.give, .int .i64 d.first, .slice af2 d.flows.length pf2, .bool d.away, .bool d.dead] (by rfl) (by rfl) 43 [.int .i64 0, .int .i64 0, .slice none 0 0, .int .i64 0, .slice none 0 0, .int .i64 0, .slice none 0 0, .int .i64 0, .int .i64 0, .int .i64 0, .slice none 0 0, .bool false, .bool false] RZE (by kernel_rfl) rfl (by intro u hu; simp at hu; rcases hu with rfl | rfl | rfl | rfl | rfl | rfl | rfl | rfl | rfl | rfl | rfl | rfl | rfl <;> rfl) ?_))
    generalize (w3.alloc (.cells #[] 48)).setRow (w.heap.size + 2) #[.int .i64 d.reg.lim, .int .i64 d.reg.top, .slice ae2 d.reg.es.length pe2, .int .i64 d.inr, .slice ai2 d.inT.length pi2, .int .i64 d.outr, .slice ao2 d.outT.length po2, .int .i64 d.get, .int .i64 d.give, .int .i64 d.first, .slice af2 d.flows.length pf2, .bool d.away, .bool d.dead] = V at *
    have z0 := RowIs.cell (j := 0) HR5.out rfl
    have z1 := RowIs.cell (j := 1) HR5.out rfl
    have z2 := RowIs.cell (j := 2) HR5.out rfl
    have z3 := RowIs.cell (j := 3) HR5.out rfl
    have z4 := RowIs.cell (j := 4) HR5.out rfl
    have z5 := RowIs.cell (j := 5) HR5.out rfl
    have z6 := RowIs.cell (j := 6) HR5.out rfl
    have z7 := RowIs.cell (j := 7) HR5.out rfl
    have z8 := RowIs.cell (j := 8) HR5.out rfl
    have z9 := RowIs.cell (j := 9) HR5.out rfl
    have z10 := RowIs.cell (j := 10) HR5.out rfl
    have z11 := RowIs.cell (j := 11) HR5.out rfl
    have z12 := RowIs.cell (j := 12) HR5.out rfl
    have zf := fun j => RowIs.frozen HR5.out j
    refine bodyPost_ret (v := .tuple #[.agg #[.int .i64 d.reg.lim, .int .i64 d.reg.top, .slice ae2 d.reg.es.length pe2, .int .i64 d.inr, .slice ai2 d.inT.length pi2, .int .i64 d.outr, .slice ao2 d.outT.length po2, .int .i64 d.get, .int .i64 d.give, .int .i64 d.first, .slice af2 d.flows.length pf2, .bool d.away, .bool d.dead], .slice (some ⟨w3.heap.size, 0, none⟩) 0 0]) (by simp [results, Tryz.results7, go_sem, *]) rfl ?_
    rw [HG2.out]
    exact ⟨_, _, rfl, ⟨_, _, _, _, bs, rfl, HCN5.out, fun b hb => by have := HLO3.out b hb; omega, HOE2.out, fun q hq hx => by simp [Value.ownBlock] at hq; have := HLO3.out q hx; omega⟩, HB5.out⟩
  replace HG : Hid (gotD d f = gotRaw d f) := by show _ = _; rw [HG.out, if_neg (by rw [hfr]; decide)]
  go_wp2_with (refine wpList_load_row (by rfl) 48 _ (by rfl) (w.heap.size + 1) (by rfl) [.int .i64 f.k, .int .i64 f.fl, .int .i64 f.st, .string f.b] _ 48 HRF.out Tryz.underlying48 rfl (by kernel_rfl) ?_)
  refine (gotM gO d bs f.k f.fl f.st f.b _ HCM.out hok hfr).mono ?_
  intro x w4 hst4
  have hst5 := hst4
  obtain ⟨vx, _, rfl, _⟩ := hst5
  obtain ⟨v4, bz, hveq, hc4, ho4, ht4, hn4, ha4⟩ := hst4
  obtain rfl := (Ending.returned.inj hveq).symm
  have HNB : Hid (∀ b ∈ gO :: bs, w.heap.size + 3 ≤ b) := fun b hb => by
    rcases List.mem_cons.1 hb with e | e
    · rw [e]; exact hgO1
    · have := HLO.out b e; have := HZ1.out; omega
  have hxs := HB.out.size
  have hxg := HCM.out.lt
  have HNZ : Hid (∀ b ∈ bz, w.heap.size + 3 ≤ b) := fun b hb => by
    rcases hn4 b hb with e | e
    · exact HNB.out b (by simp [e])
    · omega
  have HVQ : Hid (∀ q, v4.ownBlock = some q → w.heap.size + 3 ≤ q ∧ q ∉ bz) := fun q hq => ⟨by have := (ho4.lt q hq).1; omega, fun hx => ha4 q hq (by simp [hx])⟩
  replace HRZ := hide (HRZ.out.kept (ht4.block _ HRZ.out.lt (fun hx => by have := HNB.out _ hx; omega)))
  have HB4 : Hid (Below w.heap.size w w4) := ⟨ht4.os.trans HB.out.os, ht4.tape.trans HB.out.tape, ht4.output.trans HB.out.output, Nat.le_trans HB.out.size ht4.size, fun k hk => (ht4.block k (Nat.lt_of_lt_of_le hk HB.out.size) (fun hx => by have := HNB.out _ hx; omega)).trans (HB.out.block k hk)⟩
  have HO4 := hide (owns_base ho4 (fun q hq => by have := (HVQ.out q hq).1; omega : ∀ q, v4.ownBlock = some q → w.heap.size ≤ q))
  obtain ⟨ve4, vi4, vo4, vf4, hr4, _, hcn4⟩ := hc4.handed (lo := 0) (fun b hb => Nat.zero_le _)
  obtain ⟨R, hR⟩ : ∃ x, gotRaw d f = x := ⟨_, rfl⟩
  rw [hR] at HO4 hr4 hcn4
  try rw [hR]
  have HG2 : Hid (gotD d f = R) := by show _ = _; rw [HG.out, ← hR]
  obtain ⟨dd, ll⟩ := R
  dsimp only at HO4 hr4 hcn4
  try dsimp only
  obtain ⟨ae4, pe4, rfl, _, _⟩ := hcn4.rd.e.form
  obtain ⟨ai4, pi4, rfl, _, _⟩ := hcn4.rd.i.form
  obtain ⟨ao4, po4, rfl, _, _⟩ := hcn4.rd.o.form
  obtain ⟨af4, pf4, rfl, _, _⟩ := hcn4.rd.f.form
  obtain ⟨a9, p9, hv9, _, _⟩ := owns_form HO4.out
  subst hv9
  have HB5 := hide (below_setRow HB4.out (show w.heap.size ≤ w.heap.size + 2 by omega) #[.int .i64 dd.reg.lim, .int .i64 dd.reg.top, .slice ae4 dd.reg.es.length pe4, .int .i64 dd.inr, .slice ai4 dd.inT.length pi4, .int .i64 dd.outr, .slice ao4 dd.outT.length po4, .int .i64 dd.get, .int .i64 dd.give, .int .i64 dd.first, .slice af4 dd.flows.length pf4, .bool dd.away, .bool dd.dead])
  have HR5 := hide (rowIs_setRow (cs' := [.int .i64 dd.reg.lim, .int .i64 dd.reg.top, .slice ae4 dd.reg.es.length pe4, .int .i64 dd.inr, .slice ai4 dd.inT.length pi4, .int .i64 dd.outr, .slice ao4 dd.outT.length po4, .int .i64 dd.get, .int .i64 dd.give, .int .i64 dd.first, .slice af4 dd.flows.length pf4, .bool dd.away, .bool dd.dead]) HRZ.out)
  have HCN5 : Hid (CnOw (w4.setRow (w.heap.size + 2) #[.int .i64 dd.reg.lim, .int .i64 dd.reg.top, .slice ae4 dd.reg.es.length pe4, .int .i64 dd.inr, .slice ai4 dd.inT.length pi4, .int .i64 dd.outr, .slice ao4 dd.outT.length po4, .int .i64 dd.get, .int .i64 dd.give, .int .i64 dd.first, .slice af4 dd.flows.length pf4, .bool dd.away, .bool dd.dead]) bz dd (.slice ae4 dd.reg.es.length pe4) (.slice ai4 dd.inT.length pi4) (.slice ao4 dd.outT.length po4) (.slice af4 dd.flows.length pf4)) := hcn4.keep (by rw [setRow_size]; exact Nat.le_refl _) (fun b hb => setRow_other _ _ _ _ (by have := HNZ.out b hb; omega))
  have HO5 := hide (owns_kept (w' := w4.setRow (w.heap.size + 2) #[.int .i64 dd.reg.lim, .int .i64 dd.reg.top, .slice ae4 dd.reg.es.length pe4, .int .i64 dd.inr, .slice ai4 dd.inT.length pi4, .int .i64 dd.outr, .slice ao4 dd.outT.length po4, .int .i64 dd.get, .int .i64 dd.give, .int .i64 dd.first, .slice af4 dd.flows.length pf4, .bool dd.away, .bool dd.dead]) HO4.out (fun k hk _ => setRow_other _ _ _ _ (by have := (HVQ.out k hk).1; omega)))
  have HR4 := hide hr4
  clear hc4 ht4 hr4 hcn4 hR HCM HB HB4 ho4 hn4 ha4 HO4
  go_wp2_with (first | (refine wpList_load_row (by rfl) 43 _ (by rfl) gO (by rfl) [.int .i64 dd.reg.lim, .int .i64 dd.reg.top, .slice ae4 dd.reg.es.length pe4, .int .i64 dd.inr, .slice ai4 dd.inT.length pi4, .int .i64 dd.outr, .slice ao4 dd.outT.length po4, .int .i64 dd.get, .int .i64 dd.give, .int .i64 dd.first, .slice af4 dd.flows.length pf4, .bool dd.away, .bool dd.dead] _ 43 HR4.out Tryz.underlying43 rfl (by kernel_rfl) ?_) | (refine wpList_store_row (by rfl) 43 _ _ (by rfl) (w.heap.size + 2) [.int .i64 dd.reg.lim, .int .i64 dd.reg.top, .slice ae4 dd.reg.es.length pe4, .int .i64 dd.inr, .slice ai4 dd.inT.length pi4, .int .i64 dd.outr, .slice ao4 dd.outT.length po4, .int .i64 dd.get, .int .i64 dd.give, .int .i64 dd.first, .slice af4 dd.flows.length pf4, .bool dd.away, .bool dd.dead] (by rfl) (by rfl) 43 [.int .i64 0, .int .i64 0, .slice none 0 0, .int .i64 0, .slice none 0 0, .int .i64 0, .slice none 0 0, .int .i64 0, .int .i64 0, .int .i64 0, .slice none 0 0, .bool false, .bool false] HRZ.out (by kernel_rfl) rfl (by intro u hu; simp at hu; rcases hu with rfl | rfl | rfl | rfl | rfl | rfl | rfl | rfl | rfl | rfl | rfl | rfl | rfl <;> rfl) ?_))
  generalize w4.setRow (w.heap.size + 2) #[.int .i64 dd.reg.lim, .int .i64 dd.reg.top, .slice ae4 dd.reg.es.length pe4, .int .i64 dd.inr, .slice ai4 dd.inT.length pi4, .int .i64 dd.outr, .slice ao4 dd.outT.length po4, .int .i64 dd.get, .int .i64 dd.give, .int .i64 dd.first, .slice af4 dd.flows.length pf4, .bool dd.away, .bool dd.dead] = V at *
  have z0 := RowIs.cell (j := 0) HR5.out rfl
  have z1 := RowIs.cell (j := 1) HR5.out rfl
  have z2 := RowIs.cell (j := 2) HR5.out rfl
  have z3 := RowIs.cell (j := 3) HR5.out rfl
  have z4 := RowIs.cell (j := 4) HR5.out rfl
  have z5 := RowIs.cell (j := 5) HR5.out rfl
  have z6 := RowIs.cell (j := 6) HR5.out rfl
  have z7 := RowIs.cell (j := 7) HR5.out rfl
  have z8 := RowIs.cell (j := 8) HR5.out rfl
  have z9 := RowIs.cell (j := 9) HR5.out rfl
  have z10 := RowIs.cell (j := 10) HR5.out rfl
  have z11 := RowIs.cell (j := 11) HR5.out rfl
  have z12 := RowIs.cell (j := 12) HR5.out rfl
  have zf := fun j => RowIs.frozen HR5.out j
  refine bodyPost_ret (v := .tuple #[.agg #[.int .i64 dd.reg.lim, .int .i64 dd.reg.top, .slice ae4 dd.reg.es.length pe4, .int .i64 dd.inr, .slice ai4 dd.inT.length pi4, .int .i64 dd.outr, .slice ao4 dd.outT.length po4, .int .i64 dd.get, .int .i64 dd.give, .int .i64 dd.first, .slice af4 dd.flows.length pf4, .bool dd.away, .bool dd.dead], .slice a9 ll.length p9]) (by simp [results, Tryz.results7, go_sem, *]) rfl ?_
  rw [HG2.out]
  exact ⟨_, _, rfl, ⟨_, _, _, _, bz, rfl, HCN5.out, fun b hb => by have := HNZ.out b hb; omega, HO5.out, fun q hq => (HVQ.out q hq).2⟩, HB5.out⟩
end Go.Proofs.YtllaeakeaabiaaaGreat
/- Chapter 17's model in place: what is flushed. -/
namespace Go.Proofs.YtllaeakeaabiaaaGreat
open Go.RowKit
set_option maxRecDepth 100000
set_option linter.unusedSimpArgs false
set_option linter.unusedVariables false
set_option maxHeartbeats 16000000 in
theorem flushM (g : Nat) (d : CnD) (bs : List Nat) (w : World) (h : CnM w g d bs) (hok : okCn d = true) :
    Calls Tryz.prog 43 #[.pointer (some ⟨g, 0, none⟩)] w (StepC w g bs (flushRaw d)) := by
  obtain ⟨hlen, h60⟩ := cn_len hok
  have HFT := hide (fun k hk => flT_all hok k hk)
  have HSTART := hide (OutAt.start h)
  have HRAW : Hid (∀ k D L, flushTo d k = (D, L) → (d.dead = true ∧ k = 0) ∨ (d.dead = false ∧ k = d.flows.length) → flushRaw d = (D, L)) := fun k D L hF hc => by
    rcases hc with ⟨h1, h2⟩ | ⟨h1, h2⟩
    · subst h2; unfold flushRaw; rw [if_pos h1]; exact hF
    · subst h2; unfold flushRaw; rw [if_neg (by rw [h1]; decide)]; exact hF
  clear h hok
  go_enter Tryz.func43, Tryz.ntmps43
  go_wp2_with fail
  generalize w.alloc (.cells #[] 48) = W0 at *
  go_loopg [3, 4] d.flows.length (fun gk v i wr => ∃ (k : Nat) (D : CnD) (L : List Fr) (bx : List Nat) (a : Option Addr) (p : Nat), k + gk = d.flows.length ∧ i = .int .i64 (k : Int) ∧ v = .slice a L.length p ∧ Hid (flushTo d k = (D, L)) ∧ L.length ≤ 2001 * k ∧ Hid (d.dead = true → k = 0) ∧ Hid (OutAt w g bs wr D bx (.slice a L.length p) L))
  case atStart => exact ⟨0, d, [], bs, _, _, by omega, rfl, rfl, hide rfl, by simp, hide (fun _ => rfl), HSTART⟩
  case round =>
    clear HSTART
    obtain ⟨k, D, L, bx, a, p, hkg, rfl, rfl, HF, hLk, HDK, HO⟩ := hrel
    have hT : FlT d k D L := by have := HFT.out k (by omega); rw [HF.out] at this; exact this
    have HDD := hide hT.dead
    have hlD := hT.len
    have heD := hT.elen
    have HOKD := hide hT.ok
    clear hT
    obtain ⟨⟨ve, vi, vo, vf, hrow, hcw⟩, _⟩ := HO.out.c
    obtain ⟨af, pf, hqf, _, _⟩ := hcw.rd.f.form
    subst hqf
    have x12 := RowIs.cell (j := 12) hrow rfl
    have x2 := RowIs.cell (j := 2) hrow rfl
    have x10 := RowIs.cell (j := 10) hrow rfl
    have xl := hrow.lt
    have HRE := hide hcw.rd.e
    clear hrow hcw
    cases gk with
    | zero =>
      have hki : ¬ (k : Int) < D.flows.length := by omega
      have HR : Hid (flushRaw d = (D, L)) := HRAW.out k D L HF.out (by
        cases hd : d.dead
        · exact .inr ⟨rfl, by omega⟩
        · exact .inl ⟨rfl, HDK.out hd⟩)
      clear hlD heD
      go_wp2_with fail
      try rw [Exit.noGoto_ret]
      go_ret
      rw [HR.out]
      exact HO.out.done
    | succ go1 =>
      have hki : (k : Int) < D.flows.length := by omega
      cases hdead : D.dead
      rotate_left
      · have HR : Hid (flushRaw d = (D, L)) := HRAW.out k D L HF.out (.inl (by
          have hd : d.dead = true := by rw [← HDD.out]; exact hdead
          exact ⟨hd, HDK.out hd⟩))
        rw [hdead] at x12
        clear hlD heD
        go_wp2_with fail
        try rw [Exit.noGoto_ret]
        go_ret
        rw [HR.out]
        exact HO.out.done
      rw [hdead] at x12
      have HDK2 : Hid (d.dead = true → k + 1 = 0) := fun h => by rw [← HDD.out, hdead] at h; cases h
      have hkD : k < D.flows.length := by omega
      have hkE : k < D.reg.es.length := by omega
      have HST := hide (flushTo_step HF.out hkD hkE)
      obtain ⟨ae, pe, hve, _, _⟩ := HRE.out.form
      subst hve
      obtain ⟨be, oe, ce, hae, hbw, hrd, hce⟩ := HRE.out.at k hkE
      subst hae
      obtain rfl := hrd
      have cst : wr.cell? ⟨be, oe + k * 2 + 1, none⟩ = some (.int .i64 D.reg.es[k].state) := hce 1 _ rfl
      have hkJ : (k : Int) < D.reg.es.length := by omega
      have hms := fun w => specMaySend D.reg.es[k].state w
      obtain ⟨gf, cap, hfl0, hgfl⟩ := FlAt.some HO.out hkD
      clear x10
      have x10 := hfl0.x
      have HFL0 := hide hfl0
      clear hce HRE hfl0 hlD heD
      cases hm : msV D.reg.es[k].state
      · rw [hm] at hms
        have HS2 : Hid (flushTo d (k + 1) = (D, L)) := by show _ = _; rw [HST.out, flushAt_no hm, List.append_nil]
        go_wp2_with fail
        refine (hms _).mono ?_; rintro e w9 ⟨rfl, hsame⟩; obtain rfl := hsame.symm; clear hsame
        go_wp2_with fail
        go_roundg go1
        case measure => omega
        case rel => exact ⟨k + 1, D, L, bx, a, p, by omega, by go_num, rfl, HS2, by omega, HDK2, HO⟩
      rw [hm] at hms
      have hfk := cn_flow HOKD.out (List.getElem_mem hkD)
      have hgv := (cn_wins HOKD.out).2.1
      obtain ⟨f0, hf0⟩ : ∃ f, D.flows[k] = f := ⟨_, rfl⟩
      rw [hf0] at hfk HFL0
      obtain ⟨t1, t2, t3, t4⟩ := okTu_true hfk.2.2.1
      have hp1 := okPp_true t1
      have hp2 := okPp_true t2
      obtain ⟨⟨G9, F9, O9⟩, hQ⟩ : ∃ q, flushF f0.tun.dn.b.size D.give f0 [] = q := ⟨_, rfl⟩
      have HFB := hide (flushAt_yes (k := k) hm hQ)
      have HQ := hide hQ
      have HST2 : Hid (flushTo d (k + 1) = ((flushAt D k f0 D.reg.es[k]).1, L ++ (flushAt D k f0 D.reg.es[k]).2)) := by show _ = _; rw [HST.out, hf0]
      have HFK := hide (And.intro hfk (And.intro hp1 (And.intro hp2 t4)))
      have hn2 : f0.tun.dn.b.size ≤ 2000 := by omega
      have HNUM : Hid ((0 ≤ f0.tun.came ∧ f0.tun.came ≤ 1000000) ∧ (-16777215 ≤ D.give ∧ D.give ≤ 16777215) ∧ (-16777215 ≤ f0.give ∧ f0.give ≤ 16777215) ∧ f0.tun.up.b.size ≤ 2000) := ⟨t4, hgv, hfk.2.1, by omega⟩
      clear hQ HST hf0 hfk hp1 hp2 t1 t2 t3 t4 hgv
      go_wp2_with fail
      refine (hms _).mono ?_; rintro e w9 ⟨rfl, hsame⟩; obtain rfl := hsame.symm; clear hsame
      clear hms
      go_wp2_with fail
      clear x12 x2 cst xl x10 hgfl
      obtain ⟨W4, hW4⟩ : ∃ W4, W4 = wr := ⟨_, rfl⟩
      subst hW4
      clear HO
      go_loopg [3, 6] (f0.tun.dn.b.size + 1) (fun gi s t wr => ∃ (G : Int) (F : FlD) (O M : List Fr) (a : Option Addr) (p : Nat) (z : Int), s = .slice a M.length p ∧ t = .int .i64 z ∧ F.tun.dn.b.size + 1 ≤ gi ∧ M.length + F.tun.dn.b.size ≤ 2001 * k + 2000 ∧ Hid ((0 ≤ F.tun.came ∧ F.tun.came ≤ 1000000) ∧ (-16777215 ≤ G ∧ G ≤ 16777215) ∧ (-16777215 ≤ F.give ∧ F.give ≤ 16777215) ∧ F.tun.up.b.size ≤ 2000 ∧ F.tun.dn.b.size ≤ 2000) ∧ Hid ((O = [] ∧ z = -1) ∨ (∃ A x, O = A ++ [x] ∧ z = (L.length : Int) + A.length)) ∧ Hid (F.id = f0.id ∧ True) ∧ Hid (flushF F.tun.dn.b.size G F O = (G9, F9, O9)) ∧ Hid (M = L ++ O) ∧ Hid (FlAt w g bs wr D k G F bx gf cap (.slice a M.length p) M))
      case atStart => exact ⟨D.give, f0, [], L, a, p, -1, rfl, rfl, Nat.le_refl _, by omega, ⟨HNUM.out.1, HNUM.out.2.1, HNUM.out.2.2.1, HNUM.out.2.2.2, hn2⟩, hide (.inl ⟨rfl, rfl⟩), ⟨rfl, trivial⟩, HQ, hide (by simp), HFL0⟩
      case round =>
        clear HFL0 HNUM HQ HFK
        obtain ⟨G, F, O, M, a, p, z, rfl, rfl, hfu, hML, HBZ, HZ, HID, HQF, HM, HFL⟩ := hrel
        cases gk with
        | zero => omega
        | succ gi =>
          obtain ⟨⟨b1, b2⟩, ⟨b3, b4⟩, ⟨b5, b6⟩, b7, b8⟩ := HBZ.out
          obtain ⟨A, C, ve, vi, vo, v0, hrow, hgm, hgfl, hgg, hmid, _⟩ := HFL.out.at hkD
          have x8 := RowIs.cell (j := 8) hrow rfl
          have xf := fun j => RowIs.frozen hrow j
          have xl := hrow.lt
          have c0 : wr.cell? ⟨gf, k * 15, none⟩ = some (.int .i64 F.id) := MidIs.cell0 hmid rfl
          have c2 := MidIs.cell (j := 2) hmid rfl
          have c9 := MidIs.cell (j := 9) hmid rfl
          have c10 := MidIs.cell (j := 10) hmid rfl
          have c11 := MidIs.cell (j := 11) hmid rfl
          have c13 := MidIs.cell (j := 13) hmid rfl
          have c14 := MidIs.cell (j := 14) hmid rfl
          have cf := fun j => MidIs.frozen hmid j
          have x10 := HFL.out.x
          clear hrow hmid
          dsimp only [cur] at x8
          have hmn := fun w => specMin 1000 F.tun.dn.b.size w
          obtain ⟨mn, hmn0⟩ : ∃ x, mnV 1000 F.tun.dn.b.size = x := ⟨_, rfl⟩
          rw [show (if (1000 : Int) < F.tun.dn.b.size then (1000 : Int) else F.tun.dn.b.size) = mn from hmn0] at hmn
          have hft := fun w => specFits G F.give mn w
          obtain ⟨ft, hft0⟩ : ∃ x, ftV G F.give mn = x := ⟨_, rfl⟩
          rw [hft0] at hft
          have hmi := fun w => specMin ft (1000000 - F.tun.came) w
          obtain ⟨n, hn0⟩ : ∃ x, flN G F = x := ⟨_, rfl⟩
          rw [show (if ft < 1000000 - F.tun.came then ft else 1000000 - F.tun.came) = n by rw [← hn0]; unfold flN; rw [hmn0, hft0]; rfl] at hmi
          have HN := hide hn0
          have hpos := fl_pos (g := G) b2
          rw [hn0] at hpos
          obtain ⟨hp1, hp2, hp3⟩ := hpos
          have hws : IntKind.i64.wrap (1000000 - F.tun.came) = 1000000 - F.tun.came := by rw [IntKind.wrap_i64]; omega
          clear hmn0 hft0 hn0
          go_upto_region 8 with fail
          have y8 : ∀ y : Later wr, y.w.cell? ⟨g, 8, none⟩ = some (.int .i64 G) := fun y => (y.b.cell (p := ⟨g, 8, none⟩) xl).trans x8
          have y2 : ∀ y : Later wr, y.w.cell? ⟨gf, k * 15 + 2, none⟩ = some (.int .i64 F.give) := fun y => (y.b.cell (p := ⟨gf, k * 15 + 2, none⟩) hgfl).trans c2
          have y9 : ∀ y : Later wr, y.w.cell? ⟨gf, k * 15 + 9, none⟩ = some (.string F.tun.dn.b) := fun y => (y.b.cell (p := ⟨gf, k * 15 + 9, none⟩) hgfl).trans c9
          clear x8 xf xl c0 c2 c9 c10 c11 c13 c14 cf x10
          have hne : Nonempty (Later wr) := ⟨⟨wr, Below.refl _ _⟩⟩; refine region_later (by kernel_rfl) (by kernel_rfl) ?_
          repeat (go_big_quiet_step (fail))
          go_big_quiet_want; go_big_quiet_op; refine ⟨(.int .i64 mn), fun y => later_same (x := y) (hmn y.w), ?_⟩; go_big_quiet_on
          repeat (go_big_quiet_step (fail))
          go_big_quiet_want; go_big_quiet_op; refine ⟨(.int .i64 ft), fun y => later_same (x := y) (hft y.w), ?_⟩; go_big_quiet_on
          repeat (go_big_quiet_step (fail))
          refine wpQuiet_nil ?_; intro _ hw'; obtain ⟨y, hw''⟩ := hw'; subst hw''; have hby := y.b
          obtain ⟨W5, hW5⟩ : ∃ u, y.w = u := ⟨_, rfl⟩
          rw [hW5] at hby ⊢
          replace HFL := hide (HFL.out.new hby)
          clear hby hne y8 y2 y9 hmn hft hW5 hgm hgfl
          obtain ⟨A, C, ve, vi, vo, v0, hrow, hgm, hgfl, hgg, hmid, _⟩ := HFL.out.at hkD
          have x8 := RowIs.cell (j := 8) hrow rfl
          have xf := fun j => RowIs.frozen hrow j
          have xl := hrow.lt
          have c0 : W5.cell? ⟨gf, k * 15, none⟩ = some (.int .i64 F.id) := MidIs.cell0 hmid rfl
          have c2 := MidIs.cell (j := 2) hmid rfl
          have c9 := MidIs.cell (j := 9) hmid rfl
          have c10 := MidIs.cell (j := 10) hmid rfl
          have c11 := MidIs.cell (j := 11) hmid rfl
          have c13 := MidIs.cell (j := 13) hmid rfl
          have c14 := MidIs.cell (j := 14) hmid rfl
          have cf := fun j => MidIs.frozen hmid j
          have x10 := HFL.out.x
          clear hrow hmid
          dsimp only [cur] at x8
          go_wp2_with fail
          refine (hmi _).mono ?_; rintro e w9 ⟨rfl, hsame⟩; obtain rfl := hsame.symm; clear hsame
          clear hmi
          by_cases hz : n = 0
          · subst hz
            have hq9 : flushF F.tun.dn.b.size G F O = (G, F, O) := flushF_zero HN.out
            rw [HQF.out] at hq9
            simp only [Prod.mk.injEq] at hq9
            obtain ⟨e1, e2, e3⟩ := hq9
            replace e1 := e1.symm
            replace e2 := e2.symm
            replace e3 := e3.symm
            subst e1 e2 e3
            have HFA : Hid (flushTo d (k + 1) = ((if endB F = true then (hapD (cur D k G { F with ended := true }) f0.id 3, endL f0.id O) else (cur D k G F, O)).1, L ++ (if endB F = true then (hapD (cur D k G { F with ended := true }) f0.id 3, endL f0.id O) else (cur D k G F, O)).2)) := by show _ = _; rw [HST2.out, HFB.out]
            cases hE : endB F
            -- the end is not to be told
            · have HS3 : Hid (flushTo d (k + 1) = (cur D k G F, M)) := by show _ = _; rw [HFA.out, if_neg (by rw [hE]; decide), HM.out]
              cases he : F.ended
              rotate_left
              · rw [he] at c14
                go_wp2_with fail
                go_roundg go1
                case measure => omega
                case rel => exact ⟨k + 1, cur D k G F, M, bx, a, p, by omega, by go_num, rfl, HS3, by omega, HDK2, HFL.out.out⟩
              rw [he] at c14
              cases hde : F.tun.dn.e
              · rw [hde] at c10
                go_wp2_with fail
                go_roundg go1
                case measure => omega
                case rel => exact ⟨k + 1, cur D k G F, M, bx, a, p, by omega, by go_num, rfl, HS3, by omega, HDK2, HFL.out.out⟩
              rw [hde] at c10
              cases hdk : F.tun.dn.k
              rotate_left
              · rw [hdk] at c11
                go_wp2_with fail
                go_roundg go1
                case measure => omega
                case rel => exact ⟨k + 1, cur D k G F, M, bx, a, p, by omega, by go_num, rfl, HS3, by omega, HDK2, HFL.out.out⟩
              rw [hdk] at c11
              have hsz : F.tun.dn.b.toList.isEmpty = false := by
                cases hb : F.tun.dn.b.toList.isEmpty
                · rfl
                · exfalso
                  have h0 := (isEmpty_iffF _).1 hb
                  have h1 : endB F = true := by unfold endB; rw [he, hde, hdk, decide_eq_true h0]; rfl
                  rw [h1] at hE; cases hE
              go_wp2_with fail
              go_roundg go1
              case measure => omega
              case rel => exact ⟨k + 1, cur D k G F, M, bx, a, p, by omega, by go_num, rfl, HS3, by omega, HDK2, HFL.out.out⟩
            -- the end is told
            have hE1 : F.ended = false ∧ F.tun.dn.e = true ∧ F.tun.dn.k = false ∧ F.tun.dn.b.size = 0 := by
              unfold endB at hE
              simp only [Bool.and_eq_true, Bool.not_eq_true', decide_eq_true_eq] at hE
              exact ⟨hE.1.1.1, hE.1.1.2, hE.1.2, hE.2⟩
            rw [hE1.1] at c14
            rw [hE1.2.1] at c10
            rw [hE1.2.2.1] at c11
            have hsz : F.tun.dn.b.toList.isEmpty = true := (isEmpty_iffF _).2 hE1.2.2.2
            rcases HZ.out with ⟨hO, hz1⟩ | ⟨A0, X1, hO, hz1⟩
            · have HS3 : Hid (flushTo d (k + 1) = (hapD (cur D k G { F with ended := true }) F.id 3, M ++ [⟨1, 1, F.id, ⟨#[]⟩⟩])) := by
                show _ = _
                rw [HFA.out, if_pos hE, HM.out, hO, List.append_nil, ← HID.out.1]; rfl
              subst hz1
              have hmz : M.length ≤ 1000000 := by omega
              go_upto_region 20 with fail
              have hb4 : Below W5.heap.size W5 (W5.alloc (.cells #[.int .i64 1, .int .i64 0, .int .i64 F.id, .string ⟨#[]⟩] 48)) := (Below.refl _ _).alloc (Nat.le_refl _) _
              have hrd := reads_of_owns (frw_one W5 ⟨1, 0, F.id, ⟨#[]⟩⟩)
              have ho3 := owns_new HFL.out.out.o hb4
              have HFLn := hide (HFL.out.new hb4)
              have hz4 : w.heap.size ≤ (W5.alloc (.cells #[.int .i64 1, .int .i64 0, .int .i64 F.id, .string ⟨#[]⟩] 48)).heap.size := Nat.le_trans HFL.out.out.t.size hb4.size
              go_wp2_with (at_builtin; go_must (refine wpList_app _ (by rfl) _ _ 44 (by rfl) 48 (.agg #[.int .i64 0, .int .i64 0, .int .i64 0, .string ⟨#[]⟩]) 4 40 Tryz.underlying44 (by kernel_rfl) rfl (by decide) w.heap.size _ M.length (fr M) (by rfl) ho3 _ 1 (fr [⟨1, 0, F.id, ⟨#[]⟩⟩]) (by rfl) hrd (fr_one _) (by omega) (by decide) hz4 ?_))
              intro ad8 cp8 v5 hown8 hg8 hat8
              have HFLx := hide (HFLn.out.app (M := [⟨1, 0, F.id, ⟨#[]⟩⟩]) hown8 hg8 (hat8.imp (fun h => h) (fun h => h.trans (by simp))))
              clear hown8 hg8 hat8 ho3 hrd hb4 HFLn HFL
              clear x8 xf xl c0 c2 c9 c10 c11 c13 c14 cf x10
              go_upto_region 21 with fail
              obtain ⟨gv, c2v, hv2, hgvl, cg, cgf, hfl3⟩ := HFLx.out.flag
              have HV2 := hide hv2
              have HFL3 := hide hfl3
              clear hfl3 HFLx
              simp only [Value.slice.injEq] at hv2
              obtain ⟨hv3, -, hv4⟩ := hv2
              subst hv3 hv4
              have hmI : (M.length : Int) < ((M ++ [(⟨1, 0, F.id, ⟨#[]⟩⟩ : Fr)]).length : Int) := by simp; omega
              go_upto_region 22 with fail
              clear cg cgf
              generalize v5.setCell ⟨gv, M.length * 4 + 1, none⟩ (.int .i64 1) = W7 at *
              have HFL := HFL3
              clear HFL3
              obtain ⟨A, C, ve, vi, vo, v0, hrow, hgm, hgfl, hgg, hmid, _⟩ := HFL.out.at hkD
              have c14 := MidIs.cell (j := 14) hmid rfl
              have cf := fun j => MidIs.frozen hmid j
              clear hrow hmid
              have HFL4 := hide (HFL.out.set hkD 14 (.bool true) { F with ended := true } (by decide) (fun _ => rfl) rfl (by have := HBZ.out; show F.tun.up.b.size ≤ _; omega) (by have := HBZ.out; show F.tun.dn.b.size ≤ _; omega))
              go_upto_region 23 with fail
              clear c14 cf HFL
              generalize W7.setCell ⟨gf, k * 15 + 14, none⟩ (.bool true) = W8 at *
              have hD : Below W8.heap.size W8 (World.drew W8) := (Below.refl _ _).drew
              have HFL := hide (HFL4.out.new hD)
              clear hD HFL4
              obtain ⟨A, C, ve, vi, vo, v0, hrow, hgm, hgfl, hgg, hmid, _⟩ := HFL.out.at hkD
              have c0 : (World.drew W8).cell? ⟨gf, k * 15, none⟩ = some (.int .i64 F.id) := MidIs.cell0 hmid rfl
              clear hrow hmid
              go_wp2_with fail
              refine wp_region_any (by kernel_rfl) ?_; change wpAny _ _ _ _ _ _ _ (World.drew _)
              generalize World.drew W8 = u8 at *
              refine wpAny_take (i := 0) (v := ?_) rfl (by kernel_rfl) (by kernel_rfl) (by kernel_rfl) (fun _ _ _ h => h) (Or.inl ⟨by rfl, ?_⟩) ?_; rotate_left; focus (intro w; go_simp; try with_reducible rfl)
              refine wpAny_take (i := 1) (v := ?_) rfl (by kernel_rfl) (by kernel_rfl) (by kernel_rfl) (fun _ _ _ h => h) (Or.inl ⟨by rfl, ?_⟩) ?_; rotate_left; focus (intro w; go_simp; try with_reducible rfl)
              refine wpAny_take (i := 2) (v := ?_) rfl (by kernel_rfl) (by kernel_rfl) (by kernel_rfl) (fun _ _ _ h => h) (Or.inl ⟨by rfl, ?_⟩) ?_; rotate_left; focus (intro w; go_simp; try with_reducible rfl)
              refine wpAny_take (i := 3) (v := ?_) rfl (by kernel_rfl) (by kernel_rfl) (by kernel_rfl) (fun _ _ _ h => h) (Or.inl ⟨by rfl, ?_⟩) ?_; rotate_left; focus (intro w; go_simp; try with_reducible rfl)
              refine wpAny_take (i := 4) (v := ?_) rfl (by kernel_rfl) (by kernel_rfl) (by kernel_rfl) (fun _ _ _ h => h) (Or.inl ⟨by rfl, ?_⟩) ?_; rotate_left; focus (intro w; go_simp; try with_reducible rfl)
              refine wpAny_take (i := 5) (v := ?_) rfl (by kernel_rfl) (by kernel_rfl) (by kernel_rfl) (fun _ _ _ h => h) (Or.inl ⟨by rfl, ?_⟩) ?_; rotate_left; focus (intro w; go_simp; try with_reducible rfl)
              refine wpAny_ready (rs := [6]) (by kernel_rfl) (by simp) ?_; refine AllReady.cons rfl (fun K hK => ?_) AllReady.nil
              go_simp; refine hK _ _ ?_; clear hK K
              refine wpAny_ready (rs := [7]) (by kernel_rfl) (by simp) ?_; refine AllReady.cons rfl (fun K hK => ?_) AllReady.nil
              go_simp
              refine (hapM g _ bx F.id 3 _ HFL.out.out.c).mono ?_
              rintro e8 w8 ⟨bz, rfl, hc8, ht8, hn8⟩
              have HO8 := hide (HFL.out.out.turn hc8 ht8 hn8)
              clear hc8 ht8 hn8 c0 HFL
              refine hK _ _ ?_; clear hK K
              refine wpAny_done (by kernel_rfl) ?_ _
              go_wp2_with fail
              go_roundg go1
              case measure => omega
              case rel => exact ⟨k + 1, hapD (cur D k G { F with ended := true }) F.id 3, M ++ [⟨(⟨1, 0, F.id, ⟨#[]⟩⟩ : Fr).k, 1, (⟨1, 0, F.id, ⟨#[]⟩⟩ : Fr).st, (⟨1, 0, F.id, ⟨#[]⟩⟩ : Fr).b⟩], bz, some ⟨gv, 0, none⟩, cp8, by omega, by go_num, by simp, HS3, by simp; omega, HDK2, hide (by have := HO8.out; simpa using this)⟩
            have HS3 : Hid (flushTo d (k + 1) = (hapD (cur D k G { F with ended := true }) F.id 3, (L ++ A0) ++ [⟨X1.k, 1, X1.st, X1.b⟩])) := by
              show _ = _
              rw [HFA.out, if_pos hE, hO, endL_some, List.append_assoc, ← HID.out.1]
            obtain ⟨A1, hA1⟩ : ∃ x, L ++ A0 = x := ⟨_, rfl⟩
            have hM1 : M = A1 ++ [X1] := by rw [HM.out, hO, ← hA1, List.append_assoc]
            have hz2 : z = (A1.length : Int) := by rw [hz1, ← hA1, List.length_append]; simp
            rw [hA1] at HS3
            subst hz2
            subst hM1
            have hlA : A1.length ≤ 1000000 := by simp at hML; omega
            have hzn : ¬ (A1.length : Int) < 0 := by omega
            clear hO hz1 hA1 HM HZ
            skip; have HFLx := HFL -- x8 xf xl c0 c2  c13 cf x10
            go_upto_region 21 with fail
            obtain ⟨gv, c2v, hv2, hgvl, cg, cgf, hfl3⟩ := HFLx.out.flag
            have HV2 := hide hv2
            have HFL3 := hide hfl3
            clear hfl3 HFLx
            simp only [Value.slice.injEq] at hv2
            obtain ⟨hv3, -, hv4⟩ := hv2
            subst hv3 hv4
            have hmI : (A1.length : Int) < ((A1 ++ [X1]).length : Int) := by simp; omega
            go_upto_region 22 with fail
            clear cg cgf
            generalize W5.setCell ⟨gv, A1.length * 4 + 1, none⟩ (.int .i64 1) = W7 at *
            have HFL := HFL3
            clear HFL3
            obtain ⟨A, C, ve, vi, vo, v0, hrow, hgm, hgfl, hgg, hmid, _⟩ := HFL.out.at hkD
            have c14 := MidIs.cell (j := 14) hmid rfl
            have cf := fun j => MidIs.frozen hmid j
            clear hrow hmid
            have HFL4 := hide (HFL.out.set hkD 14 (.bool true) { F with ended := true } (by decide) (fun _ => rfl) rfl (by have := HBZ.out; show F.tun.up.b.size ≤ _; omega) (by have := HBZ.out; show F.tun.dn.b.size ≤ _; omega))
            go_upto_region 23 with fail
            clear c14 cf HFL
            generalize W7.setCell ⟨gf, k * 15 + 14, none⟩ (.bool true) = W8 at *
            have hD : Below W8.heap.size W8 (World.drew W8) := (Below.refl _ _).drew
            have HFL := hide (HFL4.out.new hD)
            clear hD HFL4
            obtain ⟨A, C, ve, vi, vo, v0, hrow, hgm, hgfl, hgg, hmid, _⟩ := HFL.out.at hkD
            have c0 : (World.drew W8).cell? ⟨gf, k * 15, none⟩ = some (.int .i64 F.id) := MidIs.cell0 hmid rfl
            clear hrow hmid
            go_wp2_with fail
            refine wp_region_any (by kernel_rfl) ?_; change wpAny _ _ _ _ _ _ _ (World.drew _)
            generalize World.drew W8 = u8 at *
            refine wpAny_take (i := 0) (v := ?_) rfl (by kernel_rfl) (by kernel_rfl) (by kernel_rfl) (fun _ _ _ h => h) (Or.inl ⟨by rfl, ?_⟩) ?_; rotate_left; focus (intro w; go_simp; try with_reducible rfl)
            refine wpAny_take (i := 1) (v := ?_) rfl (by kernel_rfl) (by kernel_rfl) (by kernel_rfl) (fun _ _ _ h => h) (Or.inl ⟨by rfl, ?_⟩) ?_; rotate_left; focus (intro w; go_simp; try with_reducible rfl)
            refine wpAny_take (i := 2) (v := ?_) rfl (by kernel_rfl) (by kernel_rfl) (by kernel_rfl) (fun _ _ _ h => h) (Or.inl ⟨by rfl, ?_⟩) ?_; rotate_left; focus (intro w; go_simp; try with_reducible rfl)
            refine wpAny_take (i := 3) (v := ?_) rfl (by kernel_rfl) (by kernel_rfl) (by kernel_rfl) (fun _ _ _ h => h) (Or.inl ⟨by rfl, ?_⟩) ?_; rotate_left; focus (intro w; go_simp; try with_reducible rfl)
            refine wpAny_take (i := 4) (v := ?_) rfl (by kernel_rfl) (by kernel_rfl) (by kernel_rfl) (fun _ _ _ h => h) (Or.inl ⟨by rfl, ?_⟩) ?_; rotate_left; focus (intro w; go_simp; try with_reducible rfl)
            refine wpAny_take (i := 5) (v := ?_) rfl (by kernel_rfl) (by kernel_rfl) (by kernel_rfl) (fun _ _ _ h => h) (Or.inl ⟨by rfl, ?_⟩) ?_; rotate_left; focus (intro w; go_simp; try with_reducible rfl)
            refine wpAny_ready (rs := [6]) (by kernel_rfl) (by simp) ?_; refine AllReady.cons rfl (fun K hK => ?_) AllReady.nil
            go_simp; refine hK _ _ ?_; clear hK K
            refine wpAny_ready (rs := [7]) (by kernel_rfl) (by simp) ?_; refine AllReady.cons rfl (fun K hK => ?_) AllReady.nil
            go_simp
            refine (hapM g _ bx F.id 3 _ HFL.out.out.c).mono ?_
            rintro e8 w8 ⟨bz, rfl, hc8, ht8, hn8⟩
            have HO8 := hide (HFL.out.out.turn hc8 ht8 hn8)
            clear hc8 ht8 hn8 c0 HFL
            refine hK _ _ ?_; clear hK K
            refine wpAny_done (by kernel_rfl) ?_ _
            go_wp2_with fail
            go_roundg go1
            case measure => omega
            case rel => exact ⟨k + 1, hapD (cur D k G { F with ended := true }) F.id 3, A1 ++ [⟨X1.k, 1, X1.st, X1.b⟩], bz, some ⟨gv, 0, none⟩, p, by omega, by go_num, by simp, HS3, by simp; omega, HDK2, hide (by have := HO8.out; simpa using this)⟩
          have hzb : (n == 0) = false := by simpa using hz
          have hle := fl_le (g := G) (f := F) (by rw [HN.out]; exact hz) b2
          rw [HN.out] at hle
          obtain ⟨l1, l2, l3⟩ := hle
          obtain ⟨m, hm0⟩ : ∃ m : Nat, n = (m : Int) := ⟨n.toNat, by omega⟩
          subst hm0
          have hm1 : m ≤ F.tun.dn.b.size := by omega
          have hmp : 0 < m := by omega
          have hpl := pullM F.tun.dn.b (m : Int) gf (k * 15 + 8) W5 (by unfold maxLen; omega) c9 (cf _)
          rw [show (max 0 (min (m : Int) F.tun.dn.b.size)).toNat = m by omega] at hpl
          have HSTEP : Hid (flushF (pulF m F).tun.dn.b.size (G - m) (pulF m F) (O ++ [datFr F m]) = (G9, F9, O9)) := by
            show _ = _
            have hq := HQF.out
            obtain ⟨s, hs⟩ : ∃ s, F.tun.dn.b.size = s + 1 := ⟨F.tun.dn.b.size - 1, by omega⟩
            have hps := pul_size (g := G) b2
            rw [HN.out, Int.toNat_natCast] at hps
            rw [hs, flushF_step (by rw [HN.out]; exact hz), HN.out, Int.toNat_natCast] at hq
            rw [← hq]
            exact flushF_more _ _ _ _ _ (Nat.le_refl _) (by omega) (by show F.tun.came + (m : Int) ≤ _; omega)
          have HPS : Hid ((pulF m F).tun.dn.b.size = F.tun.dn.b.size - m) := by show _ = _; have := pul_size (g := G) b2; rw [HN.out, Int.toNat_natCast] at this; exact this
          obtain ⟨bd, hbd⟩ : ∃ b, F.tun.dn.b.extract m F.tun.dn.b.size = b := ⟨_, rfl⟩
          obtain ⟨sd, hsd⟩ : ∃ b, F.tun.dn.b.extract 0 m = b := ⟨_, rfl⟩
          rw [hbd, hsd] at hpl
          have HBD := hide hbd
          have HSD := hide hsd
          have hbs : bd.size ≤ 2000 := by rw [← hbd, ByteArray.size_extract]; omega
          have HFL1 := hide (HFL.out.set hkD 9 (.string bd) { F with tun := ⟨F.tun.up, ⟨F.tun.dn.r, bd, F.tun.dn.e, F.tun.dn.k⟩, F.tun.went, F.tun.came⟩ } (by decide) (fun _ => rfl) rfl (by show F.tun.up.b.size ≤ _; omega) (by show bd.size ≤ _; omega))
          have hw1 : IntKind.i64.wrap (F.tun.came + (m : Int)) = F.tun.came + m := by rw [IntKind.wrap_i64]; omega
          have hw2 : IntKind.i64.wrap (G - (m : Int)) = G - m := by rw [IntKind.wrap_i64]; omega
          have hw3 : IntKind.i64.wrap (F.give - (m : Int)) = F.give - m := by rw [IntKind.wrap_i64]; omega
          clear hbd hsd HN hz
          go_wp2_with fail
          refine hpl.mono ?_; clear hpl; rintro x w6 ⟨rfl, hw6⟩
          rw [show k * 15 + 8 + 1 = k * 15 + 9 from rfl] at hw6
          rw [← hw6] at HFL1
          clear hw6 HFL x8 xf xl c0 c2 c9 c10 c11 c13 c14 cf x10 hgm hgfl
          have HFL := HFL1
          clear HFL1
          obtain ⟨A, C, ve, vi, vo, v0, hrow, hgm, hgfl, hgg, hmid, _⟩ := HFL.out.at hkD
          have c13 := MidIs.cell (j := 13) hmid rfl
          have cf := fun j => MidIs.frozen hmid j
          clear hrow hmid
          have HFL2 := hide (HFL.out.set hkD 13 (.int .i64 (F.tun.came + m)) { F with tun := ⟨F.tun.up, ⟨F.tun.dn.r, bd, F.tun.dn.e, F.tun.dn.k⟩, F.tun.went, F.tun.came + m⟩ } (by decide) (fun _ => rfl) rfl (by show F.tun.up.b.size ≤ _; omega) (by show bd.size ≤ _; omega))
          go_upto_region 13 with fail
          clear HFL c13 cf hgm hgfl
          have HFL := HFL2
          clear HFL2
          generalize w6.setCell ⟨gf, k * 15 + 13, none⟩ (.int .i64 (F.tun.came + m)) = w7 at *
          obtain ⟨A, C, ve, vi, vo, v0, hrow, hgm, hgfl, hgg, hmid, _⟩ := HFL.out.at hkD
          have x8 := RowIs.cell (j := 8) hrow rfl
          have xf := fun j => RowIs.frozen hrow j
          have xl := hrow.lt
          clear hrow hmid
          dsimp only [cur] at x8
          have HFL2 := hide (HFL.out.give hkD (G - m))
          go_upto_region 14 with fail
          clear HFL x8 xf xl hgm hgfl
          have HFL := HFL2
          clear HFL2
          generalize w7.setCell ⟨g, 8, none⟩ (.int .i64 (G - m)) = w8 at *
          obtain ⟨A, C, ve, vi, vo, v0, hrow, hgm, hgfl, hgg, hmid, _⟩ := HFL.out.at hkD
          have c2 := MidIs.cell (j := 2) hmid rfl
          have cf := fun j => MidIs.frozen hmid j
          clear hrow hmid
          have HFL2 : Hid (FlAt w g bs (w8.setCell ⟨gf, k * 15 + 2, none⟩ (.int .i64 (F.give - m))) D k (G - m) (pulF m F) bx gf cap (.slice a M.length p) M) := HFL.out.set hkD 2 (.int .i64 (F.give - m)) (pulF m F) (by decide) (fun _ => by unfold pulF; rw [HBD.out]; rfl) rfl (by show F.tun.up.b.size ≤ _; omega) (by have := HPS.out; show (pulF m F).tun.dn.b.size ≤ _; omega)
          go_upto_region 15 with fail
          clear HFL c2 cf hgm hgfl
          have HFL := HFL2
          clear HFL2
          generalize w8.setCell ⟨gf, k * 15 + 2, none⟩ (.int .i64 (F.give - m)) = W5 at *
          obtain ⟨A, C, ve, vi, vo, v0, hrow, hgm, hgfl, hgg, hmid, _⟩ := HFL.out.at hkD
          have c0 : W5.cell? ⟨gf, k * 15, none⟩ = some (.int .i64 F.id) := MidIs.cell0 hmid rfl
          clear hrow hmid
          have hmz : M.length ≤ 1000000 := by omega
          go_upto_region 16 with fail
          have hb4 : Below W5.heap.size W5 (W5.alloc (.cells #[.int .i64 1, .int .i64 0, .int .i64 F.id, .string sd] 48)) := (Below.refl _ _).alloc (Nat.le_refl _) _
          have hrd := reads_of_owns (frw_one W5 ⟨1, 0, F.id, sd⟩)
          have ho3 := owns_new HFL.out.out.o hb4
          have HFLn := hide (HFL.out.new hb4)
          have hz4 : w.heap.size ≤ (W5.alloc (.cells #[.int .i64 1, .int .i64 0, .int .i64 F.id, .string sd] 48)).heap.size := Nat.le_trans HFL.out.out.t.size hb4.size
          go_wp2_with (at_builtin; go_must (refine wpList_app _ (by rfl) _ _ 44 (by rfl) 48 (.agg #[.int .i64 0, .int .i64 0, .int .i64 0, .string ⟨#[]⟩]) 4 40 Tryz.underlying44 (by kernel_rfl) rfl (by decide) w.heap.size _ M.length (fr M) (by rfl) ho3 _ 1 (fr [⟨1, 0, F.id, sd⟩]) (by rfl) hrd (fr_one _) (by omega) (by decide) hz4 ?_))
          intro ad8 cp8 v5 hown8 hg8 hat8
          have HFLx := hide (HFLn.out.app (M := [⟨1, 0, F.id, sd⟩]) hown8 hg8 (hat8.imp (fun h => h) (fun h => h.trans (by simp))))
          clear hown8 hg8 hat8 ho3 hrd hb4 HFLn HFL c0 hgm hgfl
          have HDF : Hid ((⟨1, 0, F.id, sd⟩ : Fr) = datFr F m) := by show _ = _; unfold datFr; rw [HSD.out]
          have HFIN : Hid (FlAt w g bs v5 D k (G - m) (pulF m F) bx gf cap (.slice ad8 (M ++ [datFr F m]).length cp8) (M ++ [datFr F m])) := hide (by have := HFLx.out; rw [HDF.out] at this; simpa using this)
          clear HFLx
          go_wp2_with fail
          go_roundg gi
          case measure => omega
          case rel => exact ⟨G - m, pulF m F, O ++ [datFr F m], M ++ [datFr F m], ad8, cp8, M.length, by simp, rfl, by have := HPS.out; omega, by have := HPS.out; simp; omega, ⟨⟨by show 0 ≤ F.tun.came + (m : Int); omega, by show F.tun.came + (m : Int) ≤ _; omega⟩, ⟨by omega, by omega⟩, ⟨by show -16777215 ≤ F.give - (m : Int); omega, by show F.give - (m : Int) ≤ _; omega⟩, b7, by have := HPS.out; omega⟩, hide (.inr ⟨O, datFr F m, rfl, by rw [HM.out, List.length_append]; simp⟩), HID, HSTEP, hide (by rw [HM.out, List.append_assoc]), HFIN⟩
end Go.Proofs.YtllaeakeaabiaaaGreat
/- The program's link: a stream is opened. -/
namespace Go.Proofs.YtllaeakeaabiaaaGreat
open Go.RowKit
set_option maxRecDepth 100000
set_option linter.unusedSimpArgs false
set_option linter.unusedVariables false
theorem implEnds (k fl st : Int) (b : ByteArray) (w : World) (h0 : 0 ≤ fl) (h3 : fl ≤ 3) : Calls Tryz.prog 210 #[.agg #[.int .i64 k, .int .i64 fl, .int .i64 st, .string b]] w fun e w' => e = .returned (.bool (decide (fl % 2 = 1))) ∧ Below w.heap.size w w' := by
  have : fl = 0 ∨ fl = 1 ∨ fl = 2 ∨ fl = 3 := by omega
  rcases this with rfl | rfl | rfl | rfl
  all_goals
    go_enter Tryz.func210, Tryz.ntmps210
    go_wp2_with fail
    go_ret
    exact ⟨by first | rfl | decide, (by repeat' (first | (with_reducible exact Below.refl _ _) | (with_reducible refine Below.drew ?_) | (with_reducible refine bo_drewN _ ?_) | (with_reducible refine bo_alloc ?_ _) | (refine bchain ?_ (by with_reducible assumption)) | (with_reducible refine Below.setCell ?_ ?_ _) | go_size))⟩
theorem atE_ids {a b : List EntryD} (h : a.map EntryD.id = b.map EntryD.id) (id : Int) : atE a id = atE b id := by
  have hl : a.length = b.length := by have := congrArg List.length h; simpa using this
  have hat : ∀ j (h1 : j < a.length) (h2 : j < b.length), a[j].id = b[j].id := fun j h1 h2 => by
    have e1 : (a.map EntryD.id)[j]'(by simpa using h1) = (b.map EntryD.id)[j]'(by simpa using h2) := by simp only [h]
    simpa using e1
  cases hb : atE b id with
  | some k =>
    obtain ⟨hk, h1, h2⟩ := atE_some hb
    exact atE_of k (by omega) ((hat k (by omega) hk).trans h1) fun j hj => by rw [hat j (by omega) (by omega)]; exact h2 j hj
  | none =>
    cases ha : atE a id with
    | none => rfl
    | some k =>
      obtain ⟨hk, h1, _⟩ := atE_some ha
      exact absurd ((hat k hk (by omega)).symm.trans h1) (atE_none hb _ (List.getElem_mem _))
theorem newTu_thousand : newTu 1000 = (⟨⟨1000, ⟨#[]⟩, false, false⟩, ⟨1000, ⟨#[]⟩, false, false⟩, 0, 0⟩, true) := by first | rfl | decide
theorem newFl_cells (id fst : Int) (l : List Fd) (v : Value) : flcs (newFl id fst l) v = [.int .i64 id, .int .i64 1000, .int .i64 fst, v, .int .i64 1000, .string ⟨#[]⟩, .bool false, .bool false, .int .i64 1000, .string ⟨#[]⟩, .bool false, .bool false, .int .i64 0, .int .i64 0, .bool false] := by
  unfold newFl; rw [newTu_thousand]
set_option maxHeartbeats 16000000 in
theorem implOpen (lo g : Nat) (d : CnD) (L : List Fr) (bs : List Nat) (f : Fr) (lv : Value) (l : List Fd) (vb : List Nat) (w : World) (h : LkM w lo g d L bs) (hok : okCn d = true) (hL : L.length ≤ 1000000) (hlv : OwR fieldS w lv l vb) (hnd : vb.Nodup) (hap : ∀ q ∈ vb, q ∉ g :: bs ∧ lo ≤ q) (hfs : okFs l = true) (hfl : f.fl = 0 ∨ f.fl = 1) :
    Calls Tryz.prog 177 #[.pointer (some ⟨g, 0, none⟩), .agg #[.int .i64 f.k, .int .i64 f.fl, .int .i64 f.st, .string f.b], lv] w fun x w' => x = endO (openO d f.st f.fl l) ∧ ∃ bx, Lnk lo g w (bs ++ vb) w' (openO d f.st f.fl l).1 (L ++ (openO d f.st f.fl l).2.1) bx := by
  have hq := h.far (Nat.le_refl _)
  obtain ⟨V, hV⟩ : ∃ V, w.alloc (.cells #[.int .i64 f.k, .int .i64 f.fl, .int .i64 f.st, .string f.b] 48) = V := ⟨_, rfl⟩; have hBV : Below w.heap.size w V := (by rw [← hV]; exact (Below.refl _ _).alloc (Nat.le_refl _) _); have hRV : RowIs V w.heap.size 48 [.int .i64 f.k, .int .i64 f.fl, .int .i64 f.st, .string f.b] := (by rw [← hV]; exact rowIs_new w 48 _)
  have hm := h.new hBV
  have hreg := (okCn_iff.1 hok).1
  have hlen := (cn_len hok).1
  have h60 := (cn_len hok).2
  have hgl := hm.glt
  have HLEN := hide hlen
  have hF60 : d.flows.length ≤ 60 := by omega
  clear hlen
  obtain ⟨la, lp, rfl, hl1, hl2⟩ := hlv.rd.form
  have HB := hide hBV; have HR := hide hRV; have HM := hide hm; have HQ := hide hq; have HOK := hide hok
  have HLV := hide hlv; have HND := hide hnd; have HAP := hide hap; have HFS := hide hfs
  have HQL := hide hRV.lt
  obtain ⟨reg, k, hopn⟩ : ∃ reg k, openRaw d.reg f.st = (reg, k) := ⟨_, _, rfl⟩
  have hod : openedD d.reg f.st = (reg, k) := by unfold openedD; rw [if_pos hreg, hopn]
  obtain ⟨E, hE⟩ : ∃ E, openO d f.st f.fl l = E := ⟨_, rfl⟩
  rw [hE]
  have hE2 : E = if k = 1 then ({ d with reg := reg }, [], some (0, 1))
    else if k = 2 then ({ d with reg := reg }, [resetFr f.st 5], none)
    else if d.away then ({ d with reg := reg, flows := d.flows ++ [newFl f.st d.first l] }, [], some (f.st, 5))
    else if f.fl = 1 then ({ hapD { d with reg := reg } f.st 2 with flows := d.flows ++ [endUp (newFl f.st d.first l)] }, [], none)
    else ({ d with reg := reg, flows := d.flows ++ [newFl f.st d.first l] }, [], none) := by
    rw [← hE]; unfold openO; rw [hopn]
  have HE := hide hE2; have HOP := hide hopn
  obtain ⟨⟨ve, vi, vo, vf, tv, cb, hrow, hc, h3, h4, h5⟩, hl, hlo, hng, hbs⟩ := hm
  obtain ⟨ae, pe, rfl, _, _⟩ := hc.rd.e.form
  have HED := hide hc.rd.e
  have HROW := hide hrow
  have HW : Hid (w.heap.size ≤ V.heap.size) := hBV.size
  clear hE hE2 hopn hrow hc h3 h4 h5 hl hlo hng hbs hq hBV hRV hok hlv hnd hap hfs h
  go_enter Tryz.func177, Tryz.ntmps177
  go_upto_region 2 with fail
  try rw [hV]
  clear hV
  have hD : Below V.heap.size V (World.drew V) := (Below.refl _ _).drew
  replace HR := hide (HR.out.new hD)
  replace HROW := hide (HROW.out.new hD)
  replace HM := hide (HM.out.new hD)
  replace HED := hide (HED.out.new hD)
  replace HB := hide (bchain HB.out hD)
  replace HQL := hide (Nat.lt_of_lt_of_le HQL.out hD.size)
  clear hD hgl
  refine wp_region_held_drew (S := fun u => RowIs u w.heap.size 48 [.int .i64 f.k, .int .i64 f.fl, .int .i64 f.st, .string f.b]) (by kernel_rfl) HR.out (fun hS => ?_)
  generalize World.drew V = v1 at *
  have x0 := RowIs.cell (j := 0) HROW.out rfl
  have x1 := RowIs.cell (j := 1) HROW.out rfl
  have x2 := RowIs.cell (j := 2) HROW.out rfl
  refine wpAnyH_take (i := 0) (v := ?_) rfl (by kernel_rfl) (by kernel_rfl) (by kernel_rfl) (fun _ _ _ h => h) (Or.inl ⟨by rfl, ?_⟩) hS ?_; rotate_left; focus (intro w hw; clear hw; go_simp; try with_reducible rfl)
  refine wpAnyH_take (i := 1) (v := ?_) rfl (by kernel_rfl) (by kernel_rfl) (by kernel_rfl) (fun _ _ _ h => h) (Or.inl ⟨by rfl, ?_⟩) hS ?_; rotate_left; focus (intro w hw; clear hw; go_simp; try with_reducible rfl)
  refine wpAnyH_take (i := 2) (v := ?_) rfl (by kernel_rfl) (by kernel_rfl) (by kernel_rfl) (fun _ _ _ h => h) (Or.inl ⟨by rfl, ?_⟩) hS ?_; rotate_left; focus (intro w hw; clear hw; go_simp; try with_reducible rfl)
  refine wpAnyH_take (i := 3) (v := ?_) rfl (by kernel_rfl) (by kernel_rfl) (by kernel_rfl) (fun _ _ _ h => h) (Or.inl ⟨by rfl, ?_⟩) hS ?_; rotate_left; focus (intro w hw; clear hw; go_simp; try with_reducible rfl)
  refine wpAnyH_take (i := 4) (v := ?_) rfl (by kernel_rfl) (by kernel_rfl) (by kernel_rfl) (fun _ _ _ h => h) (Or.inl ⟨by rfl, ?_⟩) hS ?_; rotate_left; focus (intro w hw; clear hw; go_simp; try with_reducible rfl)
  refine wpAnyH_take (i := 6) (v := ?_) rfl (by kernel_rfl) (by kernel_rfl) (by kernel_rfl) (fun _ _ _ h => h) (Or.inl ⟨by rfl, ?_⟩) hS ?_; rotate_left; focus (intro w hw; clear hw; go_simp; try with_reducible rfl)
  refine wpAnyH_take (i := 7) (v := .int .i64 f.st) rfl (by kernel_rfl) (by kernel_rfl) (by kernel_rfl) (fun _ _ _ h => h) (Or.inl ⟨by kernel_rfl, ?ld⟩) hS ?_; case ld => (intro uu hu; have z2 := RowIs.cell (j := 2) hu rfl; have z8 := hu.lt; clear hu; go_simp)
  refine wpAnyH_ready (rs := [5]) (by kernel_rfl) (by simp) ?_; refine AllReadyH.cons rfl (fun K hK => ?_) AllReadyH.nil; go_simp
  refine hK.out _ _ HR.out (fun hS => ?_)
  clear hK K x0 x1 x2
  try simp only [Act.put, List.getElem_toArray, List.getElem_cons_succ, List.getElem_cons_zero, List.setIfInBounds_toArray, List.set_cons_zero, List.set_cons_succ]
  refine wpAnyH_ready (rs := [8]) (by kernel_rfl) (by simp) ?_; refine AllReadyH.cons rfl (fun K hK => ?_) AllReadyH.nil; go_simp
  refine (implOpened d.reg _ f.st _ HED.out).mono ?_; rw [hod]; rintro x v2 ⟨vr, rfl, hor, hb2⟩
  obtain ⟨ar, pr, rfl, _, _⟩ := hor.form
  obtain ⟨bx, hl2⟩ := HM.out.setReg hb2 _ _ hor
  have HL := hide (Lnk.after HB.out hl2)
  have HR2 := hide (hl2.box HR.out HQ.out)
  have HQ2 := hide (hl2.apart HQL.out HQ.out)
  have hrow2 := HROW.out.new hb2
  have HQL2 := hide HQL.out
  have x0 := RowIs.cell (j := 0) hrow2 rfl
  have x1 := RowIs.cell (j := 1) hrow2 rfl
  have x2 := RowIs.cell (j := 2) hrow2 rfl
  have xf := fun j => RowIs.frozen hrow2 j
  have xl := hrow2.lt
  refine hK.out _ _ (HR.out.new hb2) (fun hS => ?_)
  clear hK K hl2 hor hb2 hrow2 HROW HM HED HR
  try simp only [Act.put, List.getElem_toArray, List.getElem_cons_succ, List.getElem_cons_zero, List.setIfInBounds_toArray, List.set_cons_zero, List.set_cons_succ]
  refine wpAnyH_take (i := 9) (v := ?_) rfl (by kernel_rfl) (by kernel_rfl) (by kernel_rfl) (fun _ _ _ h => h) (Or.inl ⟨by rfl, ?_⟩) hS ?_; rotate_left; focus (intro w hw; clear hw; go_simp; try with_reducible rfl)
  refine wpAnyH_take (i := 10) (v := ?_) rfl (by kernel_rfl) (by kernel_rfl) (by kernel_rfl) (fun _ _ _ h => h) (Or.inl ⟨by rfl, ?_⟩) hS ?_; rotate_left; focus (intro w hw; clear hw; go_simp; try with_reducible rfl)
  refine wpAnyH_take (i := 11) (v := ?_) rfl (by kernel_rfl) (by kernel_rfl) (by kernel_rfl) (fun _ _ _ h => h) (Or.inl ⟨by rfl, ?_⟩) hS ?_; rotate_left; focus (intro w hw; clear hw; go_simp; try with_reducible rfl)
  refine wpAnyH_take (i := 12) (v := ?_) rfl (by kernel_rfl) (by kernel_rfl) (by kernel_rfl) (fun _ _ _ h => h) (Or.inl ⟨by rfl, ?_⟩) hS ?_; rotate_left; focus (intro w hw; clear hw; go_simp; try with_reducible rfl)
  refine wpAnyH_take (i := 13) (v := ?_) rfl (by kernel_rfl) (by kernel_rfl) (by kernel_rfl) (fun _ _ _ h => h) (Or.inl ⟨by rfl, ?_⟩) hS ?_; rotate_left; focus (intro w hw; clear hw; go_simp; try with_reducible rfl)
  refine wpAnyH_take (i := 14) (v := ?_) rfl (by kernel_rfl) (by kernel_rfl) (by kernel_rfl) (fun _ _ _ h => h) (Or.inl ⟨by rfl, ?_⟩) hS ?_; rotate_left; focus (intro w hw; clear hw; go_simp; try with_reducible rfl)
  refine wpAnyH_ready (rs := [15]) (by kernel_rfl) (by simp) ?_; refine AllReadyH.cons rfl (fun K hK => ?_) AllReadyH.nil; go_simp
  refine hK.out _ _ HR2.out (fun hS => ?_)
  clear hK K x0 x1 x2 xf xl
  try simp only [Act.put, List.getElem_toArray, List.getElem_cons_succ, List.getElem_cons_zero, List.setIfInBounds_toArray, List.set_cons_zero, List.set_cons_succ]
  generalize ((v2.setCell ⟨g, 0, none⟩ (.int .i64 reg.lim)).setCell ⟨g, 1, none⟩ (.int .i64 reg.top)).setCell ⟨g, 2, none⟩ (.slice ar reg.es.length pr) = W at *
  refine wpAnyH_take (i := 16) (v := ?_) rfl (by kernel_rfl) (by kernel_rfl) (by kernel_rfl) (fun _ _ _ h => h) (Or.inl ⟨by rfl, ?_⟩) hS ?_; rotate_left; focus (intro w hw; clear hw; go_simp; try with_reducible rfl)
  refine wpAnyH_done (by kernel_rfl) ?_ _
  by_cases h1 : k = 1
  · subst h1
    have hE0 := HE.out
    rw [if_pos rfl] at hE0
    subst hE0
    have HF := hide (HL.out.wide (vb := vb))
    go_wp2_with fail
    refine ⟨rfl, rfl, bx, ?_⟩
    (try rw [List.append_nil]); exact HF.out
  by_cases h2 : k = 2
  · subst h2
    have hE0 := HE.out
    rw [if_neg h1, if_pos rfl] at hE0
    subst hE0
    have HF := hide HL
    have hL2 := hL
    clear HLV HND HAP HFS HE
    go_upto_region 7 with fail
    have hD : Below W.heap.size W (World.drew W) := (Below.refl _ _).drew
    replace HL := hide (HL.out.new hD)
    replace HR2 := hide (HR2.out.new hD)
    clear hD HF
    refine wp_region_held_drew (S := fun u => RowIs u w.heap.size 48 [.int .i64 f.k, .int .i64 f.fl, .int .i64 f.st, .string f.b]) (by kernel_rfl) HR2.out (fun hS => ?_)
    generalize World.drew W = v3 at *
    refine wpAnyH_take (i := 0) (v := ?_) rfl (by kernel_rfl) (by kernel_rfl) (by kernel_rfl) (fun _ _ _ h => h) (Or.inl ⟨by rfl, ?_⟩) hS ?_; rotate_left; focus (intro w hw; clear hw; go_simp; try with_reducible rfl)
    refine wpAnyH_take (i := 1) (v := ?_) rfl (by kernel_rfl) (by kernel_rfl) (by kernel_rfl) (fun _ _ _ h => h) (Or.inl ⟨by rfl, ?_⟩) hS ?_; rotate_left; focus (intro w hw; clear hw; go_simp; try with_reducible rfl)
    refine wpAnyH_take (i := 2) (v := .int .i64 f.st) rfl (by kernel_rfl) (by kernel_rfl) (by kernel_rfl) (fun _ _ _ h => h) (Or.inl ⟨by kernel_rfl, ?ld⟩) hS ?_; case ld => (intro uu hu; have z2 := RowIs.cell (j := 2) hu rfl; have z8 := hu.lt; clear hu; go_simp)
    refine wpAnyH_ready (rs := [3]) (by kernel_rfl) (by simp) ?_; refine AllReadyH.cons rfl (fun K hK => ?_) AllReadyH.nil; go_simp
    refine (implBytes 5 1 _).mono ?_; rw [bys1 (by omega) (by omega)]; rintro x v4 ⟨rfl, hb4⟩
    replace HL := hide (HL.out.new hb4)
    replace HR2 := hide (HR2.out.new hb4)
    refine hK.out _ _ HR2.out (fun hS => ?_)
    clear hK K hb4
    try simp only [Act.put, List.getElem_toArray, List.getElem_cons_succ, List.getElem_cons_zero, List.setIfInBounds_toArray, List.set_cons_zero, List.set_cons_succ]
    have hm4 := HL.out.m
    refine wpAnyH_ready (rs := [4]) (by kernel_rfl) (by simp) ?_; refine AllReadyH.cons rfl (fun K hK => ?_) AllReadyH.nil; go_simp
    refine (implTell lo g _ L bx 3 0 f.st (bytV 1 5) _ hm4 hL).mono ?_; rintro x v5 ⟨rfl, by_, hl5⟩
    have HF := hide ((HL.out.step hl5).wide (vb := vb))
    replace HR2 := hide (hl5.box HR2.out HQ2.out)
    refine hK.out _ _ HR2.out (fun hS => ?_)
    clear hK K hl5 hm4
    try simp only [Act.put, List.getElem_toArray, List.getElem_cons_succ, List.getElem_cons_zero, List.setIfInBounds_toArray, List.set_cons_zero, List.set_cons_succ]
    refine wpAnyH_done (by kernel_rfl) ?_ _
    go_wp2_with fail
    first | go_end0 | refine bodyPost_ret (results_none rfl _ _ _) rfl ?_
    exact ⟨rfl, _, HF.out⟩
  obtain ⟨hk0, hrk, hes, hok2, hat⟩ := openC_yes HOK.out HFS.out HOP.out h1 h2
  subst hk0
  have hE1 := HE.out
  rw [if_neg h1, if_neg h2] at hE1
  have HE1 := hide hE1
  have HRK := hide hrk; have HES := hide hes; have HOK2 := hide hok2; have HAT := hide hat
  have HNF : Hid (newFl f.st d.first l = ⟨f.st, 1000, d.first, l, ⟨⟨1000, ⟨#[]⟩, false, false⟩, ⟨1000, ⟨#[]⟩, false, false⟩, 0, 0⟩, false⟩) := by
    show _ = _
    unfold newFl; rw [newTu_thousand]
  clear hE1 hrk hes hok2 hat HE h1 h2 HOP
  go_wp2_with fail
  refine (implNewTunnel 1000 _).mono ?_; rw [newTu_thousand]; rintro x w3 ⟨rfl, hb3⟩
  have hbT : Below w3.heap.size w3 (w3.alloc (.cells #[.int .i64 1000, .string ⟨#[]⟩, .bool false, .bool false, .int .i64 1000, .string ⟨#[]⟩, .bool false, .bool false, .int .i64 0, .int .i64 0] 87)) := (Below.refl _ _).alloc (Nat.le_refl _) _
  have hRT := rowIs_new w3 87 [.int .i64 1000, .string ⟨#[]⟩, .bool false, .bool false, .int .i64 1000, .string ⟨#[]⟩, .bool false, .bool false, .int .i64 0, .int .i64 0]
  replace HL := hide (HL.out.new hb3)
  have HQT : Hid (w3.heap.size ∉ g :: bx) := HL.out.m.far (Nat.le_refl _)
  replace HL := hide (HL.out.new hbT)
  replace HR2 := hide ((HR2.out.new hb3).new hbT)
  clear hb3 hbT
  go_upto_region 9 with fail
  generalize w3.alloc (.cells #[.int .i64 1000, .string ⟨#[]⟩, .bool false, .bool false, .int .i64 1000, .string ⟨#[]⟩, .bool false, .bool false, .int .i64 0, .int .i64 0] 87) = w4 at *
  have hgt : w3.heap.size < w4.heap.size := hRT.lt
  generalize w3.heap.size = gt at *
  go_cut [9] (fun p wc => ∃ qx, p = .pointer (some ⟨qx, 0, none⟩) ∧ Hid (Lnk lo g w bs wc { d with reg := reg } L bx) ∧ Hid (RowIs wc w.heap.size 48 [.int .i64 f.k, .int .i64 f.fl, .int .i64 f.st, .string f.b]) ∧ Hid (RowIs wc qx 89 [.int .i64 f.st, .int .i64 1000, .int .i64 d.first, .slice la l.length lp, .int .i64 1000, .string ⟨#[]⟩, .bool false, .bool false, .int .i64 1000, .string ⟨#[]⟩, .bool false, .bool false, .int .i64 0, .int .i64 0, .bool false]) ∧ Hid (qx ∉ g :: bx) ∧ w.heap.size < qx)
  case first =>
    obtain ⟨⟨ve, vi, vo, vf, tv, cb, hrow, hc, h3, h4, h5⟩, hl, hlo, hng, hbs⟩ := HL.out.m
    have hD : Below w4.heap.size w4 (World.drew w4) := (Below.refl _ _).drew
    have HSS : Hid (RowIs (World.drew w4) w.heap.size 48 [.int .i64 f.k, .int .i64 f.fl, .int .i64 f.st, .string f.b] ∧ RowIs (World.drew w4) g 69 (lkcs { d with reg := reg } ve vi vo vf tv) ∧ RowIs (World.drew w4) gt 87 [.int .i64 1000, .string ⟨#[]⟩, .bool false, .bool false, .int .i64 1000, .string ⟨#[]⟩, .bool false, .bool false, .int .i64 0, .int .i64 0]) := ⟨HR2.out.new hD, hrow.new hD, hRT.new hD⟩
    replace HL := hide (HL.out.new hD)
    clear hD hrow hc h3 h4 h5 hl hlo hng hbs hRT
    refine wp_region_held_drew (S := fun u => RowIs u w.heap.size 48 [.int .i64 f.k, .int .i64 f.fl, .int .i64 f.st, .string f.b] ∧ RowIs u g 69 (lkcs { d with reg := reg } ve vi vo vf tv) ∧ RowIs u gt 87 [.int .i64 1000, .string ⟨#[]⟩, .bool false, .bool false, .int .i64 1000, .string ⟨#[]⟩, .bool false, .bool false, .int .i64 0, .int .i64 0]) (by kernel_rfl) HSS.out (fun hS => ?_)
    generalize World.drew w4 = v5 at *
    refine wpAnyH_take (i := 0) (v := ?_) rfl (by kernel_rfl) (by kernel_rfl) (by kernel_rfl) (fun _ _ _ h => h) (Or.inl ⟨by rfl, ?_⟩) hS ?_; rotate_left; focus (intro w hw; clear hw; go_simp; try with_reducible rfl)
    refine wpAnyH_take (i := 1) (v := .int .i64 f.st) rfl (by kernel_rfl) (by kernel_rfl) (by kernel_rfl) (fun _ _ _ h => h) (Or.inl ⟨by kernel_rfl, ?ld⟩) hS ?_; case ld => (intro uu hu; have z2 := RowIs.cell (j := 2) hu.1 rfl; have z8 := hu.1.lt; clear hu; go_simp)
    refine wpAnyH_take (i := 2) (v := ?_) rfl (by kernel_rfl) (by kernel_rfl) (by kernel_rfl) (fun _ _ _ h => h) (Or.inl ⟨by rfl, ?_⟩) hS ?_; rotate_left; focus (intro w hw; clear hw; go_simp; try with_reducible rfl)
    refine wpAnyH_take (i := 3) (v := ?_) rfl (by kernel_rfl) (by kernel_rfl) (by kernel_rfl) (fun _ _ _ h => h) (Or.inl ⟨by rfl, ?_⟩) hS ?_; rotate_left; focus (intro w hw; clear hw; go_simp; try with_reducible rfl)
    refine wpAnyH_take (i := 4) (v := ?_) rfl (by kernel_rfl) (by kernel_rfl) (by kernel_rfl) (fun _ _ _ h => h) (Or.inl ⟨by rfl, ?_⟩) hS ?_; rotate_left; focus (intro w hw; clear hw; go_simp; try with_reducible rfl)
    refine wpAnyH_take (i := 5) (v := ?_) rfl (by kernel_rfl) (by kernel_rfl) (by kernel_rfl) (fun _ _ _ h => h) (Or.inl ⟨by rfl, ?_⟩) hS ?_; rotate_left; focus (intro w hw; clear hw; go_simp; try with_reducible rfl)
    refine wpAnyH_take (i := 6) (v := .int .i64 d.first) rfl (by kernel_rfl) (by kernel_rfl) (by kernel_rfl) (fun _ _ _ h => h) (Or.inl ⟨by kernel_rfl, ?ld⟩) hS ?_; case ld => (intro uu hu; have z2 := RowIs.cell (j := 9) hu.2.1 rfl; have z8 := hu.2.1.lt; clear hu; go_simp)
    refine wpAnyH_take (i := 7) (v := ?_) rfl (by kernel_rfl) (by kernel_rfl) (by kernel_rfl) (fun _ _ _ h => h) (Or.inl ⟨by rfl, ?_⟩) hS ?_; rotate_left; focus (intro w hw; clear hw; go_simp; try with_reducible rfl)
    refine wpAnyH_take (i := 8) (v := .agg #[.int .i64 1000, .string ⟨#[]⟩, .bool false, .bool false, .int .i64 1000, .string ⟨#[]⟩, .bool false, .bool false, .int .i64 0, .int .i64 0]) rfl (by kernel_rfl) (by kernel_rfl) (by kernel_rfl) (fun _ _ _ h => h) (Or.inl ⟨by kernel_rfl, ?ld⟩) hS ?_
    case ld =>
      intro uu hu
      have z0 := RowIs.cell (j := 0) hu.2.2 rfl
      have z1 := RowIs.cell (j := 1) hu.2.2 rfl
      have z2 := RowIs.cell (j := 2) hu.2.2 rfl
      have z3 := RowIs.cell (j := 3) hu.2.2 rfl
      have z4 := RowIs.cell (j := 4) hu.2.2 rfl
      have z5 := RowIs.cell (j := 5) hu.2.2 rfl
      have z6 := RowIs.cell (j := 6) hu.2.2 rfl
      have z7 := RowIs.cell (j := 7) hu.2.2 rfl
      have z8 := RowIs.cell (j := 8) hu.2.2 rfl
      have z9 := RowIs.cell (j := 9) hu.2.2 rfl
      clear hu
      go_simp
    refine wpAnyH_take (i := 9) (v := ?_) rfl (by kernel_rfl) (by kernel_rfl) (by kernel_rfl) (fun _ _ _ h => h) (Or.inl ⟨by rfl, ?_⟩) hS ?_; rotate_left; focus (intro w hw; clear hw; go_simp; try with_reducible rfl)
    refine wpAnyH_ready (rs := [10]) (by kernel_rfl) (by simp) ?_; refine AllReadyH.cons rfl (fun K hK => ?_) AllReadyH.nil; go_simp
    have hbZ : Below v5.heap.size v5 (v5.alloc (.cells #[.int .i64 0, .int .i64 0, .int .i64 0, .slice none 0 0, .int .i64 0, .string ⟨#[]⟩, .bool false, .bool false, .int .i64 0, .string ⟨#[]⟩, .bool false, .bool false, .int .i64 0, .int .i64 0, .bool false] 89)) := (Below.refl _ _).alloc (Nat.le_refl _) _
    refine hK.out _ _ ⟨HSS.out.1.new hbZ, HSS.out.2.1.new hbZ, HSS.out.2.2.new hbZ⟩ (fun hS => ?_)
    clear hK K hbZ
    try simp only [Act.put, List.getElem_toArray, List.getElem_cons_succ, List.getElem_cons_zero, List.setIfInBounds_toArray, List.set_cons_zero, List.set_cons_succ]
    have HQX := hide (HL.out.m.far (Nat.le_refl v5.heap.size))
    have HWX : Hid (w.heap.size < v5.heap.size) := HSS.out.1.lt
    refine wpAnyH_ready (rs := [11]) (by kernel_rfl) (by simp) ?_; refine AllReadyH.cons rfl (fun K hK => ?_) AllReadyH.nil; go_simp
    have hbX : Below v5.heap.size v5 (v5.alloc (.cells #[.int .i64 f.st, .int .i64 1000, .int .i64 d.first, .slice la l.length lp, .int .i64 1000, .string ⟨#[]⟩, .bool false, .bool false, .int .i64 1000, .string ⟨#[]⟩, .bool false, .bool false, .int .i64 0, .int .i64 0, .bool false] 89)) := (Below.refl _ _).alloc (Nat.le_refl _) _
    have HRX := hide (rowIs_new v5 89 [.int .i64 f.st, .int .i64 1000, .int .i64 d.first, .slice la l.length lp, .int .i64 1000, .string ⟨#[]⟩, .bool false, .bool false, .int .i64 1000, .string ⟨#[]⟩, .bool false, .bool false, .int .i64 0, .int .i64 0, .bool false])
    replace HL := hide (HL.out.new hbX)
    refine hK.out _ _ ⟨HSS.out.1.new hbX, HSS.out.2.1.new hbX, HSS.out.2.2.new hbX⟩ (fun hS => ?_)
    clear hK K hbX
    try simp only [Act.put, List.getElem_toArray, List.getElem_cons_succ, List.getElem_cons_zero, List.setIfInBounds_toArray, List.set_cons_zero, List.set_cons_succ]
    refine wpAnyH_done (by kernel_rfl) ?_ _
    go_wp2_with fail
    go_meet
    exact ⟨_, rfl, HL, hide hS.1, HRX, HQX, HWX.out⟩
  clear HR2 HQT hRT hgt HL
  rename_i wc
  obtain ⟨qx, hpx, HL, HR2, HRX0, HX3, hwq⟩ := hcut
  obtain rfl := hpx
  go_upto_region 10 with fail
  go_cut [] (fun wc => ∃ u by_, u = wc ∧ Hid (Lnk lo g w (bs ++ vb) u { d with reg := reg, flows := d.flows ++ [newFl f.st d.first l] } L by_) ∧ Hid (RowIs u w.heap.size 48 [.int .i64 f.k, .int .i64 f.fl, .int .i64 f.st, .string f.b]) ∧ Hid (w.heap.size ∉ g :: by_))
  case first =>
    obtain ⟨⟨ve, vi, vo, vf, tv, cb, hrow, hc, h3, h4, h5⟩, hl, hlo, hng, hbs⟩ := HL.out.m
    obtain ⟨af, pf, rfl, _, _⟩ := hc.rd.f.form
    have hD : Below wc.heap.size wc (World.drew wc) := (Below.refl _ _).drew
    have HS2 : Hid (RowIs (World.drew wc) w.heap.size 48 [.int .i64 f.k, .int .i64 f.fl, .int .i64 f.st, .string f.b] ∧ RowIs (World.drew wc) qx 89 [.int .i64 f.st, .int .i64 1000, .int .i64 d.first, .slice la l.length lp, .int .i64 1000, .string ⟨#[]⟩, .bool false, .bool false, .int .i64 1000, .string ⟨#[]⟩, .bool false, .bool false, .int .i64 0, .int .i64 0, .bool false]) := ⟨HR2.out.new hD, HRX0.out.new hD⟩
    have HROW := hide (hrow.new hD)
    replace HL := hide (HL.out.new hD)
    clear hD hrow hc h3 h4 h5 hl hlo hng hbs
    refine wp_region_held_drew (S := fun u => RowIs u w.heap.size 48 [.int .i64 f.k, .int .i64 f.fl, .int .i64 f.st, .string f.b] ∧ RowIs u qx 89 [.int .i64 f.st, .int .i64 1000, .int .i64 d.first, .slice la l.length lp, .int .i64 1000, .string ⟨#[]⟩, .bool false, .bool false, .int .i64 1000, .string ⟨#[]⟩, .bool false, .bool false, .int .i64 0, .int .i64 0, .bool false]) (by kernel_rfl) HS2.out (fun hS => ?_)
    generalize World.drew wc = v5 at *
    refine wpAnyH_take (i := 0) (v := ?_) rfl (by kernel_rfl) (by kernel_rfl) (by kernel_rfl) (fun _ _ _ h => h) (Or.inl ⟨by rfl, ?_⟩) hS ?_; rotate_left; focus (intro w hw; clear hw; go_simp; try with_reducible rfl)
    refine wpAnyH_take (i := 1) (v := ?_) rfl (by kernel_rfl) (by kernel_rfl) (by kernel_rfl) (fun _ _ _ h => h) (Or.inl ⟨by rfl, ?_⟩) hS ?_; rotate_left; focus (intro w hw; clear hw; go_simp; try with_reducible rfl)
    refine wpAnyH_take (i := 2) (v := ?_) rfl (by kernel_rfl) (by kernel_rfl) (by kernel_rfl) (fun _ _ _ h => h) (Or.inl ⟨by rfl, ?_⟩) hS ?_; rotate_left; focus (intro w hw; clear hw; go_simp; try with_reducible rfl)
    refine wpAnyH_take (i := 3) (v := ?_) rfl (by kernel_rfl) (by kernel_rfl) (by kernel_rfl) (fun _ _ _ h => h) (Or.inl ⟨by rfl, ?_⟩) hS ?_; rotate_left; focus (intro w hw; clear hw; go_simp; try with_reducible rfl)
    refine wpAnyH_take (i := 4) (v := ?_) rfl (by kernel_rfl) (by kernel_rfl) (by kernel_rfl) (fun _ _ _ h => h) (Or.inl ⟨by rfl, ?_⟩) hS ?_; rotate_left; focus (intro w hw; clear hw; go_simp; try with_reducible rfl)
    refine wpAnyH_take (i := 6) (v := .agg #[.int .i64 f.st, .int .i64 1000, .int .i64 d.first, .slice la l.length lp, .int .i64 1000, .string ⟨#[]⟩, .bool false, .bool false, .int .i64 1000, .string ⟨#[]⟩, .bool false, .bool false, .int .i64 0, .int .i64 0, .bool false]) rfl (by kernel_rfl) (by kernel_rfl) (by kernel_rfl) (fun _ _ _ h => h) (Or.inl ⟨by kernel_rfl, ?ld⟩) hS ?_
    case ld =>
      intro uu hu
      have z0 := RowIs.cell (j := 0) hu.2 rfl
      have z1 := RowIs.cell (j := 1) hu.2 rfl
      have z2 := RowIs.cell (j := 2) hu.2 rfl
      have z3 := RowIs.cell (j := 3) hu.2 rfl
      have z4 := RowIs.cell (j := 4) hu.2 rfl
      have z5 := RowIs.cell (j := 5) hu.2 rfl
      have z6 := RowIs.cell (j := 6) hu.2 rfl
      have z7 := RowIs.cell (j := 7) hu.2 rfl
      have z8 := RowIs.cell (j := 8) hu.2 rfl
      have z9 := RowIs.cell (j := 9) hu.2 rfl
      have z10 := RowIs.cell (j := 10) hu.2 rfl
      have z11 := RowIs.cell (j := 11) hu.2 rfl
      have z12 := RowIs.cell (j := 12) hu.2 rfl
      have z13 := RowIs.cell (j := 13) hu.2 rfl
      have z14 := RowIs.cell (j := 14) hu.2 rfl
      clear hu
      go_simp
    have hbX : Below v5.heap.size v5 (v5.alloc (.cells #[.int .i64 f.st, .int .i64 1000, .int .i64 d.first, .slice la l.length lp, .int .i64 1000, .string ⟨#[]⟩, .bool false, .bool false, .int .i64 1000, .string ⟨#[]⟩, .bool false, .bool false, .int .i64 0, .int .i64 0, .bool false] 89)) := (Below.refl _ _).alloc (Nat.le_refl _) _
    have HBX := hide hbX
    have HRX : Hid (Reads (v5.alloc (.cells #[.int .i64 f.st, .int .i64 1000, .int .i64 d.first, .slice la l.length lp, .int .i64 1000, .string ⟨#[]⟩, .bool false, .bool false, .int .i64 1000, .string ⟨#[]⟩, .bool false, .bool false, .int .i64 0, .int .i64 0, .bool false] 89)) (.slice (some ⟨v5.heap.size, 0, none⟩) 1 1) 1 15 [.int .i64 f.st, .int .i64 1000, .int .i64 d.first, .slice la l.length lp, .int .i64 1000, .string ⟨#[]⟩, .bool false, .bool false, .int .i64 1000, .string ⟨#[]⟩, .bool false, .bool false, .int .i64 0, .int .i64 0, .bool false]) := reads_of_owns (owns_lit v5 89 15 1 #[.int .i64 f.st, .int .i64 1000, .int .i64 d.first, .slice la l.length lp, .int .i64 1000, .string ⟨#[]⟩, .bool false, .bool false, .int .i64 1000, .string ⟨#[]⟩, .bool false, .bool false, .int .i64 0, .int .i64 0, .bool false] rfl (by omega))
    have HL3 := hide (HL.out.new hbX)
    have HROW3 := hide (HROW.out.new hbX)
    obtain ⟨v6, hv6⟩ : ∃ v, v5.alloc (.cells #[.int .i64 f.st, .int .i64 1000, .int .i64 d.first, .slice la l.length lp, .int .i64 1000, .string ⟨#[]⟩, .bool false, .bool false, .int .i64 1000, .string ⟨#[]⟩, .bool false, .bool false, .int .i64 0, .int .i64 0, .bool false] 89) = v := ⟨_, rfl⟩
    rw [hv6] at HBX HRX HL3 HROW3
    clear hbX
    refine wpAnyH_ready (rs := [5, 7]) (by kernel_rfl) (by simp) ?_
    refine AllReadyH.cons rfl (fun K hK => ?_) (AllReadyH.cons rfl (fun K hK => ?_) AllReadyH.nil)
    · skip
      have x10 := RowIs.cell (j := 10) HROW.out rfl
      go_simp
      refine hK.out _ _ HS2.out (fun hS => ?_)
      clear hK K x10
      try simp only [Act.put, List.getElem_toArray, List.getElem_cons_succ, List.getElem_cons_zero, List.setIfInBounds_toArray, List.set_cons_zero, List.set_cons_succ]
      refine wpAnyH_ready (rs := [7]) (by kernel_rfl) (by simp) ?_; refine AllReadyH.cons rfl (fun K hK => ?_) AllReadyH.nil; go_simp
      try rw [hv6]
      refine hK.out _ _ ⟨HS2.out.1.new HBX.out, HS2.out.2.new HBX.out⟩ (fun hS => ?_)
      clear hK K
      try simp only [Act.put, List.getElem_toArray, List.getElem_cons_succ, List.getElem_cons_zero, List.setIfInBounds_toArray, List.set_cons_zero, List.set_cons_succ]
      refine wpAnyH_ready (rs := [8]) (by kernel_rfl) (by simp) ?_
      refine (AllReadyH.cons rfl (fun K hK => ?_) AllReadyH.nil)
      obtain ⟨ve9, vi9, vo9, a9, p9, tv9, xs, hrow9, hown9, hbk9, hgrow⟩ := HL3.out.m.grow
      have e10 := (RowIs.cell (j := 10) hrow9 rfl).symm.trans (RowIs.cell (j := 10) HROW3.out rfl)
      simp only [Option.some.injEq, Value.slice.injEq, and_true, true_and] at e10
      obtain ⟨rfl, rfl⟩ := e10
      have HGW := hide hgrow
      have HR9 := hide hrow9
      clear hgrow hrow9
      refine step_app _ (by rfl) _ _ 41 (by rfl) 89 (.agg #[.int .i64 0, .int .i64 0, .int .i64 0, .slice none 0 0, .int .i64 0, .string ⟨#[]⟩, .bool false, .bool false, .int .i64 0, .string ⟨#[]⟩, .bool false, .bool false, .int .i64 0, .int .i64 0, .bool false]) 15 136 Tryz.underlying41 (by kernel_rfl) rfl (by decide) 0 _ d.flows.length xs (by rfl) hown9 _ 1 [.int .i64 f.st, .int .i64 1000, .int .i64 d.first, .slice la l.length lp, .int .i64 1000, .string ⟨#[]⟩, .bool false, .bool false, .int .i64 1000, .string ⟨#[]⟩, .bool false, .bool false, .int .i64 0, .int .i64 0, .bool false] (by rfl) HRX.out (by intro y hy; simp at hy; rcases hy with rfl | rfl | rfl | rfl | rfl | rfl | rfl | rfl | rfl | rfl | rfl | rfl | rfl | rfl | rfl <;> rfl) (by omega) (by decide) (Nat.zero_le _) ?_
      intro ad8 cp8 u4 hown8 hg8 hat8
      have HLV3 : OwR fieldS v6 (.slice la l.length lp) l vb := HLV.out.keep (HL3.out.t.size) (fun b hb => HL3.out.t.block b (HLV.out.lt b hb) (HAP.out b hb).1)
      obtain ⟨by8, hl8⟩ := HGW.out u4 _ (newFl f.st d.first l) (.slice la l.length lp) vb ⟨.slice la l.length lp, vb, rfl, by rw [HNF.out]; exact Nat.zero_le _, by rw [HNF.out]; exact Nat.zero_le _, by rw [HNF.out]; exact HLV3, rfl⟩ HND.out (fun q hq => ⟨HL3.out.apart (HLV.out.lt q hq) (HAP.out q hq).1, (HAP.out q hq).2⟩) (by rw [newFl_cells]; exact hown8) hg8 hat8
      have hgk : ∀ q, q < v6.heap.size → (∀ z, (Value.slice a9 d.flows.length p9).ownBlock = some z → q ≠ z) → u4.heap[q]? = v6.heap[q]? := fun q hq hn => hg8.block q hq (fun e => hn q e.symm rfl)
      have HB9 := hide hbk9
      have hr8 := hS.1.kept (hgk _ hS.1.lt (fun z hz e => HQ2.out (by rw [e]; exact List.mem_cons_of_mem _ (HB9.out z hz))))
      have hu8 := hS.2.kept (hgk _ hS.2.lt (fun z hz e => HX3.out (by rw [e]; exact List.mem_cons_of_mem _ (HB9.out z hz))))
      have hrow8 := HROW3.out.kept (hgk g HROW3.out.lt (fun z hz e => HL3.out.m.ng (e ▸ HB9.out z hz)))
      have HFIN := hide (HL3.out.step2 hl8)
      have HQ9 : Hid (w.heap.size ∉ g :: by8) := hl8.apart hS.1.lt (fun hx => by
        rcases List.mem_cons.1 hx with e | e
        · exact HQ2.out (by simp [e])
        · rcases List.mem_append.1 e with e | e
          · exact HQ2.out (by simp [e])
          · have := HLV.out.lt _ e; omega)
      refine hK.out _ _ ⟨hr8, hu8⟩ (fun hS => ?_)
      have HROW8 := hide hrow8
      clear hK K hown8 hg8 hat8 hl8 hgk hr8 hu8 hrow8 HGW HLV3 hown9 hbk9
      try simp only [Act.put, List.getElem_toArray, List.getElem_cons_succ, List.getElem_cons_zero, List.setIfInBounds_toArray, List.set_cons_zero, List.set_cons_succ]
      refine wpAnyH_take (i := 9) (v := ?_) rfl (by kernel_rfl) (by kernel_rfl) (by kernel_rfl) (fun _ _ _ h => h) (Or.inl ⟨by rfl, ?_⟩) hS ?_; rotate_left; focus (intro w hw; clear hw; go_simp; try with_reducible rfl)
      refine wpAnyH_take (i := 10) (v := ?_) rfl (by kernel_rfl) (by kernel_rfl) (by kernel_rfl) (fun _ _ _ h => h) (Or.inl ⟨by rfl, ?_⟩) hS ?_; rotate_left; focus (intro w hw; clear hw; go_simp; try with_reducible rfl)
      refine wpAnyH_take (i := 11) (v := ?_) rfl (by kernel_rfl) (by kernel_rfl) (by kernel_rfl) (fun _ _ _ h => h) (Or.inl ⟨by rfl, ?_⟩) hS ?_; rotate_left; focus (intro w hw; clear hw; go_simp; try with_reducible rfl)
      have x10 := RowIs.cell (j := 10) HROW8.out rfl
      have xf := RowIs.frozen HROW8.out 10
      have xl := HROW8.out.lt
      refine wpAnyH_ready (rs := [12]) (by kernel_rfl) (by simp) ?_; refine AllReadyH.cons rfl (fun K hK => ?_) AllReadyH.nil; go_simp
      refine hK.out _ _ ⟨hS.1.far ⟨g, 10, none⟩ _ (fun e => HQ2.out (by simp [← e])), hS.2.far ⟨g, 10, none⟩ _ (fun e => HX3.out (by simp [← e]))⟩ (fun hS => ?_)
      clear hK K x10 xf xl HROW8
      try simp only [Act.put, List.getElem_toArray, List.getElem_cons_succ, List.getElem_cons_zero, List.setIfInBounds_toArray, List.set_cons_zero, List.set_cons_succ]
      refine wpAnyH_done (by kernel_rfl) ?_ _
      go_wp2_with fail
      go_meet
      exact ⟨_, _, rfl, HFIN, hide hS.1, HQ9⟩
    · skip
      go_simp
      try rw [hv6]
      refine hK.out _ _ ⟨HS2.out.1.new HBX.out, HS2.out.2.new HBX.out⟩ (fun hS => ?_)
      clear hK K
      try simp only [Act.put, List.getElem_toArray, List.getElem_cons_succ, List.getElem_cons_zero, List.setIfInBounds_toArray, List.set_cons_zero, List.set_cons_succ]
      have x10 := RowIs.cell (j := 10) HROW3.out rfl
      refine wpAnyH_ready (rs := [5]) (by kernel_rfl) (by simp) ?_; refine AllReadyH.cons rfl (fun K hK => ?_) AllReadyH.nil; go_simp
      refine hK.out _ _ ⟨HS2.out.1.new HBX.out, HS2.out.2.new HBX.out⟩ (fun hS => ?_)
      clear hK K x10
      try simp only [Act.put, List.getElem_toArray, List.getElem_cons_succ, List.getElem_cons_zero, List.setIfInBounds_toArray, List.set_cons_zero, List.set_cons_succ]
      refine wpAnyH_ready (rs := [8]) (by kernel_rfl) (by simp) ?_
      refine (AllReadyH.cons rfl (fun K hK => ?_) AllReadyH.nil)
      obtain ⟨ve9, vi9, vo9, a9, p9, tv9, xs, hrow9, hown9, hbk9, hgrow⟩ := HL3.out.m.grow
      have e10 := (RowIs.cell (j := 10) hrow9 rfl).symm.trans (RowIs.cell (j := 10) HROW3.out rfl)
      simp only [Option.some.injEq, Value.slice.injEq, and_true, true_and] at e10
      obtain ⟨rfl, rfl⟩ := e10
      have HGW := hide hgrow
      have HR9 := hide hrow9
      clear hgrow hrow9
      refine step_app _ (by rfl) _ _ 41 (by rfl) 89 (.agg #[.int .i64 0, .int .i64 0, .int .i64 0, .slice none 0 0, .int .i64 0, .string ⟨#[]⟩, .bool false, .bool false, .int .i64 0, .string ⟨#[]⟩, .bool false, .bool false, .int .i64 0, .int .i64 0, .bool false]) 15 136 Tryz.underlying41 (by kernel_rfl) rfl (by decide) 0 _ d.flows.length xs (by rfl) hown9 _ 1 [.int .i64 f.st, .int .i64 1000, .int .i64 d.first, .slice la l.length lp, .int .i64 1000, .string ⟨#[]⟩, .bool false, .bool false, .int .i64 1000, .string ⟨#[]⟩, .bool false, .bool false, .int .i64 0, .int .i64 0, .bool false] (by rfl) HRX.out (by intro y hy; simp at hy; rcases hy with rfl | rfl | rfl | rfl | rfl | rfl | rfl | rfl | rfl | rfl | rfl | rfl | rfl | rfl | rfl <;> rfl) (by omega) (by decide) (Nat.zero_le _) ?_
      intro ad8 cp8 u4 hown8 hg8 hat8
      have HLV3 : OwR fieldS v6 (.slice la l.length lp) l vb := HLV.out.keep (HL3.out.t.size) (fun b hb => HL3.out.t.block b (HLV.out.lt b hb) (HAP.out b hb).1)
      obtain ⟨by8, hl8⟩ := HGW.out u4 _ (newFl f.st d.first l) (.slice la l.length lp) vb ⟨.slice la l.length lp, vb, rfl, by rw [HNF.out]; exact Nat.zero_le _, by rw [HNF.out]; exact Nat.zero_le _, by rw [HNF.out]; exact HLV3, rfl⟩ HND.out (fun q hq => ⟨HL3.out.apart (HLV.out.lt q hq) (HAP.out q hq).1, (HAP.out q hq).2⟩) (by rw [newFl_cells]; exact hown8) hg8 hat8
      have hgk : ∀ q, q < v6.heap.size → (∀ z, (Value.slice a9 d.flows.length p9).ownBlock = some z → q ≠ z) → u4.heap[q]? = v6.heap[q]? := fun q hq hn => hg8.block q hq (fun e => hn q e.symm rfl)
      have HB9 := hide hbk9
      have hr8 := hS.1.kept (hgk _ hS.1.lt (fun z hz e => HQ2.out (by rw [e]; exact List.mem_cons_of_mem _ (HB9.out z hz))))
      have hu8 := hS.2.kept (hgk _ hS.2.lt (fun z hz e => HX3.out (by rw [e]; exact List.mem_cons_of_mem _ (HB9.out z hz))))
      have hrow8 := HROW3.out.kept (hgk g HROW3.out.lt (fun z hz e => HL3.out.m.ng (e ▸ HB9.out z hz)))
      have HFIN := hide (HL3.out.step2 hl8)
      have HQ9 : Hid (w.heap.size ∉ g :: by8) := hl8.apart hS.1.lt (fun hx => by
        rcases List.mem_cons.1 hx with e | e
        · exact HQ2.out (by simp [e])
        · rcases List.mem_append.1 e with e | e
          · exact HQ2.out (by simp [e])
          · have := HLV.out.lt _ e; omega)
      refine hK.out _ _ ⟨hr8, hu8⟩ (fun hS => ?_)
      have HROW8 := hide hrow8
      clear hK K hown8 hg8 hat8 hl8 hgk hr8 hu8 hrow8 HGW HLV3 hown9 hbk9
      try simp only [Act.put, List.getElem_toArray, List.getElem_cons_succ, List.getElem_cons_zero, List.setIfInBounds_toArray, List.set_cons_zero, List.set_cons_succ]
      refine wpAnyH_take (i := 9) (v := ?_) rfl (by kernel_rfl) (by kernel_rfl) (by kernel_rfl) (fun _ _ _ h => h) (Or.inl ⟨by rfl, ?_⟩) hS ?_; rotate_left; focus (intro w hw; clear hw; go_simp; try with_reducible rfl)
      refine wpAnyH_take (i := 10) (v := ?_) rfl (by kernel_rfl) (by kernel_rfl) (by kernel_rfl) (fun _ _ _ h => h) (Or.inl ⟨by rfl, ?_⟩) hS ?_; rotate_left; focus (intro w hw; clear hw; go_simp; try with_reducible rfl)
      refine wpAnyH_take (i := 11) (v := ?_) rfl (by kernel_rfl) (by kernel_rfl) (by kernel_rfl) (fun _ _ _ h => h) (Or.inl ⟨by rfl, ?_⟩) hS ?_; rotate_left; focus (intro w hw; clear hw; go_simp; try with_reducible rfl)
      have x10 := RowIs.cell (j := 10) HROW8.out rfl
      have xf := RowIs.frozen HROW8.out 10
      have xl := HROW8.out.lt
      refine wpAnyH_ready (rs := [12]) (by kernel_rfl) (by simp) ?_; refine AllReadyH.cons rfl (fun K hK => ?_) AllReadyH.nil; go_simp
      refine hK.out _ _ ⟨hS.1.far ⟨g, 10, none⟩ _ (fun e => HQ2.out (by simp [← e])), hS.2.far ⟨g, 10, none⟩ _ (fun e => HX3.out (by simp [← e]))⟩ (fun hS => ?_)
      clear hK K x10 xf xl HROW8
      try simp only [Act.put, List.getElem_toArray, List.getElem_cons_succ, List.getElem_cons_zero, List.setIfInBounds_toArray, List.set_cons_zero, List.set_cons_succ]
      refine wpAnyH_done (by kernel_rfl) ?_ _
      go_wp2_with fail
      go_meet
      exact ⟨_, _, rfl, HFIN, hide hS.1, HQ9⟩
  rename_i wc9
  obtain ⟨u, by_, rfl, HL9, HR9, HQ9⟩ := hcut
  clear HL HR2 HRX0 HX3 hwq
  obtain ⟨D2, hD2⟩ : ∃ D2 : CnD, ({ d with reg := reg, flows := d.flows ++ [newFl f.st d.first l] } : CnD) = D2 := ⟨_, rfl⟩
  have hrg2 : D2.reg = reg := by rw [← hD2]
  have hfl2 : D2.flows = d.flows ++ [newFl f.st d.first l] := by rw [← hD2]
  have haw2 : D2.away = d.away := by rw [← hD2]
  rw [hD2] at HOK2 HL9 HE1
  have HRG2 := hide hrg2; have HFL2 := hide hfl2; have HD2 := hide hD2
  clear hrg2 hfl2 hD2
  obtain ⟨⟨ve, vi, vo, vf, tv, cb, hrow, hc, h3, h4, h5⟩, hl, hlo, hng, hbs⟩ := HL9.out.m
  have x11 := RowIs.cell (j := 11) hrow rfl
  have r2 := RowIs.cell (j := 2) HR9.out rfl
  clear hrow hc h3 h4 h5 hl hlo hng hbs
  rw [haw2] at x11
  clear haw2
  cases haw : d.away
  rotate_left
  · rw [haw] at x11
    have hE0 := HE1.out
    rw [if_pos haw] at hE0
    subst hE0
    go_wp2_with fail
    refine ⟨rfl, rfl, by_, ?_⟩
    (try rw [List.append_nil]); exact HL9.out
  rw [haw] at x11
  have hE0 := HE1.out
  rw [if_neg (by rw [haw]; decide)] at hE0
  have HE3 := hide hE0
  have r0 := RowIs.cell (j := 0) HR9.out rfl
  have r1 := RowIs.cell (j := 1) HR9.out rfl
  have r3 := RowIs.cell (j := 3) HR9.out rfl
  clear hE0 HE1
  go_wp2_with fail
  refine (implEnds f.k f.fl f.st f.b _ (by omega) (by omega)).mono ?_; rintro x w6 ⟨rfl, hb6⟩
  replace HL9 := hide (HL9.out.new hb6)
  replace HR9 := hide (HR9.out.new hb6)
  clear hb6 r0 r1 r2 r3 x11
  rcases hfl with hf0 | hf1
  · have hE0 := HE3.out
    rw [if_neg (by omega)] at hE0
    subst hE0
    rw [show decide (f.fl % 2 = 1) = false by rw [hf0]; rfl]
    clear hf0
    go_wp2_with fail
    first | go_end0 | refine bodyPost_ret (results_none rfl _ _ _) rfl ?_
    refine ⟨rfl, by_, ?_⟩
    (try rw [List.append_nil]); exact HL9.out
  rw [show decide (f.fl % 2 = 1) = true by rw [hf1]; rfl]
  have hE0 := HE3.out
  rw [if_pos hf1] at hE0
  have r2 := RowIs.cell (j := 2) HR9.out rfl
  have hm9 := HL9.out.m
  have hrk2 : okRg D2.reg = true := by rw [HRG2.out]; exact HRK.out
  obtain ⟨D3, hD3⟩ : ∃ D3, hapD D2 f.st 2 = D3 := ⟨_, rfl⟩
  have hE3 : E = ({ D3 with flows := d.flows ++ [endUp (newFl f.st d.first l)] }, [], none) := by
    rw [hE0, ← hD3, ← HD2.out]; rfl
  have hok3 : okCn D3 = true := by rw [← hD3]; exact hap_ok _ _ HOK2.out
  have hfl3 : D3.flows = d.flows ++ [newFl f.st d.first l] := by rw [← hD3]; exact HFL2.out
  have hat3 : atE D3.reg.es f.st = some d.flows.length := by
    rw [← hD3, HLEN.out, ← HAT.out, ← HRG2.out]
    exact atE_ids (hap_ids D2.reg f.st 2) f.st
  have HE4 := hide hE3; have HOK3 := hide hok3; have HFL3 := hide hfl3; have HAT3 := hide hat3; have HD3 := hide hD3
  clear hE0 hE3 hok3 hfl3 hat3 hD3 HE3 hf1
  go_wp2_with fail
  refine (implHappen lo g D2 L by_ f.st 2 _ hm9 hrk2).mono ?_; rintro x w7 ⟨rfl, bz, hl7⟩
  rw [HD3.out] at hl7
  have HL7 := hide (HL9.out.step hl7)
  have HR7 := hide (hl7.box HR9.out HQ9.out)
  clear hl7 hm9 r2 HL9 HR9 hrk2
  have r2 := RowIs.cell (j := 2) HR7.out rfl
  obtain ⟨n, hn⟩ : ∃ n, d.flows.length = n := ⟨_, rfl⟩
  have hl3 : D3.flows.length = n + 1 := by rw [HFL3.out, List.length_append, hn]; rfl
  have hn3 : n < D3.flows.length := by omega
  have hx3 : D3.flows[n] = newFl f.st d.first l := by simp only [HFL3.out]; rw [List.getElem_append_right (by omega)]; simp [hn]
  have hw3 : D3.flows.set n (endUp D3.flows[n]) = d.flows ++ [endUp (newFl f.st d.first l)] := by rw [hx3, HFL3.out, List.set_append_right _ _ (by omega)]; simp [hn]
  rw [hn] at HAT3
  obtain ⟨gf, A, C, ve, vi, vo, cap, v0, tv, hrow, hgb, hgfl, hgg, hmid, f0, f1, hput⟩ := HL7.out.m.flw n hn3
  rw [← hw3] at HE4
  generalize D3.flows[n] = x at *
  subst hx3
  rw [HNF.out] at hmid hput HE4
  have hp : MidIs w7 gf 89 (A ++ [.int .i64 f.st, .int .i64 1000, .int .i64 d.first, v0]) ([.int .i64 1000, .string ⟨#[]⟩, .bool false, .bool false, .int .i64 0, .int .i64 0, .bool false] ++ C) (n * 15 + 4) [.int .i64 1000, .string ⟨#[]⟩, .bool false, .bool false] := MidIs.part (p := [.int .i64 f.st, .int .i64 1000, .int .i64 d.first, v0]) (m := [.int .i64 1000, .string ⟨#[]⟩, .bool false, .bool false]) (q := [.int .i64 1000, .string ⟨#[]⟩, .bool false, .bool false, .int .i64 0, .int .i64 0, .bool false]) hmid
  have HM := hide hp; have HP := hide hput
  have hoff := hmid.off
  have hx := RowIs.cell (j := 10) hrow rfl
  have hm7 := HL7.out.m
  have HLEN3 := hide (cn_len HOK3.out)
  clear hmid hp hput hrow hw3 hl3 hn HNF f0 f1
  go_wp2_with fail
  refine (implFlowSome lo g D3 L bz f.st n gf cap _ hm7 HLEN3.out.1 HLEN3.out.2 HAT3.out hx).mono ?_; rintro x w8 ⟨rfl, hb8⟩
  replace HM := hide (HM.out.new hb8)
  have HT := hide (TurnB.new (bs := [gf]) hb8)
  clear hb8 hm7 hx r2
  go_wp2_with (refine wpList_load_mid (by rfl) 85 _ (by rfl) gf (n * 15 + 4) (by rfl) [.int .i64 1000, .string ⟨#[]⟩, .bool false, .bool false] _ (fun j u hu => HM.out.cell hu) Tryz.underlying85 rfl (by kernel_rfl) ?_)
  refine (implClosed0 1000 ⟨#[]⟩ false false _ (by decide) (by decide)).mono ?_; rw [if_pos (show okB 1000 ⟨#[]⟩ false = true by decide)]; rintro x w9 ⟨rfl, hb9⟩
  replace HM := hide (HM.out.new hb9)
  replace HT := hide (HT.out.trans (TurnB.new hb9))
  clear hb9
  go_wp2_with (refine wpList_store_mid (by rfl) 85 _ _ (by rfl) gf (n * 15 + 4) [.int .i64 1000, .string ⟨#[]⟩, .bool true, .bool false] (by rfl) (by rfl) 89 _ _ _ HM.out (by kernel_rfl) rfl (by intro u hu; simp at hu; rcases hu with rfl | rfl | rfl | rfl <;> rfl) ?_)
  intro w10 hm10 ht10
  have hmf := MidIs.whole (p := [.int .i64 f.st, .int .i64 1000, .int .i64 d.first, v0]) (m := [.int .i64 1000, .string ⟨#[]⟩, .bool true, .bool false]) (q := [.int .i64 1000, .string ⟨#[]⟩, .bool false, .bool false, .int .i64 0, .int .i64 0, .bool false]) hm10 hoff
  have HF := hide (HL7.out.step (HP.out w10 (endUp ⟨f.st, 1000, d.first, l, ⟨⟨1000, ⟨#[]⟩, false, false⟩, ⟨1000, ⟨#[]⟩, false, false⟩, 0, 0⟩, false⟩) rfl (Nat.zero_le _) (Nat.zero_le _) hmf (HT.out.trans ht10)))
  clear hmf hm10 ht10 HM HT HP HL7
  go_wp2_with fail
  first | go_end0 | refine bodyPost_ret (results_none rfl _ _ _) rfl ?_
  rw [HE4.out]
  refine ⟨rfl, bz, ?_⟩
  (try rw [List.append_nil]); exact HF.out
end Go.Proofs.YtllaeakeaabiaaaGreat
