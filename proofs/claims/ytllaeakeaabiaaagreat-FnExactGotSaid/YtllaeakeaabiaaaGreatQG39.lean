/- Several small texts of one level, one behind the other. -/
import Derived.Test.YtllaeakeaabiaaaGreatQG37
import Derived.Test.YtllaeakeaabiaaaGreatQG38
import Derived.Test.YtllaeakeaabiaaaGreatQG30
import Derived.Test.YtllaeakeaabiaaaGreatQG34
import Derived.Test.YtllaeakeaabiaaaGreatQG31
import Derived.Test.YtllaeakeaabiaaaGreatQBlocks6
/- Chapter 17's model as it is called: flushed. -/
namespace Go.Proofs.YtllaeakeaabiaaaGreat
open Go.RowKit
set_option maxRecDepth 100000
set_option linter.unusedSimpArgs false
set_option linter.unusedVariables false
set_option maxHeartbeats 8000000 in
theorem specFlushed (d : CnD) (ve vi vo vf : Value)  (w : World) (hv : CnRd w d ve vi vo vf) :
    Calls Tryz.prog 17 #[cnv d ve vi vo vf] w fun x w' => ∃ v vfr, x = .returned (.tuple #[v, vfr]) ∧ FaceF w.heap.size ((flushD d).1, (flushD d).2) v vfr w' ∧ Below w.heap.size w w' := by
  have HV := hide hv
  obtain ⟨ae, pe, rfl, _, _⟩ := hv.e.form
  obtain ⟨ai, pi, rfl, _, _⟩ := hv.i.form
  obtain ⟨ao, po, rfl, _, _⟩ := hv.o.form
  obtain ⟨af, pf, rfl, _, _⟩ := hv.f.form
  clear hv
  have hbA : Below w.heap.size w (w.alloc (.cells #[.int .i64 d.reg.lim, .int .i64 d.reg.top, .slice ae d.reg.es.length pe, .int .i64 d.inr, .slice ai d.inT.length pi, .int .i64 d.outr, .slice ao d.outT.length po, .int .i64 d.get, .int .i64 d.give, .int .i64 d.first, .slice af d.flows.length pf, .bool d.away, .bool d.dead] 43)) := (Below.refl _ _).alloc (Nat.le_refl _) _
  have RA := rowIs_new w 43 [.int .i64 d.reg.lim, .int .i64 d.reg.top, .slice ae d.reg.es.length pe, .int .i64 d.inr, .slice ai d.inT.length pi, .int .i64 d.outr, .slice ao d.outT.length po, .int .i64 d.get, .int .i64 d.give, .int .i64 d.first, .slice af d.flows.length pf, .bool d.away, .bool d.dead]
  generalize hA : w.alloc (.cells #[.int .i64 d.reg.lim, .int .i64 d.reg.top, .slice ae d.reg.es.length pe, .int .i64 d.inr, .slice ai d.inT.length pi, .int .i64 d.outr, .slice ao d.outT.length po, .int .i64 d.get, .int .i64 d.give, .int .i64 d.first, .slice af d.flows.length pf, .bool d.away, .bool d.dead] 43) = WA at *
  have hsA : WA.heap.size = w.heap.size + 1 := by rw [← hA]; simp
  have hbZ : Below WA.heap.size WA (WA.alloc (.cells #[.int .i64 0, .int .i64 0, .slice none 0 0, .int .i64 0, .slice none 0 0, .int .i64 0, .slice none 0 0, .int .i64 0, .int .i64 0, .int .i64 0, .slice none 0 0, .bool false, .bool false] 43)) := (Below.refl _ _).alloc (Nat.le_refl _) _
  have RZ := rowIs_new WA 43 [.int .i64 0, .int .i64 0, .slice none 0 0, .int .i64 0, .slice none 0 0, .int .i64 0, .slice none 0 0, .int .i64 0, .int .i64 0, .int .i64 0, .slice none 0 0, .bool false, .bool false]
  generalize hZ : WA.alloc (.cells #[.int .i64 0, .int .i64 0, .slice none 0 0, .int .i64 0, .slice none 0 0, .int .i64 0, .slice none 0 0, .int .i64 0, .int .i64 0, .int .i64 0, .slice none 0 0, .bool false, .bool false] 43) = WZ at *
  replace RA := RA.new hbZ
  rw [hsA] at RZ
  have HB := hide (bchain hbA hbZ)
  go_enter Tryz.func17, Tryz.ntmps17
  go_upto_region 1 with fail
  have HSZ : Hid (WZ.heap.size = w.heap.size + 2) := by show _ = _; rw [← hZ]; simp; omega
  clear hA hZ hsA hbA hbZ WA
  go_wp2_with (refine wpList_load_row (by rfl) 43 _ (by rfl) w.heap.size (by rfl) [.int .i64 d.reg.lim, .int .i64 d.reg.top, .slice ae d.reg.es.length pe, .int .i64 d.inr, .slice ai d.inT.length pi, .int .i64 d.outr, .slice ao d.outT.length po, .int .i64 d.get, .int .i64 d.give, .int .i64 d.first, .slice af d.flows.length pf, .bool d.away, .bool d.dead] _ 43 RA Tryz.underlying43 rfl (by kernel_rfl) ?_)
  refine (specConnOk d _ _ _ _ _ (HV.out.new HB.out)).mono ?_; rintro e w1 ⟨rfl, hb1⟩
  replace RA := RA.new hb1; replace RZ := RZ.new hb1
  have HW1 : Hid (w.heap.size + 2 ≤ w1.heap.size) := by show _ ≤ _; have := hb1.size; have := HSZ.out; omega
  replace HB := hide (bchain HB.out hb1)
  clear hb1
  cases hok : okCn d
  · have HG : Hid (flushD d = (zCn, [])) := by show _ = _; unfold flushD; rw [if_pos hok]
    have hbE : Below w1.heap.size w1 (w1.alloc (.cells #[] 48)) := (Below.refl _ _).alloc (Nat.le_refl _) _
    have HOE : Hid ((w1.alloc (.cells #[] 48)).ownsRow w.heap.size 48 4 (.slice (some ⟨w1.heap.size, 0, none⟩) 0 0) 0 (fr [])) := owns_base (owns_lit w1 48 4 0 #[] rfl (by omega)) (fun q hq => by simp [Value.ownBlock] at hq; have := HW1.out; omega)
    have RZE := RZ.new hbE
    have hB2 := hide (below_setRow (bchain HB.out hbE) (show w.heap.size ≤ w.heap.size + 1 by omega) #[.int .i64 0, .int .i64 0, .slice none 0 0, .int .i64 0, .slice none 0 0, .int .i64 0, .slice none 0 0, .int .i64 0, .int .i64 0, .int .i64 0, .slice none 0 0, .bool false, .bool false])
    have RZ2 := hide (rowIs_setRow (cs' := [.int .i64 0, .int .i64 0, .slice none 0 0, .int .i64 0, .slice none 0 0, .int .i64 0, .slice none 0 0, .int .i64 0, .int .i64 0, .int .i64 0, .slice none 0 0, .bool false, .bool false]) RZE)
    have HOE2 := hide (owns_kept (w' := (w1.alloc (.cells #[] 48)).setRow (w.heap.size + 1) #[.int .i64 0, .int .i64 0, .slice none 0 0, .int .i64 0, .slice none 0 0, .int .i64 0, .slice none 0 0, .int .i64 0, .int .i64 0, .int .i64 0, .slice none 0 0, .bool false, .bool false]) HOE.out (fun k hk _ => setRow_other _ _ _ _ (by simp [Value.ownBlock] at hk; have := HW1.out; omega)))
    go_wp2_with (refine wpList_store_row (by rfl) 43 _ _ (by rfl) (w.heap.size + 1) [.int .i64 0, .int .i64 0, .slice none 0 0, .int .i64 0, .slice none 0 0, .int .i64 0, .slice none 0 0, .int .i64 0, .int .i64 0, .int .i64 0, .slice none 0 0, .bool false, .bool false] (by rfl) (by rfl) 43 [.int .i64 0, .int .i64 0, .slice none 0 0, .int .i64 0, .slice none 0 0, .int .i64 0, .slice none 0 0, .int .i64 0, .int .i64 0, .int .i64 0, .slice none 0 0, .bool false, .bool false] RZE (by kernel_rfl) rfl (by intro u hu; simp at hu; rcases hu with rfl | rfl | rfl | rfl | rfl | rfl | rfl | rfl | rfl | rfl | rfl | rfl | rfl <;> rfl) ?_)
    generalize (w1.alloc (.cells #[] 48)).setRow (w.heap.size + 1) #[.int .i64 0, .int .i64 0, .slice none 0 0, .int .i64 0, .slice none 0 0, .int .i64 0, .slice none 0 0, .int .i64 0, .int .i64 0, .int .i64 0, .slice none 0 0, .bool false, .bool false] = V at *
    have z0 := RowIs.cell (j := 0) RZ2.out rfl
    have z1 := RowIs.cell (j := 1) RZ2.out rfl
    have z2 := RowIs.cell (j := 2) RZ2.out rfl
    have z3 := RowIs.cell (j := 3) RZ2.out rfl
    have z4 := RowIs.cell (j := 4) RZ2.out rfl
    have z5 := RowIs.cell (j := 5) RZ2.out rfl
    have z6 := RowIs.cell (j := 6) RZ2.out rfl
    have z7 := RowIs.cell (j := 7) RZ2.out rfl
    have z8 := RowIs.cell (j := 8) RZ2.out rfl
    have z9 := RowIs.cell (j := 9) RZ2.out rfl
    have z10 := RowIs.cell (j := 10) RZ2.out rfl
    have z11 := RowIs.cell (j := 11) RZ2.out rfl
    have z12 := RowIs.cell (j := 12) RZ2.out rfl
    have zf := fun j => RowIs.frozen RZ2.out j
    refine bodyPost_ret (v := .tuple #[.agg #[.int .i64 0, .int .i64 0, .slice none 0 0, .int .i64 0, .slice none 0 0, .int .i64 0, .slice none 0 0, .int .i64 0, .int .i64 0, .int .i64 0, .slice none 0 0, .bool false, .bool false], .slice (some ⟨w1.heap.size, 0, none⟩) 0 0]) (by simp [results, Tryz.results17, go_sem, *]) rfl ?_
    rw [HG.out]
    exact ⟨_, _, rfl, ⟨_, _, _, _, [], rfl, zero_ow V, fun b hb => (by cases hb), HOE2.out, fun q hq hx => (by cases hx)⟩, hB2.out⟩
  have HG : Hid (flushD d = flushRaw d) := by show _ = _; unfold flushD; rw [if_neg (by rw [hok]; decide)]
  go_wp2_with (refine wpList_load_row (by rfl) 43 _ (by rfl) w.heap.size (by rfl) [.int .i64 d.reg.lim, .int .i64 d.reg.top, .slice ae d.reg.es.length pe, .int .i64 d.inr, .slice ai d.inT.length pi, .int .i64 d.outr, .slice ao d.outT.length po, .int .i64 d.get, .int .i64 d.give, .int .i64 d.first, .slice af d.flows.length pf, .bool d.away, .bool d.dead] _ 43 RA Tryz.underlying43 rfl (by kernel_rfl) ?_)
  refine (specCopy17 d _ _ _ _ _ (HV.out.new HB.out) hok).mono ?_; rintro e w2 ⟨vc, rfl, hnc, hb2⟩
  obtain ⟨ve2, vi2, vo2, vf2, bs, rfl, hcn, hlo⟩ := hnc
  obtain ⟨ae2, pe2, rfl, _, _⟩ := hcn.rd.e.form
  obtain ⟨ai2, pi2, rfl, _, _⟩ := hcn.rd.i.form
  obtain ⟨ao2, po2, rfl, _, _⟩ := hcn.rd.o.form
  obtain ⟨af2, pf2, rfl, _, _⟩ := hcn.rd.f.form
  dsimp only [cnv]
  have hz1 : w.heap.size + 2 ≤ w1.heap.size := by exact HW1.out
  have HZ1 := hide hz1
  have hz2 := hb2.size
  replace RZ := RZ.new hb2
  replace HB := hide (bchain HB.out hb2)
  have hbO : Below w2.heap.size w2 ((w2.alloc (.cells #[.int .i64 0, .int .i64 0, .slice none 0 0, .int .i64 0, .slice none 0 0, .int .i64 0, .slice none 0 0, .int .i64 0, .int .i64 0, .int .i64 0, .slice none 0 0, .bool false, .bool false] 43)).setRow w2.heap.size #[.int .i64 d.reg.lim, .int .i64 d.reg.top, .slice ae2 d.reg.es.length pe2, .int .i64 d.inr, .slice ai2 d.inT.length pi2, .int .i64 d.outr, .slice ao2 d.outT.length po2, .int .i64 d.get, .int .i64 d.give, .int .i64 d.first, .slice af2 d.flows.length pf2, .bool d.away, .bool d.dead]) := below_setRow ((Below.refl _ _).alloc (Nat.le_refl _) _) (Nat.le_refl _) #[.int .i64 d.reg.lim, .int .i64 d.reg.top, .slice ae2 d.reg.es.length pe2, .int .i64 d.inr, .slice ai2 d.inT.length pi2, .int .i64 d.outr, .slice ao2 d.outT.length po2, .int .i64 d.get, .int .i64 d.give, .int .i64 d.first, .slice af2 d.flows.length pf2, .bool d.away, .bool d.dead]
  have RN := rowIs_new w2 43 [.int .i64 0, .int .i64 0, .slice none 0 0, .int .i64 0, .slice none 0 0, .int .i64 0, .slice none 0 0, .int .i64 0, .int .i64 0, .int .i64 0, .slice none 0 0, .bool false, .bool false]
  have HCM : Hid (CnM ((w2.alloc (.cells #[.int .i64 0, .int .i64 0, .slice none 0 0, .int .i64 0, .slice none 0 0, .int .i64 0, .slice none 0 0, .int .i64 0, .int .i64 0, .int .i64 0, .slice none 0 0, .bool false, .bool false] 43)).setRow w2.heap.size #[.int .i64 d.reg.lim, .int .i64 d.reg.top, .slice ae2 d.reg.es.length pe2, .int .i64 d.inr, .slice ai2 d.inT.length pi2, .int .i64 d.outr, .slice ao2 d.outT.length po2, .int .i64 d.get, .int .i64 d.give, .int .i64 d.first, .slice af2 d.flows.length pf2, .bool d.away, .bool d.dead]) w2.heap.size d bs) := ⟨⟨_, _, _, _, rowIs_setRow (cs' := [.int .i64 d.reg.lim, .int .i64 d.reg.top, .slice ae2 d.reg.es.length pe2, .int .i64 d.inr, .slice ai2 d.inT.length pi2, .int .i64 d.outr, .slice ao2 d.outT.length po2, .int .i64 d.get, .int .i64 d.give, .int .i64 d.first, .slice af2 d.flows.length pf2, .bool d.away, .bool d.dead]) RN, hcn.new hbO⟩, fun hx => by have := hcn.lt _ hx; omega⟩
  have HLO := hide hlo
  have HRZ := hide (RZ.new hbO)
  replace HB := hide (bchain HB.out hbO)
  clear hb2 hcn hlo RA
  go_upto_region 4 with (refine wpList_store_row (by rfl) 43 _ _ (by rfl) w2.heap.size [.int .i64 d.reg.lim, .int .i64 d.reg.top, .slice ae2 d.reg.es.length pe2, .int .i64 d.inr, .slice ai2 d.inT.length pi2, .int .i64 d.outr, .slice ao2 d.outT.length po2, .int .i64 d.get, .int .i64 d.give, .int .i64 d.first, .slice af2 d.flows.length pf2, .bool d.away, .bool d.dead] (by rfl) (by rfl) 43 [.int .i64 0, .int .i64 0, .slice none 0 0, .int .i64 0, .slice none 0 0, .int .i64 0, .slice none 0 0, .int .i64 0, .int .i64 0, .int .i64 0, .slice none 0 0, .bool false, .bool false] RN (by kernel_rfl) rfl (by intro u hu; simp at hu; rcases hu with rfl | rfl | rfl | rfl | rfl | rfl | rfl | rfl | rfl | rfl | rfl | rfl | rfl <;> rfl) ?_)
  clear RN RZ hbO
  obtain ⟨gO, hgO⟩ : ∃ q, q = w2.heap.size := ⟨_, rfl⟩
  rw [← hgO] at HCM HRZ HB
  try rw [← hgO]
  have hgO1 : w.heap.size + 2 ≤ gO := by omega
  generalize (w2.alloc (.cells #[.int .i64 0, .int .i64 0, .slice none 0 0, .int .i64 0, .slice none 0 0, .int .i64 0, .slice none 0 0, .int .i64 0, .int .i64 0, .int .i64 0, .slice none 0 0, .bool false, .bool false] 43)).setRow gO #[.int .i64 d.reg.lim, .int .i64 d.reg.top, .slice ae2 d.reg.es.length pe2, .int .i64 d.inr, .slice ai2 d.inT.length pi2, .int .i64 d.outr, .slice ao2 d.outT.length po2, .int .i64 d.get, .int .i64 d.give, .int .i64 d.first, .slice af2 d.flows.length pf2, .bool d.away, .bool d.dead] = X at *
  clear hgO hz1 hz2
  go_wp2_with fail
  refine (flushM gO d bs _ HCM.out hok).mono ?_
  intro x w4 hst4
  have hst5 := hst4
  obtain ⟨vx, _, rfl, _⟩ := hst5
  obtain ⟨v4, bz, hveq, hc4, ho4, ht4, hn4, ha4⟩ := hst4
  obtain rfl := (Ending.returned.inj hveq).symm
  have HNB : Hid (∀ b ∈ gO :: bs, w.heap.size + 2 ≤ b) := fun b hb => by
    rcases List.mem_cons.1 hb with e | e
    · rw [e]; exact hgO1
    · have := HLO.out b e; have := HZ1.out; omega
  have hxs := HB.out.size
  have hxg := HCM.out.lt
  have HNZ : Hid (∀ b ∈ bz, w.heap.size + 2 ≤ b) := fun b hb => by
    rcases hn4 b hb with e | e
    · exact HNB.out b (by simp [e])
    · omega
  have HVQ : Hid (∀ q, v4.ownBlock = some q → w.heap.size + 2 ≤ q ∧ q ∉ bz) := fun q hq => ⟨by have := (ho4.lt q hq).1; omega, fun hx => ha4 q hq (by simp [hx])⟩
  replace HRZ := hide (HRZ.out.kept (ht4.block _ HRZ.out.lt (fun hx => by have := HNB.out _ hx; omega)))
  have HB4 : Hid (Below w.heap.size w w4) := ⟨ht4.os.trans HB.out.os, ht4.tape.trans HB.out.tape, ht4.output.trans HB.out.output, Nat.le_trans HB.out.size ht4.size, fun k hk => (ht4.block k (Nat.lt_of_lt_of_le hk HB.out.size) (fun hx => by have := HNB.out _ hx; omega)).trans (HB.out.block k hk)⟩
  have HO4 := hide (owns_base ho4 (fun q hq => by have := (HVQ.out q hq).1; omega : ∀ q, v4.ownBlock = some q → w.heap.size ≤ q))
  obtain ⟨ve4, vi4, vo4, vf4, hr4, _, hcn4⟩ := hc4.handed (lo := 0) (fun b hb => Nat.zero_le _)
  obtain ⟨R, hR⟩ : ∃ x, flushRaw d = x := ⟨_, rfl⟩
  rw [hR] at HO4 hr4 hcn4
  try rw [hR]
  have HG2 : Hid (flushD d = R) := by show _ = _; rw [HG.out, ← hR]
  obtain ⟨dd, ll⟩ := R
  dsimp only at HO4 hr4 hcn4
  try dsimp only
  obtain ⟨ae4, pe4, rfl, _, _⟩ := hcn4.rd.e.form
  obtain ⟨ai4, pi4, rfl, _, _⟩ := hcn4.rd.i.form
  obtain ⟨ao4, po4, rfl, _, _⟩ := hcn4.rd.o.form
  obtain ⟨af4, pf4, rfl, _, _⟩ := hcn4.rd.f.form
  obtain ⟨a9, p9, hv9, _, _⟩ := owns_form HO4.out
  subst hv9
  have HB5 := hide (below_setRow HB4.out (show w.heap.size ≤ w.heap.size + 1 by omega) #[.int .i64 dd.reg.lim, .int .i64 dd.reg.top, .slice ae4 dd.reg.es.length pe4, .int .i64 dd.inr, .slice ai4 dd.inT.length pi4, .int .i64 dd.outr, .slice ao4 dd.outT.length po4, .int .i64 dd.get, .int .i64 dd.give, .int .i64 dd.first, .slice af4 dd.flows.length pf4, .bool dd.away, .bool dd.dead])
  have HR5 := hide (rowIs_setRow (cs' := [.int .i64 dd.reg.lim, .int .i64 dd.reg.top, .slice ae4 dd.reg.es.length pe4, .int .i64 dd.inr, .slice ai4 dd.inT.length pi4, .int .i64 dd.outr, .slice ao4 dd.outT.length po4, .int .i64 dd.get, .int .i64 dd.give, .int .i64 dd.first, .slice af4 dd.flows.length pf4, .bool dd.away, .bool dd.dead]) HRZ.out)
  have HCN5 : Hid (CnOw (w4.setRow (w.heap.size + 1) #[.int .i64 dd.reg.lim, .int .i64 dd.reg.top, .slice ae4 dd.reg.es.length pe4, .int .i64 dd.inr, .slice ai4 dd.inT.length pi4, .int .i64 dd.outr, .slice ao4 dd.outT.length po4, .int .i64 dd.get, .int .i64 dd.give, .int .i64 dd.first, .slice af4 dd.flows.length pf4, .bool dd.away, .bool dd.dead]) bz dd (.slice ae4 dd.reg.es.length pe4) (.slice ai4 dd.inT.length pi4) (.slice ao4 dd.outT.length po4) (.slice af4 dd.flows.length pf4)) := hcn4.keep (by rw [setRow_size]; exact Nat.le_refl _) (fun b hb => setRow_other _ _ _ _ (by have := HNZ.out b hb; omega))
  have HO5 := hide (owns_kept (w' := w4.setRow (w.heap.size + 1) #[.int .i64 dd.reg.lim, .int .i64 dd.reg.top, .slice ae4 dd.reg.es.length pe4, .int .i64 dd.inr, .slice ai4 dd.inT.length pi4, .int .i64 dd.outr, .slice ao4 dd.outT.length po4, .int .i64 dd.get, .int .i64 dd.give, .int .i64 dd.first, .slice af4 dd.flows.length pf4, .bool dd.away, .bool dd.dead]) HO4.out (fun k hk _ => setRow_other _ _ _ _ (by have := (HVQ.out k hk).1; omega)))
  have HR4 := hide hr4
  clear hc4 ht4 hr4 hcn4 hR HCM HB HB4 ho4 hn4 ha4 HO4
  go_wp2_with (first | (refine wpList_load_row (by rfl) 43 _ (by rfl) gO (by rfl) [.int .i64 dd.reg.lim, .int .i64 dd.reg.top, .slice ae4 dd.reg.es.length pe4, .int .i64 dd.inr, .slice ai4 dd.inT.length pi4, .int .i64 dd.outr, .slice ao4 dd.outT.length po4, .int .i64 dd.get, .int .i64 dd.give, .int .i64 dd.first, .slice af4 dd.flows.length pf4, .bool dd.away, .bool dd.dead] _ 43 HR4.out Tryz.underlying43 rfl (by kernel_rfl) ?_) | (refine wpList_store_row (by rfl) 43 _ _ (by rfl) (w.heap.size + 1) [.int .i64 dd.reg.lim, .int .i64 dd.reg.top, .slice ae4 dd.reg.es.length pe4, .int .i64 dd.inr, .slice ai4 dd.inT.length pi4, .int .i64 dd.outr, .slice ao4 dd.outT.length po4, .int .i64 dd.get, .int .i64 dd.give, .int .i64 dd.first, .slice af4 dd.flows.length pf4, .bool dd.away, .bool dd.dead] (by rfl) (by rfl) 43 [.int .i64 0, .int .i64 0, .slice none 0 0, .int .i64 0, .slice none 0 0, .int .i64 0, .slice none 0 0, .int .i64 0, .int .i64 0, .int .i64 0, .slice none 0 0, .bool false, .bool false] HRZ.out (by kernel_rfl) rfl (by intro u hu; simp at hu; rcases hu with rfl | rfl | rfl | rfl | rfl | rfl | rfl | rfl | rfl | rfl | rfl | rfl | rfl <;> rfl) ?_))
  generalize w4.setRow (w.heap.size + 1) #[.int .i64 dd.reg.lim, .int .i64 dd.reg.top, .slice ae4 dd.reg.es.length pe4, .int .i64 dd.inr, .slice ai4 dd.inT.length pi4, .int .i64 dd.outr, .slice ao4 dd.outT.length po4, .int .i64 dd.get, .int .i64 dd.give, .int .i64 dd.first, .slice af4 dd.flows.length pf4, .bool dd.away, .bool dd.dead] = V at *
  have z0 := RowIs.cell (j := 0) HR5.out rfl
  have z1 := RowIs.cell (j := 1) HR5.out rfl
  have z2 := RowIs.cell (j := 2) HR5.out rfl
  have z3 := RowIs.cell (j := 3) HR5.out rfl
  have z4 := RowIs.cell (j := 4) HR5.out rfl
  have z5 := RowIs.cell (j := 5) HR5.out rfl
  have z6 := RowIs.cell (j := 6) HR5.out rfl
  have z7 := RowIs.cell (j := 7) HR5.out rfl
  have z8 := RowIs.cell (j := 8) HR5.out rfl
  have z9 := RowIs.cell (j := 9) HR5.out rfl
  have z10 := RowIs.cell (j := 10) HR5.out rfl
  have z11 := RowIs.cell (j := 11) HR5.out rfl
  have z12 := RowIs.cell (j := 12) HR5.out rfl
  have zf := fun j => RowIs.frozen HR5.out j
  refine bodyPost_ret (v := .tuple #[.agg #[.int .i64 dd.reg.lim, .int .i64 dd.reg.top, .slice ae4 dd.reg.es.length pe4, .int .i64 dd.inr, .slice ai4 dd.inT.length pi4, .int .i64 dd.outr, .slice ao4 dd.outT.length po4, .int .i64 dd.get, .int .i64 dd.give, .int .i64 dd.first, .slice af4 dd.flows.length pf4, .bool dd.away, .bool dd.dead], .slice a9 ll.length p9]) (by simp [results, Tryz.results17, go_sem, *]) rfl ?_
  rw [HG2.out]
  exact ⟨_, _, rfl, ⟨_, _, _, _, bz, rfl, HCN5.out, fun b hb => by have := HNZ.out b hb; omega, HO5.out, fun q hq => (HVQ.out q hq).2⟩, HB5.out⟩
end Go.Proofs.YtllaeakeaabiaaaGreat
/- The program's link: a frame with a head. -/
namespace Go.Proofs.YtllaeakeaabiaaaGreat
open Go.RowKit
set_option maxRecDepth 100000
set_option linter.unusedSimpArgs false
set_option linter.unusedVariables false
set_option maxHeartbeats 16000000 in
theorem implGotHead (lo g : Nat) (d : CnD) (L : List Fr) (bs : List Nat) (f : Fr) (w : World) (h : LkM w lo g d L bs) (hok : okCn d = true) (hL : L.length ≤ 1000000) (hb : f.b.size ≤ maxLen) (hfl : f.fl = 0 ∨ f.fl = 1) :
    Calls Tryz.prog 133 #[.pointer (some ⟨g, 0, none⟩), .agg #[.int .i64 f.k, .int .i64 f.fl, .int .i64 f.st, .string f.b]] w fun x w' => x = endO (headO d f.st f.fl f.b) ∧ ∃ bx, Lnk lo g w bs w' (headO d f.st f.fl f.b).1 (L ++ (headO d f.st f.fl f.b).2.1) bx := by
  have hq := h.far (Nat.le_refl _)
  obtain ⟨V, hV⟩ : ∃ V, w.alloc (.cells #[.int .i64 f.k, .int .i64 f.fl, .int .i64 f.st, .string f.b] 48) = V := ⟨_, rfl⟩; have hBV : Below w.heap.size w V := (by rw [← hV]; exact (Below.refl _ _).alloc (Nat.le_refl _) _); have hRV : RowIs V w.heap.size 48 [.int .i64 f.k, .int .i64 f.fl, .int .i64 f.st, .string f.b] := (by rw [← hV]; exact rowIs_new w 48 _)
  have hm := h.new hBV
  obtain ⟨l, r9, M, ok, hdec⟩ : ∃ l r9 M ok, decodedD d.inr d.inT f.b = (l, (r9, M), ok) := ⟨_, _, _, _, rfl⟩
  have HB := hide hBV; have HR := hide hRV; have HM := hide hm; have HQ := hide hq; have HOK := hide hok; have HBN := hide hb
  have HFL := hide hfl
  obtain ⟨E, hE⟩ : ∃ E, headO d f.st f.fl f.b = E := ⟨_, rfl⟩
  rw [hE]
  have HE := hide hE
  have HDEC := hide hdec
  obtain ⟨⟨ve, vi, vo, vf, tv, cb, hrow, hc, h3, h4, h5⟩, hl, hlo, hng, hbs⟩ := hm
  obtain ⟨ai, pi, rfl, _, _⟩ := hc.rd.i.form
  have HI := hide hc.rd.i
  have HROW := hide hrow
  have hlVb := HM.out.base
  clear hE hrow hc h3 h4 h5 hl hlo hng hbs hq hBV hRV hok h hb hfl
  go_enter Tryz.func133, Tryz.ntmps133
  go_upto_region 1 with fail
  try rw [hV]
  clear hV
  go_cut [4, 5, 6] (fun x p y wc => ∃ la lp ta tp gt, x = (Value.slice la l.length lp) ∧ p = .pointer (some ⟨gt, 0, none⟩) ∧ y = .bool ok ∧ Hid (Below V.heap.size V wc) ∧ Hid (wc.ownsRow V.heap.size 146 2 (Value.slice la l.length lp) l.length (fv l)) ∧ Hid (wc.ownsRow V.heap.size 146 2 (Value.slice ta M.length tp) M.length (fv M)) ∧ Hid (∀ q, (Value.slice la l.length lp).ownBlock = some q → (Value.slice ta M.length tp).ownBlock ≠ some q) ∧ Hid (RowIs wc gt 40 [.int .i64 r9, .slice ta M.length tp]))
  case first =>
    have hD : Below V.heap.size V (World.drew V) := (Below.refl _ _).drew
    have HBV := hide hD
    have HSS : Hid (RowIs (World.drew V) w.heap.size 48 [.int .i64 f.k, .int .i64 f.fl, .int .i64 f.st, .string f.b] ∧ RowIs (World.drew V) g 69 (lkcs d ve (.slice ai d.inT.length pi) vo vf tv)) := ⟨HR.out.new hD, HROW.out.new hD⟩
    clear hD
    refine wp_region_held_drew (S := fun u => RowIs u w.heap.size 48 [.int .i64 f.k, .int .i64 f.fl, .int .i64 f.st, .string f.b] ∧ RowIs u g 69 (lkcs d ve (.slice ai d.inT.length pi) vo vf tv)) (by kernel_rfl) HSS.out (fun hS => ?_)
    generalize World.drew V = v1 at *
    refine wpAnyH_take (i := 0) (v := ?_) rfl (by kernel_rfl) (by kernel_rfl) (by kernel_rfl) (fun _ _ _ h => h) (Or.inl ⟨by rfl, ?_⟩) hS ?_; rotate_left; focus (intro w hw; clear hw; go_simp; try with_reducible rfl)
    refine wpAnyH_take (i := 1) (v := ?_) rfl (by kernel_rfl) (by kernel_rfl) (by kernel_rfl) (fun _ _ _ h => h) (Or.inl ⟨by rfl, ?_⟩) hS ?_; rotate_left; focus (intro w hw; clear hw; go_simp; try with_reducible rfl)
    refine wpAnyH_take (i := 2) (v := ?_) rfl (by kernel_rfl) (by kernel_rfl) (by kernel_rfl) (fun _ _ _ h => h) (Or.inl ⟨by rfl, ?_⟩) hS ?_; rotate_left; focus (intro w hw; clear hw; go_simp; try with_reducible rfl)
    refine wpAnyH_take (i := 3) (v := ?_) rfl (by kernel_rfl) (by kernel_rfl) (by kernel_rfl) (fun _ _ _ h => h) (Or.inl ⟨by rfl, ?_⟩) hS ?_; rotate_left; focus (intro w hw; clear hw; go_simp; try with_reducible rfl)
    refine wpAnyH_take (i := 4) (v := .agg #[.int .i64 d.inr, .slice ai d.inT.length pi]) rfl (by kernel_rfl) (by kernel_rfl) (by kernel_rfl) (fun _ _ _ h => h) (Or.inl ⟨by kernel_rfl, ?ld⟩) hS ?_
    case ld =>
      intro uu hu
      have z3 := RowIs.cell (j := 3) hu.2 rfl
      have z4 := RowIs.cell (j := 4) hu.2 rfl
      clear hu
      go_simp
    refine wpAnyH_take (i := 5) (v := ?_) rfl (by kernel_rfl) (by kernel_rfl) (by kernel_rfl) (fun _ _ _ h => h) (Or.inl ⟨by rfl, ?_⟩) hS ?_; rotate_left; focus (intro w hw; clear hw; go_simp; try with_reducible rfl)
    refine wpAnyH_take (i := 6) (v := .string f.b) rfl (by kernel_rfl) (by kernel_rfl) (by kernel_rfl) (fun _ _ _ h => h) (Or.inl ⟨by kernel_rfl, ?ld⟩) hS ?_; case ld => (intro uu hu; have z2 := RowIs.cell (j := 3) hu.1 rfl; have z8 := hu.1.lt; clear hu; go_simp)
    refine wpAnyH_ready (rs := [7, 12]) (by kernel_rfl) (by simp) ?_
    refine AllReadyH.cons rfl (fun K hK => ?_) (AllReadyH.cons rfl (fun K hK => ?_) AllReadyH.nil)
    · go_simp
      refine (implDecoded d.inT d.inr _ f.b _ (rd_fv (HI.out.new HBV.out)) (rd_fine (HI.out.new HBV.out)) HBN.out).mono ?_; rw [hdec]; rintro x w2 ⟨lv, v', rfl, ho1, ho2, hne, hb2⟩
      obtain ⟨la, lp, rfl, _, _⟩ := owns_form ho1
      obtain ⟨ta, tp, rfl, _, _⟩ := owns_form ho2
      have HBW := hide (bchain HBV.out hb2)
      have HO1 := hide (owns_base (base' := V.heap.size) ho1 (fun q hq => Nat.le_trans HBV.out.size (owns_lt ho1 q hq).1))
      have HO2 := hide (owns_base (base' := V.heap.size) ho2 (fun q hq => Nat.le_trans HBV.out.size (owns_lt ho2 q hq).1))
      have HNE := hide hne
      have HS3 := hide (show RowIs w2 w.heap.size 48 [.int .i64 f.k, .int .i64 f.fl, .int .i64 f.st, .string f.b] ∧ RowIs w2 g 69 (lkcs d ve (.slice ai d.inT.length pi) vo vf tv) from ⟨HSS.out.1.new hb2, HSS.out.2.new hb2⟩)
      refine hK.out _ _ HS3.out (fun hS => ?_)
      clear hK K ho1 ho2 hne hb2
      try simp only [Act.put, List.getElem_toArray, List.getElem_cons_succ, List.getElem_cons_zero, List.setIfInBounds_toArray, List.set_cons_zero, List.set_cons_succ]
      refine wpAnyH_take (i := 8) (v := ?_) rfl (by kernel_rfl) (by kernel_rfl) (by kernel_rfl) (fun _ _ _ h => h) (Or.inl ⟨by rfl, ?_⟩) hS ?_; rotate_left; focus (intro w hw; clear hw; go_simp; try with_reducible rfl)
      refine wpAnyH_take (i := 9) (v := ?_) rfl (by kernel_rfl) (by kernel_rfl) (by kernel_rfl) (fun _ _ _ h => h) (Or.inl ⟨by rfl, ?_⟩) hS ?_; rotate_left; focus (intro w hw; clear hw; go_simp; try with_reducible rfl)
      refine wpAnyH_take (i := 10) (v := ?_) rfl (by kernel_rfl) (by kernel_rfl) (by kernel_rfl) (fun _ _ _ h => h) (Or.inl ⟨by rfl, ?_⟩) hS ?_; rotate_left; focus (intro w hw; clear hw; go_simp; try with_reducible rfl)
      refine wpAnyH_take (i := 11) (v := ?_) rfl (by kernel_rfl) (by kernel_rfl) (by kernel_rfl) (fun _ _ _ h => h) (Or.inl ⟨by rfl, ?_⟩) hS ?_; rotate_left; focus (intro w hw; clear hw; go_simp; try with_reducible rfl)
      refine wpAnyH_ready (rs := [12]) (by kernel_rfl) (by simp) ?_; refine AllReadyH.cons rfl (fun K hK => ?_) AllReadyH.nil; go_simp
      have hbZ : Below w2.heap.size w2 (w2.alloc (.cells #[.int .i64 0, .slice none 0 0] 40)) := (Below.refl _ _).alloc (Nat.le_refl _) _
      refine hK.out _ _ ⟨HS3.out.1.new hbZ, HS3.out.2.new hbZ⟩ (fun hS => ?_)
      clear hK K hbZ
      try simp only [Act.put, List.getElem_toArray, List.getElem_cons_succ, List.getElem_cons_zero, List.setIfInBounds_toArray, List.set_cons_zero, List.set_cons_succ]
      refine wpAnyH_take (i := 13) (v := ?_) rfl (by kernel_rfl) (by kernel_rfl) (by kernel_rfl) (fun _ _ _ h => h) (Or.inl ⟨by rfl, ?_⟩) hS ?_; rotate_left; focus (intro w hw; clear hw; go_simp; try with_reducible rfl)
      refine wpAnyH_ready (rs := [14]) (by kernel_rfl) (by simp) ?_; refine AllReadyH.cons rfl (fun K hK => ?_) AllReadyH.nil; go_simp
      have hbT : Below w2.heap.size w2 (w2.alloc (.cells #[.int .i64 r9, .slice ta M.length tp] 40)) := (Below.refl _ _).alloc (Nat.le_refl _) _
      refine hK.out _ _ ⟨HS3.out.1.new hbT, HS3.out.2.new hbT⟩ (fun hS => ?_)
      clear hK K
      try simp only [Act.put, List.getElem_toArray, List.getElem_cons_succ, List.getElem_cons_zero, List.setIfInBounds_toArray, List.set_cons_zero, List.set_cons_succ]
      refine wpAnyH_take (i := 15) (v := ?_) rfl (by kernel_rfl) (by kernel_rfl) (by kernel_rfl) (fun _ _ _ h => h) (Or.inl ⟨by rfl, ?_⟩) hS ?_; rotate_left; focus (intro w hw; clear hw; go_simp; try with_reducible rfl)
      refine wpAnyH_done (by kernel_rfl) ?_ _
      go_wp2_with fail
      go_meet
      exact ⟨la, lp, ta, tp, _, rfl, rfl, rfl, hide (bchain HBW.out hbT), hide (owns_new HO1.out hbT), hide (owns_new HO2.out hbT), HNE, hide (rowIs_new w2 40 [.int .i64 r9, .slice ta M.length tp])⟩
    · go_simp
      have hbZ : Below v1.heap.size v1 (v1.alloc (.cells #[.int .i64 0, .slice none 0 0] 40)) := (Below.refl _ _).alloc (Nat.le_refl _) _
      have HRT := hide (rowIs_new v1 40 [.int .i64 0, .slice none 0 0])
      have HSZ := hide (show RowIs (v1.alloc (.cells #[.int .i64 0, .slice none 0 0] 40)) w.heap.size 48 [.int .i64 f.k, .int .i64 f.fl, .int .i64 f.st, .string f.b] ∧ RowIs (v1.alloc (.cells #[.int .i64 0, .slice none 0 0] 40)) g 69 (lkcs d ve (.slice ai d.inT.length pi) vo vf tv) from ⟨HSS.out.1.new hbZ, HSS.out.2.new hbZ⟩)
      refine hK.out _ _ HSZ.out (fun hS => ?_)
      have HBZ := hide (bchain HBV.out hbZ)
      have hgt : v1.heap.size < (v1.alloc (.cells #[.int .i64 0, .slice none 0 0] 40)).heap.size := by simp
      have hVv := HBV.out.size
      have HGN := hide (show w.heap.size ≠ v1.heap.size ∧ g ≠ v1.heap.size from ⟨by have := HSS.out.1.lt; omega, by have := HSS.out.2.lt; omega⟩)
      clear hK K hbZ
      try simp only [Act.put, List.getElem_toArray, List.getElem_cons_succ, List.getElem_cons_zero, List.setIfInBounds_toArray, List.set_cons_zero, List.set_cons_succ]
      generalize v1.alloc (.cells #[.int .i64 0, .slice none 0 0] 40) = v2 at *
      generalize v1.heap.size = gt at *
      refine wpAnyH_ready (rs := [7]) (by kernel_rfl) (by simp) ?_; refine AllReadyH.cons rfl (fun K hK => ?_) AllReadyH.nil; go_simp
      refine (implDecoded d.inT d.inr _ f.b _ (rd_fv (HI.out.new HBZ.out)) (rd_fine (HI.out.new HBZ.out)) HBN.out).mono ?_; rw [hdec]; rintro x w2 ⟨lv, v', rfl, ho1, ho2, hne, hb2⟩
      obtain ⟨la, lp, rfl, _, _⟩ := owns_form ho1
      obtain ⟨ta, tp, rfl, _, _⟩ := owns_form ho2
      have HBW := hide (bchain HBZ.out hb2)
      have hz2 := HBZ.out.size
      have HO1 := hide (owns_base (base' := V.heap.size) ho1 (fun q hq => Nat.le_trans hz2 (owns_lt ho1 q hq).1))
      have HO2 := hide (owns_base (base' := V.heap.size) ho2 (fun q hq => Nat.le_trans hz2 (owns_lt ho2 q hq).1))
      have HN1 : Hid ((Value.slice la l.length lp).ownBlock ≠ some gt) := fun e => by have := (owns_lt ho1 gt e).1; omega
      have HN2 : Hid ((Value.slice ta M.length tp).ownBlock ≠ some gt) := fun e => by have := (owns_lt ho2 gt e).1; omega
      have HNE := hide hne
      have HS3 := hide (show RowIs w2 w.heap.size 48 [.int .i64 f.k, .int .i64 f.fl, .int .i64 f.st, .string f.b] ∧ RowIs w2 g 69 (lkcs d ve (.slice ai d.inT.length pi) vo vf tv) from ⟨HSZ.out.1.new hb2, HSZ.out.2.new hb2⟩)
      have hrt := HRT.out.new hb2
      have z0 := RowIs.cell (j := 0) hrt rfl
      have z1 := RowIs.cell (j := 1) hrt rfl
      have zf := fun j => RowIs.frozen hrt j
      have zl := hrt.lt
      have HRT2 := hide hrt
      refine hK.out _ _ HS3.out (fun hS => ?_)
      clear hK K ho1 ho2 hne hb2 hrt HRT HSZ HBZ
      try simp only [Act.put, List.getElem_toArray, List.getElem_cons_succ, List.getElem_cons_zero, List.setIfInBounds_toArray, List.set_cons_zero, List.set_cons_succ]
      refine wpAnyH_take (i := 8) (v := ?_) rfl (by kernel_rfl) (by kernel_rfl) (by kernel_rfl) (fun _ _ _ h => h) (Or.inl ⟨by rfl, ?_⟩) hS ?_; rotate_left; focus (intro w hw; clear hw; go_simp; try with_reducible rfl)
      refine wpAnyH_take (i := 9) (v := ?_) rfl (by kernel_rfl) (by kernel_rfl) (by kernel_rfl) (fun _ _ _ h => h) (Or.inl ⟨by rfl, ?_⟩) hS ?_; rotate_left; focus (intro w hw; clear hw; go_simp; try with_reducible rfl)
      refine wpAnyH_take (i := 10) (v := ?_) rfl (by kernel_rfl) (by kernel_rfl) (by kernel_rfl) (fun _ _ _ h => h) (Or.inl ⟨by rfl, ?_⟩) hS ?_; rotate_left; focus (intro w hw; clear hw; go_simp; try with_reducible rfl)
      refine wpAnyH_take (i := 11) (v := ?_) rfl (by kernel_rfl) (by kernel_rfl) (by kernel_rfl) (fun _ _ _ h => h) (Or.inl ⟨by rfl, ?_⟩) hS ?_; rotate_left; focus (intro w hw; clear hw; go_simp; try with_reducible rfl)
      refine wpAnyH_take (i := 13) (v := ?_) rfl (by kernel_rfl) (by kernel_rfl) (by kernel_rfl) (fun _ _ _ h => h) (Or.inl ⟨by rfl, ?_⟩) hS ?_; rotate_left; focus (intro w hw; clear hw; go_simp; try with_reducible rfl)
      refine wpAnyH_ready (rs := [14]) (by kernel_rfl) (by simp) ?_; refine AllReadyH.cons rfl (fun K hK => ?_) AllReadyH.nil; go_simp
      have HRT3 := hide ((HRT2.out.set 0 (.int .i64 r9)).set 1 (.slice ta M.length tp))
      have HBW3 := hide ((HBW.out.setCell (p := ⟨gt, 0, none⟩) hVv (.int .i64 r9)).setCell (p := ⟨gt, 1, none⟩) hVv (.slice ta M.length tp))
      have HO13 := hide (owns_apart (owns_apart HO1.out ⟨gt, 0, none⟩ (.int .i64 r9) HN1.out) ⟨gt, 1, none⟩ (.slice ta M.length tp) HN1.out)
      have HO23 := hide (owns_apart (owns_apart HO2.out ⟨gt, 0, none⟩ (.int .i64 r9) HN2.out) ⟨gt, 1, none⟩ (.slice ta M.length tp) HN2.out)
      refine hK.out _ _ ⟨(HS3.out.1.far ⟨gt, 0, none⟩ _ (fun e => HGN.out.1 e.symm)).far ⟨gt, 1, none⟩ _ (fun e => HGN.out.1 e.symm), (HS3.out.2.far ⟨gt, 0, none⟩ _ (fun e => HGN.out.2 e.symm)).far ⟨gt, 1, none⟩ _ (fun e => HGN.out.2 e.symm)⟩ (fun hS => ?_)
      clear hK K z0 z1 zf zl
      try simp only [Act.put, List.getElem_toArray, List.getElem_cons_succ, List.getElem_cons_zero, List.setIfInBounds_toArray, List.set_cons_zero, List.set_cons_succ]
      refine wpAnyH_take (i := 15) (v := ?_) rfl (by kernel_rfl) (by kernel_rfl) (by kernel_rfl) (fun _ _ _ h => h) (Or.inl ⟨by rfl, ?_⟩) hS ?_; rotate_left; focus (intro w hw; clear hw; go_simp; try with_reducible rfl)
      refine wpAnyH_done (by kernel_rfl) ?_ _
      go_wp2_with fail
      go_meet
      exact ⟨la, lp, ta, tp, gt, rfl, rfl, rfl, HBW3, HO13, HO23, HNE, HRT3⟩
  rename_i wc
  obtain ⟨la, lp, ta, tp, gt, rfl, rfl, rfl, HBW, HO1, HO2, HNE, HRT⟩ := hcut
  clear HROW HI
  replace HR := hide (HR.out.new HBW.out)
  cases ok
  · have hE0 : E = (d, [], some (0, 4)) := by rw [← HE.out]; unfold headO; rw [HDEC.out]
    subst hE0
    have HF := hide (Lnk.after HB.out ((Lnk.start HM.out).new HBW.out))
    go_wp2_with fail
    refine ⟨rfl, rfl, bs, ?_⟩
    (try rw [List.append_nil]); exact HF.out
  obtain ⟨hfs, hT⟩ := dec_fine HDEC.out
  have hTa : M.all okF = true := by unfold okT at hT; simp only [Bool.and_eq_true] at hT; exact hT.2.1
  have hla : l.all okF = true := by unfold okFs at hfs; simp only [Bool.and_eq_true] at hfs; exact hfs.1
  obtain ⟨D1, hD1⟩ : ∃ D1 : CnD, ({ d with inr := r9, inT := M } : CnD) = D1 := ⟨_, rfl⟩
  have hok1 : okCn D1 = true := by
    rw [← hD1]
    have h' := okCn_iff.1 HOK.out
    exact okCn_iff.2 ⟨h'.1, hT, h'.2.2⟩
  have hE1 : E = if stateD D1.reg f.st = 4 then (D1, [], none) else if stateD D1.reg f.st ≠ 0 then (D1, [], some (f.st, 3)) else openO D1 f.st f.fl l := by
    rw [← HE.out, ← hD1]; unfold headO; rw [HDEC.out]
  obtain ⟨tb, hov, hls⟩ := HM.out.setIn HBW.out r9 M (.slice ta M.length tp) (fv_ow HO2.out (fun x hx => fine_of (List.all_eq_true.1 hTa x hx)))
  obtain ⟨_, htb⟩ := owr_fv hov
  rw [hD1] at hls
  have hmc := HM.out.new HBW.out
  obtain ⟨⟨ve, vi, vo, vf, tv, cb, hrow, hc, h3, h4, h5⟩, hl, hlo, hng, hbs⟩ := hmc
  have y3 := RowIs.cell (j := 3) hrow rfl
  have y4 := RowIs.cell (j := 4) hrow rfl
  have yf := fun j => RowIs.frozen hrow j
  have yl := hrow.lt
  have t0 := RowIs.cell (j := 0) HRT.out rfl
  have t1 := RowIs.cell (j := 1) HRT.out rfl
  have HLS := hide hls; have HE1 := hide hE1; have HOK1 := hide hok1; have HFS := hide hfs
  have hlf : (wc.setCell ⟨g, 3, none⟩ (.int .i64 r9)).setCell ⟨g, 4, none⟩ (.slice ta M.length tp) = (wc.setCell ⟨g, 3, none⟩ (.int .i64 r9)).setCell ⟨g, 4, none⟩ (.slice ta M.length tp) := rfl
  have hgn : g < V.heap.size := HM.out.glt
  have HO1W : Hid (World.ownsRow ((wc.setCell ⟨g, 3, none⟩ (.int .i64 r9)).setCell ⟨g, 4, none⟩ (.slice ta M.length tp)) V.heap.size 146 2 (Value.slice la l.length lp) l.length (fv l)) := owns_apart (owns_apart HO1.out ⟨g, 3, none⟩ (.int .i64 r9) (fun e => by have := (owns_lt HO1.out g e).1; omega)) ⟨g, 4, none⟩ (.slice ta M.length tp) (fun e => by have := (owns_lt HO1.out g e).1; omega)
  have HRW : Hid (RowIs ((wc.setCell ⟨g, 3, none⟩ (.int .i64 r9)).setCell ⟨g, 4, none⟩ (.slice ta M.length tp)) w.heap.size 48 [.int .i64 f.k, .int .i64 f.fl, .int .i64 f.st, .string f.b]) := (HR.out.far ⟨g, 3, none⟩ (.int .i64 r9) (fun e => HQ.out (by simp [← e]))).far ⟨g, 4, none⟩ (.slice ta M.length tp) (fun e => HQ.out (by simp [← e]))
  have HVB : Hid (∀ q, (Value.slice la l.length lp).ownBlock = some q → V.heap.size ≤ q ∧ q ∉ g :: (bs ++ tb)) := fun q hq => by
    have h1 := (owns_lt HO1.out q hq).1
    refine ⟨h1, fun hx => ?_⟩
    rcases List.mem_cons.1 hx with e | e
    · omega
    · rcases List.mem_append.1 e with e | e
      · have := HM.out.lt q (by simp [e]); omega
      · rw [htb] at e
        have h2 : (Value.slice ta M.length tp).ownBlock = some q := by cases hv : (Value.slice ta M.length tp).ownBlock <;> simp [hv] at e ⊢; exact e.symm
        exact HNE.out q hq h2
  clear hE1 hls hov hok1 hD1 hT hTa hfs hrow hc h3 h4 h5 hl hlo hng hbs HDEC HE HRT HR HO1 HO2 HNE hlf htb
  have HLA := hide hla
  clear hla
  go_upto_region 5 with fail
  generalize (wc.setCell ⟨g, 3, none⟩ (.int .i64 r9)).setCell ⟨g, 4, none⟩ (.slice ta M.length tp) = W at *
  clear y3 y4 yf yl t0 t1
  have hm1 := HLS.out.m
  have hreg1 := (okCn_iff.1 HOK1.out).1
  have r2 := RowIs.cell (j := 2) HRW.out rfl
  go_wp2_with fail
  obtain ⟨S, hS0⟩ : ∃ S, stateD D1.reg f.st = S := ⟨_, rfl⟩
  have HE2 := HE1.out
  rw [hS0] at HE2
  have HE3 := hide HE2
  have HS0 := hide hS0
  clear HE1 HE2 hS0
  refine (implState lo g D1 L (bs ++ tb) f.st _ hm1 hreg1).mono ?_; rw [HS0.out]; rintro x w3 ⟨rfl, hb3⟩
  replace HLS := hide (HLS.out.new hb3)
  replace HRW := hide (HRW.out.new hb3)
  replace HO1W := hide (owns_new HO1W.out hb3)
  clear hb3 hm1 r2 hreg1
  by_cases hs4 : S = 4
  · subst hs4
    have hE0 := HE3.out
    rw [if_pos rfl] at hE0
    subst hE0
    have HF := hide (Lnk.after HB.out HLS.out)
    go_wp2_with fail
    first | go_end0 | refine bodyPost_ret (results_none rfl _ _ _) rfl ?_
    refine ⟨rfl, bs ++ tb, ?_⟩
    (try rw [List.append_nil]); exact HF.out
  by_cases hs0 : S = 0
  rotate_left
  · have hE0 := HE3.out
    rw [if_neg hs4, if_pos hs0] at hE0
    subst hE0
    have hs4' : (S == 4) = false := by simpa using hs4
    have hs0' : (S == 0) = false := by simpa using hs0
    have HF := hide (Lnk.after HB.out HLS.out)
    have r2 := RowIs.cell (j := 2) HRW.out rfl
    clear hs4 hs0 HE3
    go_wp2_with fail
    refine ⟨rfl, rfl, bs ++ tb, ?_⟩
    (try rw [List.append_nil]); exact HF.out
  subst hs0
  have hE0 := HE3.out
  rw [if_neg (by decide), if_neg (by decide)] at hE0
  have hm3 := HLS.out.m
  have r0 := RowIs.cell (j := 0) HRW.out rfl
  have r1 := RowIs.cell (j := 1) HRW.out rfl
  have r2 := RowIs.cell (j := 2) HRW.out rfl
  have r3 := RowIs.cell (j := 3) HRW.out rfl
  have HE4 := hide hE0
  clear hE0 HE3 hs4
  go_wp2_with fail
  refine (implOpen lo g D1 L (bs ++ tb) f _ l _ _ hm3 HOK1.out hL (fv_owr (owns_base HO1W.out (fun _ _ => Nat.zero_le _)) (fun x hx => fine_of (List.all_eq_true.1 HLA.out x hx))) (opt_nodup _) (fun q hq => ?ap) HFS.out HFL.out).mono ?_
  case ap =>
    have h2 : (Value.slice la l.length lp).ownBlock = some q := by cases hv : (Value.slice la l.length lp).ownBlock <;> simp [hv] at hq ⊢; exact hq.symm
    exact ⟨(HVB.out q h2).2, by have := (HVB.out q h2).1; omega⟩
  rintro x w5 ⟨hx, by_, hl5⟩
  rw [← HE4.out] at hx hl5
  have HF := hide (Lnk.after HB.out (HLS.out.step3 (fun q hq => (HVB.out q (by cases hv : (Value.slice la l.length lp).ownBlock <;> simp [hv] at hq ⊢; exact hq.symm)).1) hl5))
  clear hl5 hm3 r0 r1 r2 r3 HLS HRW HO1W HVB HE4
  obtain ⟨c5, l5, q5⟩ := E
  cases q5 with
  | none =>
    simp only [endO] at hx
    subst hx
    go_wp2_with fail
    first | go_end0 | refine bodyPost_ret (results_none rfl _ _ _) rfl ?_
    exact ⟨rfl, _, HF.out⟩
  | some p =>
    obtain ⟨st5, cd5⟩ := p
    simp only [endO] at hx
    subst hx
    go_wp2_with fail
    exact ⟨rfl, rfl, _, HF.out⟩
end Go.Proofs.YtllaeakeaabiaaaGreat
