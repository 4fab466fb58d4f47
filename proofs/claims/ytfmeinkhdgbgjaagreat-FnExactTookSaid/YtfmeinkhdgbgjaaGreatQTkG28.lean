/- Several small texts of one level, one behind the other. -/
import Derived.Test.YtfmeinkhdgbgjaaGreatQTkG26
import Derived.Test.YtfmeinkhdgbgjaaGreatQTkG27
import Derived.Test.YtfmeinkhdgbgjaaGreatQTkG25
import Derived.Test.YtfmeinkhdgbgjaaGreatQTkSB
import Derived.Test.YtfmeinkhdgbgjaaGreatQTkG2
import Derived.Test.YtfmeinkhdgbgjaaGreatQTkG8
import Derived.Deep.Cut
import Derived.Test.YtfmeinkhdgbgjaaGreatQTkG4
import Derived.Test.YtfmeinkhdgbgjaaGreatQTkG16
import Derived.Test.YtfmeinkhdgbgjaaGreatQTkG3
import Derived.Test.YtfmeinkhdgbgjaaGreatQTkConnSpec4
import Derived.Test.YtfmeinkhdgbgjaaGreatQTkG5
import Derived.Handy
import Derived.Deep.RegionHeld3
import Derived.Deep.DeepCutAuto
import Derived.Deep.QuietTactic
import Derived.Test.YtfmeinkhdgbgjaaGreatQTkG24
import Derived.Test.YtfmeinkhdgbgjaaGreatQTkG19
import Derived.Test.YtfmeinkhdgbgjaaGreatQTkG20
import Derived.Test.YtfmeinkhdgbgjaaGreatQTkG21
import Derived.Test.YtfmeinkhdgbgjaaGreatQTkG18
/- Chapter 17's model as it is called: taken, replied. -/
namespace Go.Proofs.YtfmeinkhdgbgjaaGreat
open Go.RowKit
set_option maxRecDepth 100000
set_option linter.unusedSimpArgs false
set_option linter.unusedVariables false
theorem zero_ow (V : World) : CnOw V [] zCn (.slice none 0 0) (.slice none 0 0) (.slice none 0 0) (.slice none 0 0) :=
  ⟨⟨[], [], [], [], ⟨[], rfl, World.ownsRow_nil V 0 _ _, fun t ht => (by cases ht), rfl⟩, ⟨[], rfl, World.ownsRow_nil V 0 _ _, fun t ht => (by cases ht), rfl⟩, ⟨[], rfl, World.ownsRow_nil V 0 _ _, fun t ht => (by cases ht), rfl⟩, ⟨[], rfl, World.ownsRow_nil V 0 _ _, fun t ht => (by cases ht), rfl⟩, rfl⟩, by simp⟩
set_option maxHeartbeats 8000000 in
theorem specTook (d : CnD) (ve vi vo vf : Value) (id n : Int) (w : World) (hv : CnRd w d ve vi vo vf) :
    Calls Tryz.prog 26 #[cnv d ve vi vo vf, .int .i64 id, .int .i64 n] w fun x w' => ∃ v vfr, x = .returned (.tuple #[v, vfr, .string (tookD d id n).2.2]) ∧ FaceF w.heap.size ((tookD d id n).1, (tookD d id n).2.1) v vfr w' ∧ Below w.heap.size w w' := by
  have HV := hide hv
  obtain ⟨ae, pe, rfl, _, _⟩ := hv.e.form
  obtain ⟨ai, pi, rfl, _, _⟩ := hv.i.form
  obtain ⟨ao, po, rfl, _, _⟩ := hv.o.form
  obtain ⟨af, pf, rfl, _, _⟩ := hv.f.form
  clear hv
  have hbA : Below w.heap.size w (w.alloc (.cells #[.int .i64 d.reg.lim, .int .i64 d.reg.top, .slice ae d.reg.es.length pe, .int .i64 d.inr, .slice ai d.inT.length pi, .int .i64 d.outr, .slice ao d.outT.length po, .int .i64 d.get, .int .i64 d.give, .int .i64 d.first, .slice af d.flows.length pf, .bool d.away, .bool d.dead] 32)) := (Below.refl _ _).alloc (Nat.le_refl _) _
  have RA := rowIs_new w 32 [.int .i64 d.reg.lim, .int .i64 d.reg.top, .slice ae d.reg.es.length pe, .int .i64 d.inr, .slice ai d.inT.length pi, .int .i64 d.outr, .slice ao d.outT.length po, .int .i64 d.get, .int .i64 d.give, .int .i64 d.first, .slice af d.flows.length pf, .bool d.away, .bool d.dead]
  generalize hA : w.alloc (.cells #[.int .i64 d.reg.lim, .int .i64 d.reg.top, .slice ae d.reg.es.length pe, .int .i64 d.inr, .slice ai d.inT.length pi, .int .i64 d.outr, .slice ao d.outT.length po, .int .i64 d.get, .int .i64 d.give, .int .i64 d.first, .slice af d.flows.length pf, .bool d.away, .bool d.dead] 32) = WA at *
  have hsA : WA.heap.size = w.heap.size + 1 := by rw [← hA]; simp
  have hbZ : Below WA.heap.size WA (WA.alloc (.cells #[.int .i64 0, .int .i64 0, .slice none 0 0, .int .i64 0, .slice none 0 0, .int .i64 0, .slice none 0 0, .int .i64 0, .int .i64 0, .int .i64 0, .slice none 0 0, .bool false, .bool false] 32)) := (Below.refl _ _).alloc (Nat.le_refl _) _
  have RZ := rowIs_new WA 32 [.int .i64 0, .int .i64 0, .slice none 0 0, .int .i64 0, .slice none 0 0, .int .i64 0, .slice none 0 0, .int .i64 0, .int .i64 0, .int .i64 0, .slice none 0 0, .bool false, .bool false]
  generalize hZ : WA.alloc (.cells #[.int .i64 0, .int .i64 0, .slice none 0 0, .int .i64 0, .slice none 0 0, .int .i64 0, .slice none 0 0, .int .i64 0, .int .i64 0, .int .i64 0, .slice none 0 0, .bool false, .bool false] 32) = WZ at *
  replace RA := RA.new hbZ
  rw [hsA] at RZ
  have HB := hide (bchain hbA hbZ)
  go_enter Tryz.func26, Tryz.ntmps26
  go_upto_region 1 with fail
  have HSZ : Hid (WZ.heap.size = w.heap.size + 2) := by show _ = _; rw [← hZ]; simp; omega
  clear hA hZ hsA hbA hbZ WA
  go_wp2_with (refine wpList_load_row (by rfl) 32 _ (by rfl) w.heap.size (by rfl) [.int .i64 d.reg.lim, .int .i64 d.reg.top, .slice ae d.reg.es.length pe, .int .i64 d.inr, .slice ai d.inT.length pi, .int .i64 d.outr, .slice ao d.outT.length po, .int .i64 d.get, .int .i64 d.give, .int .i64 d.first, .slice af d.flows.length pf, .bool d.away, .bool d.dead] _ 32 RA Tryz.underlying32 rfl (by kernel_rfl) ?_)
  refine (specConnOk d _ _ _ _ _ (HV.out.new HB.out)).mono ?_; rintro e w1 ⟨rfl, hb1⟩
  replace RA := RA.new hb1; replace RZ := RZ.new hb1
  have HW1 : Hid (w.heap.size + 2 ≤ w1.heap.size) := by show _ ≤ _; have := hb1.size; have := HSZ.out; omega
  replace HB := hide (bchain HB.out hb1)
  clear hb1
  cases hok : okCn d
  · have HG : Hid (tookD d id n = (zCn, [], ⟨#[]⟩)) := by show _ = _; unfold tookD; rw [if_pos hok]
    have hbE : Below w1.heap.size w1 (w1.alloc (.cells #[] 34)) := (Below.refl _ _).alloc (Nat.le_refl _) _
    have HOE : Hid ((w1.alloc (.cells #[] 34)).ownsRow w.heap.size 34 4 (.slice (some ⟨w1.heap.size, 0, none⟩) 0 0) 0 (fr [])) := owns_base (owns_lit w1 34 4 0 #[] rfl (by omega)) (fun q hq => by simp [Value.ownBlock] at hq; have := HW1.out; omega)
    have RZE := RZ.new hbE
    have hB2 := hide (below_setRow (bchain HB.out hbE) (show w.heap.size ≤ w.heap.size + 1 by omega) #[.int .i64 0, .int .i64 0, .slice none 0 0, .int .i64 0, .slice none 0 0, .int .i64 0, .slice none 0 0, .int .i64 0, .int .i64 0, .int .i64 0, .slice none 0 0, .bool false, .bool false])
    have RZ2 := hide (rowIs_setRow (cs' := [.int .i64 0, .int .i64 0, .slice none 0 0, .int .i64 0, .slice none 0 0, .int .i64 0, .slice none 0 0, .int .i64 0, .int .i64 0, .int .i64 0, .slice none 0 0, .bool false, .bool false]) RZE)
    have HOE2 := hide (owns_kept (w' := (w1.alloc (.cells #[] 34)).setRow (w.heap.size + 1) #[.int .i64 0, .int .i64 0, .slice none 0 0, .int .i64 0, .slice none 0 0, .int .i64 0, .slice none 0 0, .int .i64 0, .int .i64 0, .int .i64 0, .slice none 0 0, .bool false, .bool false]) HOE.out (fun k hk _ => setRow_other _ _ _ _ (by simp [Value.ownBlock] at hk; have := HW1.out; omega)))
    go_wp2_with (refine wpList_store_row (by rfl) 32 _ _ (by rfl) (w.heap.size + 1) [.int .i64 0, .int .i64 0, .slice none 0 0, .int .i64 0, .slice none 0 0, .int .i64 0, .slice none 0 0, .int .i64 0, .int .i64 0, .int .i64 0, .slice none 0 0, .bool false, .bool false] (by rfl) (by rfl) 32 [.int .i64 0, .int .i64 0, .slice none 0 0, .int .i64 0, .slice none 0 0, .int .i64 0, .slice none 0 0, .int .i64 0, .int .i64 0, .int .i64 0, .slice none 0 0, .bool false, .bool false] RZE (by kernel_rfl) rfl (by intro u hu; simp at hu; rcases hu with rfl | rfl | rfl | rfl | rfl | rfl | rfl | rfl | rfl | rfl | rfl | rfl | rfl <;> rfl) ?_)
    generalize (w1.alloc (.cells #[] 34)).setRow (w.heap.size + 1) #[.int .i64 0, .int .i64 0, .slice none 0 0, .int .i64 0, .slice none 0 0, .int .i64 0, .slice none 0 0, .int .i64 0, .int .i64 0, .int .i64 0, .slice none 0 0, .bool false, .bool false] = V at *
    have z0 := RowIs.cell (j := 0) RZ2.out rfl
    have z1 := RowIs.cell (j := 1) RZ2.out rfl
    have z2 := RowIs.cell (j := 2) RZ2.out rfl
    have z3 := RowIs.cell (j := 3) RZ2.out rfl
    have z4 := RowIs.cell (j := 4) RZ2.out rfl
    have z5 := RowIs.cell (j := 5) RZ2.out rfl
    have z6 := RowIs.cell (j := 6) RZ2.out rfl
    have z7 := RowIs.cell (j := 7) RZ2.out rfl
    have z8 := RowIs.cell (j := 8) RZ2.out rfl
    have z9 := RowIs.cell (j := 9) RZ2.out rfl
    have z10 := RowIs.cell (j := 10) RZ2.out rfl
    have z11 := RowIs.cell (j := 11) RZ2.out rfl
    have z12 := RowIs.cell (j := 12) RZ2.out rfl
    have zf := fun j => RowIs.frozen RZ2.out j
    refine bodyPost_ret (v := .tuple #[.agg #[.int .i64 0, .int .i64 0, .slice none 0 0, .int .i64 0, .slice none 0 0, .int .i64 0, .slice none 0 0, .int .i64 0, .int .i64 0, .int .i64 0, .slice none 0 0, .bool false, .bool false], .slice (some ⟨w1.heap.size, 0, none⟩) 0 0, .string ⟨#[]⟩]) (by simp [results, Tryz.results26, go_sem, *]) rfl ?_
    rw [HG.out]
    exact ⟨_, _, rfl, ⟨_, _, _, _, [], rfl, zero_ow V, fun b hb => (by cases hb), HOE2.out, fun q hq hx => (by cases hx)⟩, hB2.out⟩
  have HG : Hid (tookD d id n = tookRaw d id n) := by show _ = _; unfold tookD; rw [if_neg (by rw [hok]; decide)]
  go_wp2_with (refine wpList_load_row (by rfl) 32 _ (by rfl) w.heap.size (by rfl) [.int .i64 d.reg.lim, .int .i64 d.reg.top, .slice ae d.reg.es.length pe, .int .i64 d.inr, .slice ai d.inT.length pi, .int .i64 d.outr, .slice ao d.outT.length po, .int .i64 d.get, .int .i64 d.give, .int .i64 d.first, .slice af d.flows.length pf, .bool d.away, .bool d.dead] _ 32 RA Tryz.underlying32 rfl (by kernel_rfl) ?_)
  refine (specCopy17 d _ _ _ _ _ (HV.out.new HB.out) hok).mono ?_; rintro e w2 ⟨vc, rfl, hnc, hb2⟩
  obtain ⟨ve2, vi2, vo2, vf2, bs, rfl, hcn, hlo⟩ := hnc
  obtain ⟨ae2, pe2, rfl, _, _⟩ := hcn.rd.e.form
  obtain ⟨ai2, pi2, rfl, _, _⟩ := hcn.rd.i.form
  obtain ⟨ao2, po2, rfl, _, _⟩ := hcn.rd.o.form
  obtain ⟨af2, pf2, rfl, _, _⟩ := hcn.rd.f.form
  dsimp only [cnv]
  have hz1 : w.heap.size + 2 ≤ w1.heap.size := by exact HW1.out
  have HZ1 := hide hz1
  have hz2 := hb2.size
  replace RZ := RZ.new hb2
  replace HB := hide (bchain HB.out hb2)
  have hbO : Below w2.heap.size w2 ((w2.alloc (.cells #[.int .i64 0, .int .i64 0, .slice none 0 0, .int .i64 0, .slice none 0 0, .int .i64 0, .slice none 0 0, .int .i64 0, .int .i64 0, .int .i64 0, .slice none 0 0, .bool false, .bool false] 32)).setRow w2.heap.size #[.int .i64 d.reg.lim, .int .i64 d.reg.top, .slice ae2 d.reg.es.length pe2, .int .i64 d.inr, .slice ai2 d.inT.length pi2, .int .i64 d.outr, .slice ao2 d.outT.length po2, .int .i64 d.get, .int .i64 d.give, .int .i64 d.first, .slice af2 d.flows.length pf2, .bool d.away, .bool d.dead]) := below_setRow ((Below.refl _ _).alloc (Nat.le_refl _) _) (Nat.le_refl _) #[.int .i64 d.reg.lim, .int .i64 d.reg.top, .slice ae2 d.reg.es.length pe2, .int .i64 d.inr, .slice ai2 d.inT.length pi2, .int .i64 d.outr, .slice ao2 d.outT.length po2, .int .i64 d.get, .int .i64 d.give, .int .i64 d.first, .slice af2 d.flows.length pf2, .bool d.away, .bool d.dead]
  have RN := rowIs_new w2 32 [.int .i64 0, .int .i64 0, .slice none 0 0, .int .i64 0, .slice none 0 0, .int .i64 0, .slice none 0 0, .int .i64 0, .int .i64 0, .int .i64 0, .slice none 0 0, .bool false, .bool false]
  have HCM : Hid (CnM ((w2.alloc (.cells #[.int .i64 0, .int .i64 0, .slice none 0 0, .int .i64 0, .slice none 0 0, .int .i64 0, .slice none 0 0, .int .i64 0, .int .i64 0, .int .i64 0, .slice none 0 0, .bool false, .bool false] 32)).setRow w2.heap.size #[.int .i64 d.reg.lim, .int .i64 d.reg.top, .slice ae2 d.reg.es.length pe2, .int .i64 d.inr, .slice ai2 d.inT.length pi2, .int .i64 d.outr, .slice ao2 d.outT.length po2, .int .i64 d.get, .int .i64 d.give, .int .i64 d.first, .slice af2 d.flows.length pf2, .bool d.away, .bool d.dead]) w2.heap.size d bs) := ⟨⟨_, _, _, _, rowIs_setRow (cs' := [.int .i64 d.reg.lim, .int .i64 d.reg.top, .slice ae2 d.reg.es.length pe2, .int .i64 d.inr, .slice ai2 d.inT.length pi2, .int .i64 d.outr, .slice ao2 d.outT.length po2, .int .i64 d.get, .int .i64 d.give, .int .i64 d.first, .slice af2 d.flows.length pf2, .bool d.away, .bool d.dead]) RN, hcn.new hbO⟩, fun hx => by have := hcn.lt _ hx; omega⟩
  have HLO := hide hlo
  have HRZ := hide (RZ.new hbO)
  replace HB := hide (bchain HB.out hbO)
  clear hb2 hcn hlo RA
  go_upto_region 4 with (refine wpList_store_row (by rfl) 32 _ _ (by rfl) w2.heap.size [.int .i64 d.reg.lim, .int .i64 d.reg.top, .slice ae2 d.reg.es.length pe2, .int .i64 d.inr, .slice ai2 d.inT.length pi2, .int .i64 d.outr, .slice ao2 d.outT.length po2, .int .i64 d.get, .int .i64 d.give, .int .i64 d.first, .slice af2 d.flows.length pf2, .bool d.away, .bool d.dead] (by rfl) (by rfl) 32 [.int .i64 0, .int .i64 0, .slice none 0 0, .int .i64 0, .slice none 0 0, .int .i64 0, .slice none 0 0, .int .i64 0, .int .i64 0, .int .i64 0, .slice none 0 0, .bool false, .bool false] RN (by kernel_rfl) rfl (by intro u hu; simp at hu; rcases hu with rfl | rfl | rfl | rfl | rfl | rfl | rfl | rfl | rfl | rfl | rfl | rfl | rfl <;> rfl) ?_)
  clear RN RZ hbO
  obtain ⟨gO, hgO⟩ : ∃ q, q = w2.heap.size := ⟨_, rfl⟩
  rw [← hgO] at HCM HRZ HB
  try rw [← hgO]
  have hgO1 : w.heap.size + 2 ≤ gO := by omega
  generalize (w2.alloc (.cells #[.int .i64 0, .int .i64 0, .slice none 0 0, .int .i64 0, .slice none 0 0, .int .i64 0, .slice none 0 0, .int .i64 0, .int .i64 0, .int .i64 0, .slice none 0 0, .bool false, .bool false] 32)).setRow gO #[.int .i64 d.reg.lim, .int .i64 d.reg.top, .slice ae2 d.reg.es.length pe2, .int .i64 d.inr, .slice ai2 d.inT.length pi2, .int .i64 d.outr, .slice ao2 d.outT.length po2, .int .i64 d.get, .int .i64 d.give, .int .i64 d.first, .slice af2 d.flows.length pf2, .bool d.away, .bool d.dead] = X at *
  clear hgO hz1 hz2
  go_wp2_with fail
  refine (tookM gO d bs id n _ HCM.out hok).mono ?_
  rintro x w4 ⟨vx, rfl, hst4⟩
  obtain ⟨v4, bz, hveq, hc4, ho4, ht4, hn4, ha4⟩ := hst4
  obtain rfl := (Ending.returned.inj hveq).symm
  have HNB : Hid (∀ b ∈ gO :: bs, w.heap.size + 2 ≤ b) := fun b hb => by
    rcases List.mem_cons.1 hb with e | e
    · rw [e]; exact hgO1
    · have := HLO.out b e; have := HZ1.out; omega
  have hxs := HB.out.size
  have hxg := HCM.out.lt
  have HNZ : Hid (∀ b ∈ bz, w.heap.size + 2 ≤ b) := fun b hb => by
    rcases hn4 b hb with e | e
    · exact HNB.out b (by simp [e])
    · omega
  have HVQ : Hid (∀ q, v4.ownBlock = some q → w.heap.size + 2 ≤ q ∧ q ∉ bz) := fun q hq => ⟨by have := (ho4.lt q hq).1; omega, fun hx => ha4 q hq (by simp [hx])⟩
  replace HRZ := hide (HRZ.out.kept (ht4.block _ HRZ.out.lt (fun hx => by have := HNB.out _ hx; omega)))
  have HB4 : Hid (Below w.heap.size w w4) := ⟨ht4.os.trans HB.out.os, ht4.tape.trans HB.out.tape, ht4.output.trans HB.out.output, Nat.le_trans HB.out.size ht4.size, fun k hk => (ht4.block k (Nat.lt_of_lt_of_le hk HB.out.size) (fun hx => by have := HNB.out _ hx; omega)).trans (HB.out.block k hk)⟩
  have HO4 := hide (owns_base ho4 (fun q hq => by have := (HVQ.out q hq).1; omega : ∀ q, v4.ownBlock = some q → w.heap.size ≤ q))
  obtain ⟨ve4, vi4, vo4, vf4, hr4, _, hcn4⟩ := hc4.handed (lo := 0) (fun b hb => Nat.zero_le _)
  obtain ⟨R, hR⟩ : ∃ x, tookRaw d id n = x := ⟨_, rfl⟩
  rw [hR] at HO4 hr4 hcn4
  try rw [hR]
  have HG2 : Hid (tookD d id n = R) := by show _ = _; rw [HG.out, ← hR]
  obtain ⟨dd, ll, tt⟩ := R
  dsimp only at HO4 hr4 hcn4
  try dsimp only
  obtain ⟨ae4, pe4, rfl, _, _⟩ := hcn4.rd.e.form
  obtain ⟨ai4, pi4, rfl, _, _⟩ := hcn4.rd.i.form
  obtain ⟨ao4, po4, rfl, _, _⟩ := hcn4.rd.o.form
  obtain ⟨af4, pf4, rfl, _, _⟩ := hcn4.rd.f.form
  obtain ⟨a9, p9, hv9, _, _⟩ := owns_form HO4.out
  subst hv9
  have HB5 := hide (below_setRow HB4.out (show w.heap.size ≤ w.heap.size + 1 by omega) #[.int .i64 dd.reg.lim, .int .i64 dd.reg.top, .slice ae4 dd.reg.es.length pe4, .int .i64 dd.inr, .slice ai4 dd.inT.length pi4, .int .i64 dd.outr, .slice ao4 dd.outT.length po4, .int .i64 dd.get, .int .i64 dd.give, .int .i64 dd.first, .slice af4 dd.flows.length pf4, .bool dd.away, .bool dd.dead])
  have HR5 := hide (rowIs_setRow (cs' := [.int .i64 dd.reg.lim, .int .i64 dd.reg.top, .slice ae4 dd.reg.es.length pe4, .int .i64 dd.inr, .slice ai4 dd.inT.length pi4, .int .i64 dd.outr, .slice ao4 dd.outT.length po4, .int .i64 dd.get, .int .i64 dd.give, .int .i64 dd.first, .slice af4 dd.flows.length pf4, .bool dd.away, .bool dd.dead]) HRZ.out)
  have HCN5 : Hid (CnOw (w4.setRow (w.heap.size + 1) #[.int .i64 dd.reg.lim, .int .i64 dd.reg.top, .slice ae4 dd.reg.es.length pe4, .int .i64 dd.inr, .slice ai4 dd.inT.length pi4, .int .i64 dd.outr, .slice ao4 dd.outT.length po4, .int .i64 dd.get, .int .i64 dd.give, .int .i64 dd.first, .slice af4 dd.flows.length pf4, .bool dd.away, .bool dd.dead]) bz dd (.slice ae4 dd.reg.es.length pe4) (.slice ai4 dd.inT.length pi4) (.slice ao4 dd.outT.length po4) (.slice af4 dd.flows.length pf4)) := hcn4.keep (by rw [setRow_size]; exact Nat.le_refl _) (fun b hb => setRow_other _ _ _ _ (by have := HNZ.out b hb; omega))
  have HO5 := hide (owns_kept (w' := w4.setRow (w.heap.size + 1) #[.int .i64 dd.reg.lim, .int .i64 dd.reg.top, .slice ae4 dd.reg.es.length pe4, .int .i64 dd.inr, .slice ai4 dd.inT.length pi4, .int .i64 dd.outr, .slice ao4 dd.outT.length po4, .int .i64 dd.get, .int .i64 dd.give, .int .i64 dd.first, .slice af4 dd.flows.length pf4, .bool dd.away, .bool dd.dead]) HO4.out (fun k hk _ => setRow_other _ _ _ _ (by have := (HVQ.out k hk).1; omega)))
  have HR4 := hide hr4
  clear hc4 ht4 hr4 hcn4 hR HCM HB HB4 ho4 hn4 ha4 HO4
  go_wp2_with (first | (refine wpList_load_row (by rfl) 32 _ (by rfl) gO (by rfl) [.int .i64 dd.reg.lim, .int .i64 dd.reg.top, .slice ae4 dd.reg.es.length pe4, .int .i64 dd.inr, .slice ai4 dd.inT.length pi4, .int .i64 dd.outr, .slice ao4 dd.outT.length po4, .int .i64 dd.get, .int .i64 dd.give, .int .i64 dd.first, .slice af4 dd.flows.length pf4, .bool dd.away, .bool dd.dead] _ 32 HR4.out Tryz.underlying32 rfl (by kernel_rfl) ?_) | (refine wpList_store_row (by rfl) 32 _ _ (by rfl) (w.heap.size + 1) [.int .i64 dd.reg.lim, .int .i64 dd.reg.top, .slice ae4 dd.reg.es.length pe4, .int .i64 dd.inr, .slice ai4 dd.inT.length pi4, .int .i64 dd.outr, .slice ao4 dd.outT.length po4, .int .i64 dd.get, .int .i64 dd.give, .int .i64 dd.first, .slice af4 dd.flows.length pf4, .bool dd.away, .bool dd.dead] (by rfl) (by rfl) 32 [.int .i64 0, .int .i64 0, .slice none 0 0, .int .i64 0, .slice none 0 0, .int .i64 0, .slice none 0 0, .int .i64 0, .int .i64 0, .int .i64 0, .slice none 0 0, .bool false, .bool false] HRZ.out (by kernel_rfl) rfl (by intro u hu; simp at hu; rcases hu with rfl | rfl | rfl | rfl | rfl | rfl | rfl | rfl | rfl | rfl | rfl | rfl | rfl <;> rfl) ?_))
  generalize w4.setRow (w.heap.size + 1) #[.int .i64 dd.reg.lim, .int .i64 dd.reg.top, .slice ae4 dd.reg.es.length pe4, .int .i64 dd.inr, .slice ai4 dd.inT.length pi4, .int .i64 dd.outr, .slice ao4 dd.outT.length po4, .int .i64 dd.get, .int .i64 dd.give, .int .i64 dd.first, .slice af4 dd.flows.length pf4, .bool dd.away, .bool dd.dead] = V at *
  have z0 := RowIs.cell (j := 0) HR5.out rfl
  have z1 := RowIs.cell (j := 1) HR5.out rfl
  have z2 := RowIs.cell (j := 2) HR5.out rfl
  have z3 := RowIs.cell (j := 3) HR5.out rfl
  have z4 := RowIs.cell (j := 4) HR5.out rfl
  have z5 := RowIs.cell (j := 5) HR5.out rfl
  have z6 := RowIs.cell (j := 6) HR5.out rfl
  have z7 := RowIs.cell (j := 7) HR5.out rfl
  have z8 := RowIs.cell (j := 8) HR5.out rfl
  have z9 := RowIs.cell (j := 9) HR5.out rfl
  have z10 := RowIs.cell (j := 10) HR5.out rfl
  have z11 := RowIs.cell (j := 11) HR5.out rfl
  have z12 := RowIs.cell (j := 12) HR5.out rfl
  have zf := fun j => RowIs.frozen HR5.out j
  refine bodyPost_ret (v := .tuple #[.agg #[.int .i64 dd.reg.lim, .int .i64 dd.reg.top, .slice ae4 dd.reg.es.length pe4, .int .i64 dd.inr, .slice ai4 dd.inT.length pi4, .int .i64 dd.outr, .slice ao4 dd.outT.length po4, .int .i64 dd.get, .int .i64 dd.give, .int .i64 dd.first, .slice af4 dd.flows.length pf4, .bool dd.away, .bool dd.dead], .slice a9 ll.length p9, .string tt]) (by simp [results, Tryz.results26, go_sem, *]) rfl ?_
  rw [HG2.out]
  exact ⟨_, _, rfl, ⟨_, _, _, _, bz, rfl, HCN5.out, fun b hb => by have := HNZ.out b hb; omega, HO5.out, fun q hq => (HVQ.out q hq).2⟩, HB5.out⟩
end Go.Proofs.YtfmeinkhdgbgjaaGreat
/- Flushing in place: where it stands, what each store leaves; how many frames there are. -/
namespace Go.Proofs.YtfmeinkhdgbgjaaGreat
open Go.RowKit
set_option maxRecDepth 100000
set_option linter.unusedSimpArgs false
set_option linter.unusedVariables false
/-- The Conn in place, and the frames told so far, in v. -/
structure OutAt (w : World) (g : Nat) (bs : List Nat) (W : World) (D : CnD) (bx : List Nat) (v : Value) (L : List Fr) : Prop where
  c : CnM W g D bx
  t : TurnB (g :: bs) w W
  n : NewB w bs bx
  o : W.ownsRow w.heap.size 34 4 v L.length (fr L)
  a : ∀ q, v.ownBlock = some q → q ∉ g :: bx
section
variable {w W W' : World} {g : Nat} {bs bx by_ : List Nat} {D D' : CnD} {v v' : Value} {L M : List Fr}
theorem OutAt.start (h : CnM w g D bs) : OutAt w g bs (w.alloc (.cells #[] 34)) D bs (.slice (some ⟨w.heap.size, 0, none⟩) 0 0) [] := by
  have hbx : Below w.heap.size w (w.alloc (.cells #[] 34)) := (Below.refl _ _).alloc (Nat.le_refl _) _
  exact ⟨h.new hbx, TurnB.new hbx, NewB.refl _ _, owns_lit w 34 4 0 #[] rfl (by omega), fun q hq hx => by simp [Value.ownBlock] at hq; have := h.lts q hx; omega⟩
theorem OutAt.new (h : OutAt w g bs W D bx v L) (hb : Below W.heap.size W W') : OutAt w g bs W' D bx v L := ⟨h.c.new hb, h.t.trans (TurnB.new hb), h.n, owns_new h.o hb, h.a⟩
theorem OutAt.turn (h : OutAt w g bs W D bx v L) (hc : CnM W' g D' by_) (ht : TurnB (g :: bx) W W') (hn : NewB W bx by_) : OutAt w g bs W' D' by_ v L :=
  ⟨hc, h.t.then h.n ht, h.n.trans hn h.t.size, frames_turn h.o ht h.a, fun q hq hx => by
    rcases List.mem_cons.1 hx with e | e
    · exact h.a q hq (by simp [e])
    · rcases hn q e with e | e
      · exact h.a q hq (by simp [e])
      · have := (h.o.lt q hq).2; omega⟩
theorem OutAt.app (h : OutAt w g bs W D bx v L) (ho : W'.ownsRow w.heap.size 34 4 v' (L.length + M.length) (fr L ++ fr M)) (hg : W.grownBy W' v.ownBlock) (hat : v'.ownBlock = v.ownBlock ∨ v'.ownBlock = some W.heap.size) : OutAt w g bs W' D bx v' (L ++ M) := by
  have hlt := h.o.lt
  refine ⟨h.c.grown hg h.a, ⟨hg.os.trans h.t.os, hg.tape.trans h.t.tape, hg.output.trans h.t.output, Nat.le_trans h.t.size hg.size, fun k hk hn' => (hg.block k (Nat.lt_of_lt_of_le hk h.t.size) (fun e => by have := (hlt k e.symm).1; omega)).trans (h.t.block k hk hn')⟩, h.n, ?_, fun q hq hx => ?_⟩
  · rw [fr_app, List.length_append]; exact ho
  · rcases hat with e | e
    · exact h.a q (e ▸ hq) hx
    · rw [hq] at e; have := h.c.lts q hx; have := Option.some.inj e; omega
theorem OutAt.done (h : OutAt w g bs W D bx v L) : StepC w g bs (D, L) (.returned v) W := ⟨v, bx, rfl, h.c, h.o, h.t, h.n, h.a⟩
end
/-- The Conn while a stream is flushed: its Flow, and Give. -/
def cur (D : CnD) (k : Nat) (G : Int) (F : FlD) : CnD := { D with give := G, flows := D.flows.set k F }
theorem cur_self (D : CnD) (k : Nat) (h : k < D.flows.length) : cur D k D.give D.flows[k] = D := by unfold cur; rw [List.set_getElem_self]
/-- .. in place: the Flows' row lies in block gf. -/
structure FlAt (w : World) (g : Nat) (bs : List Nat) (W : World) (D : CnD) (k : Nat) (G : Int) (F : FlD) (bx : List Nat) (gf cap : Nat) (v : Value) (L : List Fr) : Prop where
  out : OutAt w g bs W (cur D k G F) bx v L
  x : W.cell? ⟨g, 10, none⟩ = some (.slice (some ⟨gf, 0, none⟩) D.flows.length cap)
section
variable {w W W' : World} {g gf cap k : Nat} {bs bx by_ : List Nat} {D : CnD} {v v' : Value} {L M : List Fr} {G : Int} {F : FlD}
theorem FlAt.new (h : FlAt w g bs W D k G F bx gf cap v L) (hb : Below W.heap.size W W') : FlAt w g bs W' D k G F bx gf cap v L := ⟨h.out.new hb, (hb.cell (p := ⟨g, 10, none⟩) h.out.c.lt).trans h.x⟩
theorem FlAt.at (h : FlAt w g bs W D k G F bx gf cap v L) (hk : k < D.flows.length) :
    ∃ A C ve vi vo v0, RowIs W g 32 (cncs (cur D k G F) ve vi vo (.slice (some ⟨gf, 0, none⟩) D.flows.length cap)) ∧ gf ∈ bx ∧ gf < W.heap.size ∧ g ≠ gf ∧ MidIs W gf 57 A C (k * 15) (flcs F v0) ∧
      ∀ w' F', F'.fds = F.fds → F'.tun.up.b.size ≤ 9223372036854775807 → F'.tun.dn.b.size ≤ 9223372036854775807 → MidIs w' gf 57 A C (k * 15) (flcs F' v0) → TurnB [gf] W w' → CnM w' g (cur D k G F') bx := by
  have hk' : k < (cur D k G F).flows.length := by show k < (D.flows.set k F).length; rw [List.length_set]; exact hk
  have hF : (cur D k G F).flows[k] = F := List.getElem_set_self _
  obtain ⟨gf2, A, C, ve, vi, vo, cap2, v0, hrow, hgm, hgfl, hgg, hmid, _, _, _, hput⟩ := h.out.c.flw k hk'
  have e := (RowIs.cell (j := 10) hrow rfl).symm.trans h.x
  simp only [Option.some.injEq, Value.slice.injEq, Addr.mk.injEq, and_true, true_and] at e
  obtain ⟨rfl, e2, rfl⟩ := e
  rw [hF] at hmid hput
  rw [e2] at hrow
  refine ⟨A, C, ve, vi, vo, v0, hrow, hgm, hgfl, hgg, hmid, fun w' F' h1 h2 h3 h4 h5 => ?_⟩
  have := hput w' F' h1 h2 h3 h4 h5
  have e3 : ({ cur D k G F with flows := (cur D k G F).flows.set k F' } : CnD) = cur D k G F' := by unfold cur; simp [List.set_set]
  rwa [e3] at this
theorem FlAt.set (h : FlAt w g bs W D k G F bx gf cap v L) (hk : k < D.flows.length) (j : Nat) (u : Value) (F' : FlD) (hj : j < 15) (hu : ∀ v0, (flcs F v0).set j u = flcs F' v0) (hf : F'.fds = F.fds) (h1 : F'.tun.up.b.size ≤ 9223372036854775807) (h2 : F'.tun.dn.b.size ≤ 9223372036854775807) :
    FlAt w g bs (W.setCell ⟨gf, k * 15 + j, none⟩ u) D k G F' bx gf cap v L := by
  obtain ⟨A, C, ve, vi, vo, v0, hrow, hgm, hgfl, hgg, hmid, hput⟩ := h.at hk
  have hm2 := MidIs.set hmid j u (by simpa using hj)
  rw [hu v0] at hm2
  exact ⟨h.out.turn (hput _ F' hf h1 h2 hm2 ((TurnB.refl _ _).set _ _ (by simp))) ((TurnB.refl _ _).set _ _ (by simp [hgm])) (NewB.refl _ _), RowIs.cell (j := 10) (hrow.far ⟨gf, k * 15 + j, none⟩ u (fun e => hgg e.symm)) rfl⟩
theorem FlAt.give (h : FlAt w g bs W D k G F bx gf cap v L) (hk : k < D.flows.length) (n : Int) : FlAt w g bs (W.setCell ⟨g, 8, none⟩ (.int .i64 n)) D k n F bx gf cap v L := by
  obtain ⟨A, C, ve, vi, vo, v0, hrow, hgm, hgfl, hgg, hmid, hput⟩ := h.at hk
  exact ⟨h.out.turn (h.out.c.setGive n) ((TurnB.refl _ _).set _ _ (by simp)) (NewB.refl _ _), RowIs.cell (j := 10) (hrow.set 8 (.int .i64 n)) rfl⟩
theorem FlAt.app (h : FlAt w g bs W D k G F bx gf cap v L) (ho : W'.ownsRow w.heap.size 34 4 v' (L.length + M.length) (fr L ++ fr M)) (hg : W.grownBy W' v.ownBlock) (hat : v'.ownBlock = v.ownBlock ∨ v'.ownBlock = some W.heap.size) : FlAt w g bs W' D k G F bx gf cap v' (L ++ M) :=
  ⟨h.out.app ho hg hat, (World.cell?_of_block (hg.block g h.out.c.lt (fun e => h.out.a g e.symm (by simp)))).trans h.x⟩
theorem FlAt.some (h : OutAt w g bs W D bx v L) (hk : k < D.flows.length) : ∃ gf cap, FlAt w g bs W D k D.give D.flows[k] bx gf cap v L ∧ gf < W.heap.size := by
  obtain ⟨gf, A, C, ve, vi, vo, cap, v0, hrow, hgm, hgfl, _⟩ := h.c.flw k hk
  exact ⟨gf, cap, ⟨by rw [cur_self D k hk]; exact h, RowIs.cell (j := 10) hrow rfl⟩, hgfl⟩
end
end Go.Proofs.YtfmeinkhdgbgjaaGreat
/- How much there is in a Conn, and how many frames are told. -/
namespace Go.Proofs.YtfmeinkhdgbgjaaGreat
open Go.RowKit
set_option maxRecDepth 100000
set_option linter.unusedSimpArgs false
set_option linter.unusedVariables false
theorem cnt_flow1 (d : FlD) : cntFlow d = 14 + 2 * d.fds.length := by unfold cntFlow; rw [cntFieldS_len]; omega
theorem cnt_flows (L : List FlD) : (cntFlowS L : Int) ≤ 14 * szFlowS L := by
  unfold cntFlowS szFlowS
  induction L with
  | nil => decide
  | cons x L ih =>
    have e1 : cntLs cntFlow (x :: L) = cntFlow x + cntLs cntFlow L := rfl
    have e2 : sumLs szFlow (x :: L) = szFlow x + sumLs szFlow L := rfl
    have e3 := cnt_flow1 x
    have e4 : (x.fds.length : Int) ≤ szFlow x := by unfold szFlow szTunnel; have := szFieldS_len x.fds; omega
    rw [e1, e2, List.length_cons]
    omega
theorem cnt_conn (d : CnD) (h : szConn d ≤ 1048576) : 1 + cntConn d ≤ 1000000000 := by
  unfold szConn szRegistry szEntryS at h
  unfold cntConn
  have h1 := cnt_entries d.reg.es
  have h2 := cntFieldS_len d.inT
  have h3 := cntFieldS_len d.outT
  have h4 := cnt_flows d.flows
  have h5 := szFieldS_len d.inT
  have h6 := szFieldS_len d.outT
  have h7 : 0 ≤ szFlowS d.flows := szFlowS_nn _
  omega
theorem cnt_flows_ok (L : List FlD) (h : ∀ f ∈ L, f.fds.length ≤ 20) : cntFlowS L ≤ 54 * L.length := by
  unfold cntFlowS
  induction L with
  | nil => decide
  | cons x L ih =>
    have e1 : cntLs cntFlow (x :: L) = cntFlow x + cntLs cntFlow L := rfl
    have e3 := cnt_flow1 x
    have e4 := h x (by simp)
    have e5 := ih (fun f hf => h f (by simp [hf]))
    rw [e1, List.length_cons]
    omega
theorem cnt_ok (d : CnD) (h : okCn d = true) : cntConn d ≤ 100000 := by
  obtain ⟨hl, h60⟩ := cn_len h
  have h1 := cnt_entries d.reg.es
  have h2 := cntFieldS_len d.inT
  have h3 := cntFieldS_len d.outT
  have h4 := cnt_flows_ok d.flows (fun f hf => by
    have := (cn_flow h hf).2.2.2
    unfold okFs at this
    simp only [Bool.and_eq_true, decide_eq_true_eq] at this
    exact this.2)
  have h5 := okT_len (okCn_iff.1 h).2.1
  have h6 := okT_len (okCn_iff.1 h).2.2.1
  unfold cntConn
  omega
theorem cnt_zero : cntConn zCn ≤ 100000 := by decide
theorem grant_few (c : CnD) (id n : Int) : (grantD c id n).2.length ≤ 1 := by
  unfold grantD
  repeat' split
  all_goals simp
theorem took_few (c : CnD) (id n : Int) : (tookD c id n).2.1.length ≤ 4 := by
  unfold tookD
  split
  · exact Nat.zero_le _
  unfold tookRaw
  split
  · exact Nat.zero_le _
  split
  · split
    · exact Nat.zero_le _
    · dsimp only
      rw [List.length_append]
      refine Nat.le_trans (Nat.add_le_add (b := 1) (d := 1) ?_ (grant_few _ _ _)) (by decide)
      split
      · exact Nat.zero_le _
      · exact grant_few _ _ _
  · exact Nat.zero_le _
theorem cnt_took (c : CnD) (id n : Int) : cntConn (tookD c id n).1 ≤ 100000 := by
  unfold tookD
  split
  · exact cnt_zero
  rename_i h
  exact cnt_ok _ (took_law (by simpa using h)).1
end Go.Proofs.YtfmeinkhdgbgjaaGreat
/- The program's copy of a Conn; its link. -/
namespace Go.Proofs.YtfmeinkhdgbgjaaGreat
open Go.RowKit
set_option maxRecDepth 100000
set_option linter.unusedSimpArgs false
set_option linter.unusedVariables false
theorem own_same {room : Int} {L : List Fd} (h : okT room L = true) : resizedD room L room = ((room, L), true) := by
  have hp := okT_parts h
  unfold resizedD
  rw [if_pos h, if_pos (inB_of hp.1 hp.2.1), shr_stop (by have := hp.2.2.2.1; omega)]
set_option maxHeartbeats 16000000 in
theorem implConnApart (d : CnD) (ve vi vo vf : Value) (w : World) (hv : CnRd w d ve vi vo vf) (hok : okCn d = true) :
    Calls Tryz.prog 100 #[cnv d ve vi vo vf] w fun x w' => ∃ v', x = .returned v' ∧ NewC w.heap.size d v' w' ∧ Below w.heap.size w w' := by
  have hiff := okCn_iff.1 hok
  have h60 := (cn_len hok).2
  have hF60 : d.flows.length ≤ 60 := by have := (cn_len hok).1; omega
  have HFO : Hid (∀ f ∈ d.flows, okFs f.fds = true ∧ okTu f.tun = true) := fun f hf => ⟨(cn_flow hok hf).2.2.2, (cn_flow hok hf).2.2.1⟩
  have HTI := hide (own_same hiff.2.1)
  have HTO := hide (own_same hiff.2.2.1)
  obtain ⟨hv1, hv2, hv3, hv4⟩ := hv
  obtain ⟨ae, pe, rfl, e1, e2⟩ := hv1.form
  obtain ⟨ai, pi, rfl, i1, i2⟩ := hv2.form
  obtain ⟨ao, po, rfl, o1, o2⟩ := hv3.form
  obtain ⟨af, pf, rfl, f1, f2⟩ := hv4.form
  obtain ⟨⟨rl, rt, es⟩, ir, it, orr, ot, gt, gv, fs, fl, aw, de⟩ := d
  dsimp only [cnv] at *
  have HV1 := hide hv1; have HV2 := hide hv2; have HV3 := hide hv3; have HV4 := hide hv4
  clear hok hv1 hv2 hv3 hv4 hiff
  have hbA : Below w.heap.size w ((w.alloc (.cells #[.int .i64 rl, .int .i64 rt, .slice ae es.length pe, .int .i64 ir, .slice ai it.length pi, .int .i64 orr, .slice ao ot.length po, .int .i64 gt, .int .i64 gv, .int .i64 fs, .slice af fl.length pf, .bool aw, .bool de] 32)).alloc (.cells #[.int .i64 0, .int .i64 0, .slice none 0 0, .int .i64 0, .slice none 0 0, .int .i64 0, .slice none 0 0, .int .i64 0, .int .i64 0, .int .i64 0, .slice none 0 0, .bool false, .bool false] 32)) := ((Below.refl _ _).alloc (Nat.le_refl _) _).alloc (by simp) _
  have RA := (rowIs_new w 32 [.int .i64 rl, .int .i64 rt, .slice ae es.length pe, .int .i64 ir, .slice ai it.length pi, .int .i64 orr, .slice ao ot.length po, .int .i64 gt, .int .i64 gv, .int .i64 fs, .slice af fl.length pf, .bool aw, .bool de]).alloc (.cells #[.int .i64 0, .int .i64 0, .slice none 0 0, .int .i64 0, .slice none 0 0, .int .i64 0, .slice none 0 0, .int .i64 0, .int .i64 0, .int .i64 0, .slice none 0 0, .bool false, .bool false] 32)
  have RZ := rowIs_new (w.alloc (.cells #[.int .i64 rl, .int .i64 rt, .slice ae es.length pe, .int .i64 ir, .slice ai it.length pi, .int .i64 orr, .slice ao ot.length po, .int .i64 gt, .int .i64 gv, .int .i64 fs, .slice af fl.length pf, .bool aw, .bool de] 32)) 32 [.int .i64 0, .int .i64 0, .slice none 0 0, .int .i64 0, .slice none 0 0, .int .i64 0, .slice none 0 0, .int .i64 0, .int .i64 0, .int .i64 0, .slice none 0 0, .bool false, .bool false]
  have hsz : (w.alloc (.cells #[.int .i64 rl, .int .i64 rt, .slice ae es.length pe, .int .i64 ir, .slice ai it.length pi, .int .i64 orr, .slice ao ot.length po, .int .i64 gt, .int .i64 gv, .int .i64 fs, .slice af fl.length pf, .bool aw, .bool de] 32)).heap.size = w.heap.size + 1 := by simp
  have hs2 : ((w.alloc (.cells #[.int .i64 rl, .int .i64 rt, .slice ae es.length pe, .int .i64 ir, .slice ai it.length pi, .int .i64 orr, .slice ao ot.length po, .int .i64 gt, .int .i64 gv, .int .i64 fs, .slice af fl.length pf, .bool aw, .bool de] 32)).alloc (.cells #[.int .i64 0, .int .i64 0, .slice none 0 0, .int .i64 0, .slice none 0 0, .int .i64 0, .slice none 0 0, .int .i64 0, .int .i64 0, .int .i64 0, .slice none 0 0, .bool false, .bool false] 32)).heap.size = w.heap.size + 2 := by simp
  rw [hsz] at RZ
  obtain ⟨W1, hV⟩ : ∃ V, (w.alloc (.cells #[.int .i64 rl, .int .i64 rt, .slice ae es.length pe, .int .i64 ir, .slice ai it.length pi, .int .i64 orr, .slice ao ot.length po, .int .i64 gt, .int .i64 gv, .int .i64 fs, .slice af fl.length pf, .bool aw, .bool de] 32)).alloc (.cells #[.int .i64 0, .int .i64 0, .slice none 0 0, .int .i64 0, .slice none 0 0, .int .i64 0, .slice none 0 0, .int .i64 0, .int .i64 0, .int .i64 0, .slice none 0 0, .bool false, .bool false] 32) = V := ⟨_, rfl⟩
  rw [hV] at hbA RA RZ hs2
  have HB := hide hbA
  have hlo : w.heap.size + 2 ≤ W1.heap.size := by omega
  clear hsz hs2 hbA
  go_enter Tryz.func100, Tryz.ntmps100
  go_upto_region 1 with fail
  try rw [hV]
  clear hV
  have a0 := RowIs.cell (j := 0) RA rfl
  have a1 := RowIs.cell (j := 1) RA rfl
  have a2 := RowIs.cell (j := 2) RA rfl
  go_wp2_with fail
  refine (implApart ⟨rl, rt, es⟩ (.slice ae es.length pe) _ (HV1.out.new HB.out) h60).mono ?_; rintro e w2 ⟨vE, rfl, ho, hb⟩
  obtain ⟨ae2, pe2, rfl, qE1, qE2⟩ := owns_form ho
  replace RA := RA.new hb
  replace RZ := RZ.new hb
  replace HB := hide (bchain HB.out hb)
  have hOE := ev_ow (owns_base (base' := (w.heap.size + 2)) ho (fun q hq => by have := (owns_lt ho q hq).1; omega))
  have HE := hide hOE
  have hzw2 := hb.size
  clear ho hb hOE a0 a1 a2
  have a0 := RowIs.cell (j := 0) RA rfl
  have a1 := RowIs.cell (j := 1) RA rfl
  have a2 := RowIs.cell (j := 2) RA rfl
  have hfz := fun j => RowIs.frozen RA j
  have al := RA.lt
  go_upto_region 2 with fail
  have hsv : (((w2.setCell ⟨w.heap.size, 0, none⟩ (.int .i64 rl)).setCell ⟨w.heap.size, 1, none⟩ (.int .i64 rt)).setCell ⟨w.heap.size, 2, none⟩ (.slice ae2 es.length pe2)).heap.size = w2.heap.size := by simp
  have NRA : RowIs (((w2.setCell ⟨w.heap.size, 0, none⟩ (.int .i64 rl)).setCell ⟨w.heap.size, 1, none⟩ (.int .i64 rt)).setCell ⟨w.heap.size, 2, none⟩ (.slice ae2 es.length pe2)) w.heap.size 32 [.int .i64 rl, .int .i64 rt, .slice ae2 es.length pe2, .int .i64 ir, .slice ai it.length pi, .int .i64 orr, .slice ao ot.length po, .int .i64 gt, .int .i64 gv, .int .i64 fs, .slice af fl.length pf, .bool aw, .bool de] := (((RA.set 0 (.int .i64 rl)).set 1 (.int .i64 rt)).set 2 (.slice ae2 es.length pe2))
  have NRZ := (((RZ.far ⟨w.heap.size, 0, none⟩ (.int .i64 rl) (show w.heap.size ≠ w.heap.size + 1 by omega)).far ⟨w.heap.size, 1, none⟩ (.int .i64 rt) (show w.heap.size ≠ w.heap.size + 1 by omega)).far ⟨w.heap.size, 2, none⟩ (.slice ae2 es.length pe2) (show w.heap.size ≠ w.heap.size + 1 by omega))
  have NHB := hide (((HB.out.setCell (p := ⟨w.heap.size, 0, none⟩) (Nat.le_refl _) (.int .i64 rl)).setCell (p := ⟨w.heap.size, 1, none⟩) (Nat.le_refl _) (.int .i64 rt)).setCell (p := ⟨w.heap.size, 2, none⟩) (Nat.le_refl _) (.slice ae2 es.length pe2))
  have NE := hide (((HE.out.far ⟨w.heap.size, 0, none⟩ (.int .i64 rl) (.inl (show w.heap.size < (w.heap.size + 2) by omega))).far ⟨w.heap.size, 1, none⟩ (.int .i64 rt) (.inl (show w.heap.size < (w.heap.size + 2) by omega))).far ⟨w.heap.size, 2, none⟩ (.slice ae2 es.length pe2) (.inl (show w.heap.size < (w.heap.size + 2) by omega)))
  clear RA RZ HB HE a0 a1 a2 hfz al
  generalize (((w2.setCell ⟨w.heap.size, 0, none⟩ (.int .i64 rl)).setCell ⟨w.heap.size, 1, none⟩ (.int .i64 rt)).setCell ⟨w.heap.size, 2, none⟩ (.slice ae2 es.length pe2)) = W2 at *
  have RA := NRA
  have RZ := NRZ
  have HB := NHB
  obtain ⟨e9, he9⟩ : ∃ n, w2.heap.size = n := ⟨_, rfl⟩
  rw [he9] at NE hsv hzw2
  have HE : Hid (OwX entryS W2 (w.heap.size + 2) e9 (.slice ae2 es.length pe2) es) := NE
  clear NRA NRZ NHB NE he9 
  have hsW2 : e9 ≤ W2.heap.size := by omega
  have hloe9 : (w.heap.size + 2) ≤ e9 := by omega
  clear hsv hzw2
  have a3 := RowIs.cell (j := 3) RA rfl
  have a4 := RowIs.cell (j := 4) RA rfl
  go_wp2_with fail
  refine (implOwn it ir (.slice ai it.length pi) _ (rd_fv (HV2.out.new HB.out)) (rd_fine HV2.out)).mono ?_; rw [HTI.out]; rintro e w3 ⟨vI, rfl, ho, hb⟩
  obtain ⟨ai2, pi2, rfl, qI1, qI2⟩ := owns_form ho
  replace RA := RA.new hb
  replace RZ := RZ.new hb
  replace HB := hide (bchain HB.out hb)
  replace HE := hide (HE.out.new hb)
  have hOI := (fun z => fv_ow z (rd_fine HV2.out)) (owns_base (base' := e9) ho (fun q hq => by have := (owns_lt ho q hq).1; omega))
  have HI := hide hOI
  have hzw3 := hb.size
  clear ho hb hOI a3 a4
  have a3 := RowIs.cell (j := 3) RA rfl
  have a4 := RowIs.cell (j := 4) RA rfl
  have hfz := fun j => RowIs.frozen RA j
  have al := RA.lt
  go_upto_region 3 with fail
  have hsv : ((w3.setCell ⟨w.heap.size, 3, none⟩ (.int .i64 ir)).setCell ⟨w.heap.size, 4, none⟩ (.slice ai2 it.length pi2)).heap.size = w3.heap.size := by simp
  have NRA : RowIs ((w3.setCell ⟨w.heap.size, 3, none⟩ (.int .i64 ir)).setCell ⟨w.heap.size, 4, none⟩ (.slice ai2 it.length pi2)) w.heap.size 32 [.int .i64 rl, .int .i64 rt, .slice ae2 es.length pe2, .int .i64 ir, .slice ai2 it.length pi2, .int .i64 orr, .slice ao ot.length po, .int .i64 gt, .int .i64 gv, .int .i64 fs, .slice af fl.length pf, .bool aw, .bool de] := ((RA.set 3 (.int .i64 ir)).set 4 (.slice ai2 it.length pi2))
  have NRZ := ((RZ.far ⟨w.heap.size, 3, none⟩ (.int .i64 ir) (show w.heap.size ≠ w.heap.size + 1 by omega)).far ⟨w.heap.size, 4, none⟩ (.slice ai2 it.length pi2) (show w.heap.size ≠ w.heap.size + 1 by omega))
  have NHB := hide ((HB.out.setCell (p := ⟨w.heap.size, 3, none⟩) (Nat.le_refl _) (.int .i64 ir)).setCell (p := ⟨w.heap.size, 4, none⟩) (Nat.le_refl _) (.slice ai2 it.length pi2))
  have NI := hide ((HI.out.far ⟨w.heap.size, 3, none⟩ (.int .i64 ir) (.inl (show w.heap.size < e9 by omega))).far ⟨w.heap.size, 4, none⟩ (.slice ai2 it.length pi2) (.inl (show w.heap.size < e9 by omega)))
  have NHE := hide (((HE.out.far ⟨w.heap.size, 3, none⟩ (.int .i64 ir) (.inl (show w.heap.size < w.heap.size + 2 by omega))).far ⟨w.heap.size, 4, none⟩ (.slice ai2 it.length pi2) (.inl (show w.heap.size < w.heap.size + 2 by omega))))
  clear RA RZ HB HI a3 a4 hfz al
  clear HE
  generalize ((w3.setCell ⟨w.heap.size, 3, none⟩ (.int .i64 ir)).setCell ⟨w.heap.size, 4, none⟩ (.slice ai2 it.length pi2)) = W3 at *
  have RA := NRA
  have RZ := NRZ
  have HB := NHB
  obtain ⟨i9, hi9⟩ : ∃ n, w3.heap.size = n := ⟨_, rfl⟩
  rw [hi9] at NI hsv hzw3
  have HI : Hid (OwX fieldS W3 e9 i9 (.slice ai2 it.length pi2) it) := NI
  have HE := NHE
  clear NRA NRZ NHB NI hi9 NHE
  have hsW3 : i9 ≤ W3.heap.size := by omega
  have hloi9 : e9 ≤ i9 := by omega
  clear hsv hzw3
  have a5 := RowIs.cell (j := 5) RA rfl
  have a6 := RowIs.cell (j := 6) RA rfl
  go_wp2_with fail
  refine (implOwn ot orr (.slice ao ot.length po) _ (rd_fv (HV3.out.new HB.out)) (rd_fine HV3.out)).mono ?_; rw [HTO.out]; rintro e w4 ⟨vU, rfl, ho, hb⟩
  obtain ⟨ao2, po2, rfl, qU1, qU2⟩ := owns_form ho
  replace RA := RA.new hb
  replace RZ := RZ.new hb
  replace HB := hide (bchain HB.out hb)
  replace HE := hide (HE.out.new hb)
  replace HI := hide (HI.out.new hb)
  have hOU := (fun z => fv_ow z (rd_fine HV3.out)) (owns_base (base' := i9) ho (fun q hq => by have := (owns_lt ho q hq).1; omega))
  have HU := hide hOU
  have hzw4 := hb.size
  clear ho hb hOU a5 a6
  have a5 := RowIs.cell (j := 5) RA rfl
  have a6 := RowIs.cell (j := 6) RA rfl
  have hfz := fun j => RowIs.frozen RA j
  have al := RA.lt
  go_upto_region 4 with fail
  have hsv : ((w4.setCell ⟨w.heap.size, 5, none⟩ (.int .i64 orr)).setCell ⟨w.heap.size, 6, none⟩ (.slice ao2 ot.length po2)).heap.size = w4.heap.size := by simp
  have NRA : RowIs ((w4.setCell ⟨w.heap.size, 5, none⟩ (.int .i64 orr)).setCell ⟨w.heap.size, 6, none⟩ (.slice ao2 ot.length po2)) w.heap.size 32 [.int .i64 rl, .int .i64 rt, .slice ae2 es.length pe2, .int .i64 ir, .slice ai2 it.length pi2, .int .i64 orr, .slice ao2 ot.length po2, .int .i64 gt, .int .i64 gv, .int .i64 fs, .slice af fl.length pf, .bool aw, .bool de] := ((RA.set 5 (.int .i64 orr)).set 6 (.slice ao2 ot.length po2))
  have NRZ := ((RZ.far ⟨w.heap.size, 5, none⟩ (.int .i64 orr) (show w.heap.size ≠ w.heap.size + 1 by omega)).far ⟨w.heap.size, 6, none⟩ (.slice ao2 ot.length po2) (show w.heap.size ≠ w.heap.size + 1 by omega))
  have NHB := hide ((HB.out.setCell (p := ⟨w.heap.size, 5, none⟩) (Nat.le_refl _) (.int .i64 orr)).setCell (p := ⟨w.heap.size, 6, none⟩) (Nat.le_refl _) (.slice ao2 ot.length po2))
  have NU := hide ((HU.out.far ⟨w.heap.size, 5, none⟩ (.int .i64 orr) (.inl (show w.heap.size < i9 by omega))).far ⟨w.heap.size, 6, none⟩ (.slice ao2 ot.length po2) (.inl (show w.heap.size < i9 by omega)))
  have NHE := hide (((HE.out.far ⟨w.heap.size, 5, none⟩ (.int .i64 orr) (.inl (show w.heap.size < w.heap.size + 2 by omega))).far ⟨w.heap.size, 6, none⟩ (.slice ao2 ot.length po2) (.inl (show w.heap.size < w.heap.size + 2 by omega))))
  have NHI := hide (((HI.out.far ⟨w.heap.size, 5, none⟩ (.int .i64 orr) (.inl (show w.heap.size < e9 by omega))).far ⟨w.heap.size, 6, none⟩ (.slice ao2 ot.length po2) (.inl (show w.heap.size < e9 by omega))))
  clear RA RZ HB HU a5 a6 hfz al
  clear HE
  clear HI
  generalize ((w4.setCell ⟨w.heap.size, 5, none⟩ (.int .i64 orr)).setCell ⟨w.heap.size, 6, none⟩ (.slice ao2 ot.length po2)) = W4 at *
  have RA := NRA
  have RZ := NRZ
  have HB := NHB
  obtain ⟨u9, hu9⟩ : ∃ n, w4.heap.size = n := ⟨_, rfl⟩
  rw [hu9] at NU hsv hzw4
  have HU : Hid (OwX fieldS W4 i9 u9 (.slice ao2 ot.length po2) ot) := NU
  have HE := NHE
  have HI := NHI
  clear NRA NRZ NHB NU hu9 NHE NHI
  have hsW4 : u9 ≤ W4.heap.size := by omega
  have hlou9 : i9 ≤ u9 := by omega
  clear hsv hzw4
  have a10 := RowIs.cell (j := 10) RA rfl
  go_wp2_with fail
  refine (implEachFlow fl _ _ (HV4.out.new HB.out) HFO.out hF60).mono ?_; rintro e w5 ⟨vF, rfl, ho, hb⟩
  obtain ⟨ac, pc, rfl, qF1, qF2⟩ := ho.form
  replace RA := RA.new hb
  replace RZ := RZ.new hb
  replace HB := hide (bchain HB.out hb)
  replace HE := hide (HE.out.new hb)
  replace HI := hide (HI.out.new hb)
  replace HU := hide (HU.out.new hb)
  have HF := hide (ho.wide (lo' := u9) hsW4 (Nat.le_refl _))
  have hz5 : u9 ≤ w5.heap.size := Nat.le_trans hsW4 hb.size
  clear ho hb a10
  have a10 := RowIs.cell (j := 10) RA rfl
  have hfz := RowIs.frozen RA 10
  have al := RA.lt
  go_upto_region 5 with fail
  have NRA := hide (show RowIs (w5.setCell ⟨w.heap.size, 10, none⟩ (.slice ac fl.length pc)) w.heap.size 32 [.int .i64 rl, .int .i64 rt, .slice ae2 es.length pe2, .int .i64 ir, .slice ai2 it.length pi2, .int .i64 orr, .slice ao2 ot.length po2, .int .i64 gt, .int .i64 gv, .int .i64 fs, .slice ac fl.length pc, .bool aw, .bool de] from RA.set 10 (.slice ac fl.length pc))
  have NRZ := hide (RZ.far ⟨w.heap.size, 10, none⟩ (.slice ac fl.length pc) (show w.heap.size ≠ w.heap.size + 1 by omega))
  have NHB := hide (HB.out.setCell (p := ⟨w.heap.size, 10, none⟩) (Nat.le_refl _) (.slice ac fl.length pc))
  have NHE := hide (HE.out.far ⟨w.heap.size, 10, none⟩ (.slice ac fl.length pc) (.inl (show w.heap.size < w.heap.size + 2 by omega)))
  have NHI := hide (HI.out.far ⟨w.heap.size, 10, none⟩ (.slice ac fl.length pc) (.inl (show w.heap.size < e9 by omega)))
  have NHU := hide (HU.out.far ⟨w.heap.size, 10, none⟩ (.slice ac fl.length pc) (.inl (show w.heap.size < i9 by omega)))
  have NHF := hide (HF.out.far ⟨w.heap.size, 10, none⟩ (.slice ac fl.length pc) (.inl (show w.heap.size < u9 by omega)))
  have hsv : (w5.setCell ⟨w.heap.size, 10, none⟩ (.slice ac fl.length pc)).heap.size = w5.heap.size := by simp
  clear RA RZ HB HE HI HU HF a10 hfz al
  generalize w5.setCell ⟨w.heap.size, 10, none⟩ (.slice ac fl.length pc) = W5 at *
  have HF : Hid (OwX flowS W5 u9 w5.heap.size (.slice ac fl.length pc) fl) := NHF
  clear NHF
  have HR2 := hide (rowIs_setRow (cs' := [.int .i64 rl, .int .i64 rt, .slice ae2 es.length pe2, .int .i64 ir, .slice ai2 it.length pi2, .int .i64 orr, .slice ao2 ot.length po2, .int .i64 gt, .int .i64 gv, .int .i64 fs, .slice ac fl.length pc, .bool aw, .bool de]) NRZ.out)
  have HB2 := hide (below_setRow NHB.out (show w.heap.size ≤ w.heap.size + 1 by omega) #[.int .i64 rl, .int .i64 rt, .slice ae2 es.length pe2, .int .i64 ir, .slice ai2 it.length pi2, .int .i64 orr, .slice ao2 ot.length po2, .int .i64 gt, .int .i64 gv, .int .i64 fs, .slice ac fl.length pc, .bool aw, .bool de])
  have hsx : (W5.setRow (w.heap.size + 1) #[.int .i64 rl, .int .i64 rt, .slice ae2 es.length pe2, .int .i64 ir, .slice ai2 it.length pi2, .int .i64 orr, .slice ao2 ot.length po2, .int .i64 gt, .int .i64 gv, .int .i64 fs, .slice ac fl.length pc, .bool aw, .bool de]).heap.size = W5.heap.size := setRow_size _ _ _
  have hkx : ∀ q, w.heap.size + 2 ≤ q → (W5.setRow (w.heap.size + 1) #[.int .i64 rl, .int .i64 rt, .slice ae2 es.length pe2, .int .i64 ir, .slice ai2 it.length pi2, .int .i64 orr, .slice ao2 ot.length po2, .int .i64 gt, .int .i64 gv, .int .i64 fs, .slice ac fl.length pc, .bool aw, .bool de]).heap[q]? = W5.heap[q]? := fun q hq => setRow_other _ _ _ _ (by omega)
  go_wp2_with (first | (refine wpList_load_row (by rfl) 32 _ (by rfl) w.heap.size (by rfl) [.int .i64 rl, .int .i64 rt, .slice ae2 es.length pe2, .int .i64 ir, .slice ai2 it.length pi2, .int .i64 orr, .slice ao2 ot.length po2, .int .i64 gt, .int .i64 gv, .int .i64 fs, .slice ac fl.length pc, .bool aw, .bool de] _ 32 NRA.out Tryz.underlying32 rfl (by kernel_rfl) ?_) | (refine wpList_store_row (by rfl) 32 _ _ (by rfl) (w.heap.size + 1) [.int .i64 rl, .int .i64 rt, .slice ae2 es.length pe2, .int .i64 ir, .slice ai2 it.length pi2, .int .i64 orr, .slice ao2 ot.length po2, .int .i64 gt, .int .i64 gv, .int .i64 fs, .slice ac fl.length pc, .bool aw, .bool de] (by rfl) (by rfl) 32 [.int .i64 0, .int .i64 0, .slice none 0 0, .int .i64 0, .slice none 0 0, .int .i64 0, .slice none 0 0, .int .i64 0, .int .i64 0, .int .i64 0, .slice none 0 0, .bool false, .bool false] NRZ.out (by kernel_rfl) rfl (by intro u hu; simp at hu; rcases hu with rfl | rfl | rfl | rfl | rfl | rfl | rfl | rfl | rfl | rfl | rfl | rfl | rfl <;> rfl) ?_))
  generalize W5.setRow (w.heap.size + 1) #[.int .i64 rl, .int .i64 rt, .slice ae2 es.length pe2, .int .i64 ir, .slice ai2 it.length pi2, .int .i64 orr, .slice ao2 ot.length po2, .int .i64 gt, .int .i64 gv, .int .i64 fs, .slice ac fl.length pc, .bool aw, .bool de] = V at *
  have HE2 := NHE.out.keep1 hsx (fun q hq => hkx q (by omega))
  have HI2 := NHI.out.keep1 hsx (fun q hq => hkx q (by omega))
  have HU2 := NHU.out.keep1 hsx (fun q hq => hkx q (by omega))
  have HF2 := HF.out.keep1 hsx (fun q hq => hkx q (by omega))
  obtain ⟨bs, hcn, hlo2⟩ := cnow_of (d := ⟨⟨rl, rt, es⟩, ir, it, orr, ot, gt, gv, fs, fl, aw, de⟩) HE2 HI2 HU2 HF2 (by omega) (by omega) (by omega) (by omega) (by omega) (by omega)
  have HCN := hide hcn
  clear hcn HE2 HI2 HU2 HF2
  have z0 := RowIs.cell (j := 0) HR2.out rfl
  have z1 := RowIs.cell (j := 1) HR2.out rfl
  have z2 := RowIs.cell (j := 2) HR2.out rfl
  have z3 := RowIs.cell (j := 3) HR2.out rfl
  have z4 := RowIs.cell (j := 4) HR2.out rfl
  have z5 := RowIs.cell (j := 5) HR2.out rfl
  have z6 := RowIs.cell (j := 6) HR2.out rfl
  have z7 := RowIs.cell (j := 7) HR2.out rfl
  have z8 := RowIs.cell (j := 8) HR2.out rfl
  have z9 := RowIs.cell (j := 9) HR2.out rfl
  have z10 := RowIs.cell (j := 10) HR2.out rfl
  have z11 := RowIs.cell (j := 11) HR2.out rfl
  have z12 := RowIs.cell (j := 12) HR2.out rfl
  have zf := fun j => RowIs.frozen HR2.out j
  refine bodyPost_ret (v := .agg #[.int .i64 rl, .int .i64 rt, .slice ae2 es.length pe2, .int .i64 ir, .slice ai2 it.length pi2, .int .i64 orr, .slice ao2 ot.length po2, .int .i64 gt, .int .i64 gv, .int .i64 fs, .slice ac fl.length pc, .bool aw, .bool de]) (by simp [results, Tryz.results100, go_sem, *]) rfl ?_
  exact ⟨_, rfl, ⟨_, _, _, _, bs, rfl, HCN.out, fun q hq => by have := hlo2 q hq; omega⟩, HB2.out⟩
end Go.Proofs.YtfmeinkhdgbgjaaGreat
/- The program's link: what fails; what is given back; a stream that must have begun. -/
namespace Go.Proofs.YtfmeinkhdgbgjaaGreat
open Go.RowKit
set_option maxRecDepth 100000
set_option linter.unusedSimpArgs false
set_option linter.unusedVariables false
theorem bys3 {n : Int} (h0 : 0 ≤ n) (h1 : n ≤ 16777215) : bysV n 3 = bytV 3 n := by
  unfold bysV inB
  rw [if_pos]
  · rfl
  · constructor <;> (simp; try omega)
set_option maxHeartbeats 4000000 in
theorem implGiveBack (lo g : Nat) (d : CnD) (L : List Fr) (bs : List Nat) (id n : Int) (w : World) (h : LkM w lo g d L bs) (hlen : d.flows.length = d.reg.es.length) (h60 : d.reg.es.length ≤ 60) (hL : L.length ≤ 1000000) (h0 : 0 ≤ n) (h1 : n ≤ 16777215)
    (hid : id = 0 ∨ ∃ k, atE d.reg.es id = some k) (hg : id = 0 → n ≠ 0 → grV d.get n = (d.get + n, true)) (hf : id ≠ 0 → n ≠ 0 → ∀ k (hk : k < d.flows.length), atE d.reg.es id = some k → grV d.flows[k].get n = (d.flows[k].get + n, true)) :
    Calls Tryz.prog 77 #[.pointer (some ⟨g, 0, none⟩), .int .i64 id, .int .i64 n] w fun x w' => x = .returned (.tuple #[]) ∧ ∃ bx, Lnk lo g w bs w' (grantD d id n).1 (L ++ (grantD d id n).2) bx := by
  by_cases hn : n = 0
  · subst hn
    have HS := hide (Lnk.start h)
    clear h hg hf
    go_enter Tryz.func77, Tryz.ntmps77
    go_wp2_with fail
    first | go_end0 | refine bodyPost_ret (results_none rfl _ _ _) rfl ?_
    rw [grant_zero rfl, List.append_nil]
    exact ⟨rfl, bs, HS.out⟩
  have hn' : (n == 0) = false := by simpa using hn
  have hgl := h.glt
  by_cases hi : id = 0
  · subst hi
    have hgr := hg rfl hn
    have HS := hide (Lnk.start h)
    obtain ⟨⟨ve, vi, vo, vf, tv, cb, hrow, hc, h3, h4, h5⟩, hl, hlo, hng, hbs⟩ := h
    have x7 := RowIs.cell (j := 7) hrow rfl
    have HROW := hide hrow
    rw [grant_conn hn]
    clear hrow hc h3 h4 h5 hl hlo hng hbs hg hf hid hn
    go_enter Tryz.func77, Tryz.ntmps77
    go_wp2_with fail
    refine (implGranted d.get n _).mono ?_; rw [hgr]; rintro x w1 ⟨rfl, hb⟩
    replace HS := hide (HS.out.new hb)
    have hr1 := HROW.out.new hb
    clear hb x7 HROW
    have x7 := RowIs.cell (j := 7) hr1 rfl
    have xf := RowIs.frozen hr1 7
    have xl := hr1.lt
    clear hr1
    go_upto_region 5 with fail
    replace HS := hide (HS.out.step (HS.out.m.setGet (d.get + n)))
    generalize w1.setCell ⟨g, 7, none⟩ (.int .i64 (d.get + n)) = w2 at *
    clear x7 xf xl
    go_wp2_with fail
    refine (implBytes n 3 _).mono ?_; rw [bys3 h0 h1]; rintro x w3 ⟨rfl, hb3⟩
    replace HS := hide (HS.out.new hb3)
    clear hb3
    have hm := HS.out.m
    go_wp2_with fail
    refine (implTell lo g _ L bs 7 0 0 (bytV 3 n) _ hm hL).mono ?_; rintro x w4 ⟨rfl, by_, hl4⟩
    have HE := hide (HS.out.step hl4)
    clear hl4 hm HS
    go_wp2_with fail
    first | go_end0 | refine bodyPost_ret (results_none rfl _ _ _) rfl ?_
    exact ⟨rfl, _, HE.out⟩
  · have hi' : (id != 0) = true := by simpa using hi
    obtain ⟨k, ha⟩ := hid.resolve_left hi
    obtain ⟨hk, _, _⟩ := atE_some ha
    have hkf : k < d.flows.length := by omega
    have hgr := hf hi hn k hkf ha
    have HS := hide (Lnk.start h)
    obtain ⟨gf, A, C, ve, vi, vo, cap, v0, tv, hrow, hgb, hgfl, hgg, hmid, f0, f1, hput⟩ := h.flw k hkf
    have hx := RowIs.cell (j := 10) hrow rfl
    have HP := hide hput; have HM := hide hmid
    rw [grant_flow hn hi ha hkf]
    have HHM := hide h
    have F0 := hide f0; have F1 := hide f1; have HA := hide ha; have HX := hide hx
    clear hrow hput hmid hg hf hi h f0 f1 ha hx hn
    go_enter Tryz.func77, Tryz.ntmps77
    go_wp2_with fail
    refine (implFlowSome lo g d L bs id k gf cap _ HHM.out hlen h60 HA.out HX.out).mono ?_; rintro x w1 ⟨rfl, hb⟩
    replace HM := hide (HM.out.new hb)
    have HB := hide (TurnB.new (bs := [gf]) hb)
    clear hb HHM HX HA
    have c1 := MidIs.cell (j := 1) HM.out rfl
    have cl := HM.out.lt
    go_wp2_with fail
    refine (implGranted d.flows[k].get n _).mono ?_; rw [hgr]; rintro x w2 ⟨rfl, hb⟩
    replace HM := hide (HM.out.new hb)
    replace HB := hide (HB.out.trans (TurnB.new hb))
    clear hb c1 cl
    have c1 := MidIs.cell (j := 1) HM.out rfl
    have cf := fun j => MidIs.frozen HM.out j
    have cl := HM.out.lt
    go_upto_region 5 with fail
    have hm2 := MidIs.set HM.out 1 (.int .i64 (d.flows[k].get + n)) (by simp)
    have HS2 := hide (HS.out.step (HP.out _ { d.flows[k] with get := d.flows[k].get + n } rfl F0.out F1.out hm2 (HB.out.set _ _ (by simp))))
    clear hm2 c1 cf cl
    generalize w2.setCell ⟨gf, k * 15 + 1, none⟩ (.int .i64 (d.flows[k].get + n)) = w3 at *
    clear HS HM HB HP
    go_wp2_with fail
    refine (implBytes n 3 _).mono ?_; rw [bys3 h0 h1]; rintro x w4 ⟨rfl, hb3⟩
    replace HS2 := hide (HS2.out.new hb3)
    clear hb3
    have hm := HS2.out.m
    go_wp2_with fail
    refine (implTell lo g _ L bs 7 0 id (bytV 3 n) _ hm hL).mono ?_; rintro x w5 ⟨rfl, by_, hl4⟩
    have HE := hide (HS2.out.step hl4)
    clear hl4 hm HS2
    go_wp2_with fail
    first | go_end0 | refine bodyPost_ret (results_none rfl _ _ _) rfl ?_
    exact ⟨rfl, _, HE.out⟩
end Go.Proofs.YtfmeinkhdgbgjaaGreat
