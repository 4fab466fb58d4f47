/- The program's copy of a Conn; its link. -/
import Derived.Test.YtfmeinkhdgbgjaaGreatQGvG27
import Derived.Test.YtfmeinkhdgbgjaaGreatQGvG20
import Derived.Test.YtfmeinkhdgbgjaaGreatQGvG26
namespace Go.Proofs.YtfmeinkhdgbgjaaGreat
open Go.RowKit
set_option maxRecDepth 100000
set_option linter.unusedSimpArgs false
set_option linter.unusedVariables false
theorem own_same {room : Int} {L : List Fd} (h : okT room L = true) : resizedD room L room = ((room, L), true) := by
  have hp := okT_parts h
  unfold resizedD
  rw [if_pos h, if_pos (inB_of hp.1 hp.2.1), shr_stop (by have := hp.2.2.2.1; omega)]
set_option maxHeartbeats 16000000 in
theorem implConnApart (d : CnD) (ve vi vo vf : Value) (w : World) (hv : CnRd w d ve vi vo vf) (hok : okCn d = true) :
    Calls Tryz.prog 100 #[cnv d ve vi vo vf] w fun x w' => ∃ v', x = .returned v' ∧ NewC w.heap.size d v' w' ∧ Below w.heap.size w w' := by
  have hiff := okCn_iff.1 hok
  have h60 := (cn_len hok).2
  have hF60 : d.flows.length ≤ 60 := by have := (cn_len hok).1; omega
  have HFO : Hid (∀ f ∈ d.flows, okFs f.fds = true ∧ okTu f.tun = true) := fun f hf => ⟨(cn_flow hok hf).2.2.2, (cn_flow hok hf).2.2.1⟩
  have HTI := hide (own_same hiff.2.1)
  have HTO := hide (own_same hiff.2.2.1)
  obtain ⟨hv1, hv2, hv3, hv4⟩ := hv
  obtain ⟨ae, pe, rfl, e1, e2⟩ := hv1.form
  obtain ⟨ai, pi, rfl, i1, i2⟩ := hv2.form
  obtain ⟨ao, po, rfl, o1, o2⟩ := hv3.form
  obtain ⟨af, pf, rfl, f1, f2⟩ := hv4.form
  obtain ⟨⟨rl, rt, es⟩, ir, it, orr, ot, gt, gv, fs, fl, aw, de⟩ := d
  dsimp only [cnv] at *
  have HV1 := hide hv1; have HV2 := hide hv2; have HV3 := hide hv3; have HV4 := hide hv4
  clear hok hv1 hv2 hv3 hv4 hiff
  have hbA : Below w.heap.size w ((w.alloc (.cells #[.int .i64 rl, .int .i64 rt, .slice ae es.length pe, .int .i64 ir, .slice ai it.length pi, .int .i64 orr, .slice ao ot.length po, .int .i64 gt, .int .i64 gv, .int .i64 fs, .slice af fl.length pf, .bool aw, .bool de] 32)).alloc (.cells #[.int .i64 0, .int .i64 0, .slice none 0 0, .int .i64 0, .slice none 0 0, .int .i64 0, .slice none 0 0, .int .i64 0, .int .i64 0, .int .i64 0, .slice none 0 0, .bool false, .bool false] 32)) := ((Below.refl _ _).alloc (Nat.le_refl _) _).alloc (by simp) _
  have RA := (rowIs_new w 32 [.int .i64 rl, .int .i64 rt, .slice ae es.length pe, .int .i64 ir, .slice ai it.length pi, .int .i64 orr, .slice ao ot.length po, .int .i64 gt, .int .i64 gv, .int .i64 fs, .slice af fl.length pf, .bool aw, .bool de]).alloc (.cells #[.int .i64 0, .int .i64 0, .slice none 0 0, .int .i64 0, .slice none 0 0, .int .i64 0, .slice none 0 0, .int .i64 0, .int .i64 0, .int .i64 0, .slice none 0 0, .bool false, .bool false] 32)
  have RZ := rowIs_new (w.alloc (.cells #[.int .i64 rl, .int .i64 rt, .slice ae es.length pe, .int .i64 ir, .slice ai it.length pi, .int .i64 orr, .slice ao ot.length po, .int .i64 gt, .int .i64 gv, .int .i64 fs, .slice af fl.length pf, .bool aw, .bool de] 32)) 32 [.int .i64 0, .int .i64 0, .slice none 0 0, .int .i64 0, .slice none 0 0, .int .i64 0, .slice none 0 0, .int .i64 0, .int .i64 0, .int .i64 0, .slice none 0 0, .bool false, .bool false]
  have hsz : (w.alloc (.cells #[.int .i64 rl, .int .i64 rt, .slice ae es.length pe, .int .i64 ir, .slice ai it.length pi, .int .i64 orr, .slice ao ot.length po, .int .i64 gt, .int .i64 gv, .int .i64 fs, .slice af fl.length pf, .bool aw, .bool de] 32)).heap.size = w.heap.size + 1 := by simp
  have hs2 : ((w.alloc (.cells #[.int .i64 rl, .int .i64 rt, .slice ae es.length pe, .int .i64 ir, .slice ai it.length pi, .int .i64 orr, .slice ao ot.length po, .int .i64 gt, .int .i64 gv, .int .i64 fs, .slice af fl.length pf, .bool aw, .bool de] 32)).alloc (.cells #[.int .i64 0, .int .i64 0, .slice none 0 0, .int .i64 0, .slice none 0 0, .int .i64 0, .slice none 0 0, .int .i64 0, .int .i64 0, .int .i64 0, .slice none 0 0, .bool false, .bool false] 32)).heap.size = w.heap.size + 2 := by simp
  rw [hsz] at RZ
  obtain ⟨W1, hV⟩ : ∃ V, (w.alloc (.cells #[.int .i64 rl, .int .i64 rt, .slice ae es.length pe, .int .i64 ir, .slice ai it.length pi, .int .i64 orr, .slice ao ot.length po, .int .i64 gt, .int .i64 gv, .int .i64 fs, .slice af fl.length pf, .bool aw, .bool de] 32)).alloc (.cells #[.int .i64 0, .int .i64 0, .slice none 0 0, .int .i64 0, .slice none 0 0, .int .i64 0, .slice none 0 0, .int .i64 0, .int .i64 0, .int .i64 0, .slice none 0 0, .bool false, .bool false] 32) = V := ⟨_, rfl⟩
  rw [hV] at hbA RA RZ hs2
  have HB := hide hbA
  have hlo : w.heap.size + 2 ≤ W1.heap.size := by omega
  clear hsz hs2 hbA
  go_enter Tryz.func100, Tryz.ntmps100
  go_upto_region 1 with fail
  try rw [hV]
  clear hV
  have a0 := RowIs.cell (j := 0) RA rfl
  have a1 := RowIs.cell (j := 1) RA rfl
  have a2 := RowIs.cell (j := 2) RA rfl
  go_wp2_with fail
  refine (implApart ⟨rl, rt, es⟩ (.slice ae es.length pe) _ (HV1.out.new HB.out) h60).mono ?_; rintro e w2 ⟨vE, rfl, ho, hb⟩
  obtain ⟨ae2, pe2, rfl, qE1, qE2⟩ := owns_form ho
  replace RA := RA.new hb
  replace RZ := RZ.new hb
  replace HB := hide (bchain HB.out hb)
  have hOE := ev_ow (owns_base (base' := (w.heap.size + 2)) ho (fun q hq => by have := (owns_lt ho q hq).1; omega))
  have HE := hide hOE
  have hzw2 := hb.size
  clear ho hb hOE a0 a1 a2
  have a0 := RowIs.cell (j := 0) RA rfl
  have a1 := RowIs.cell (j := 1) RA rfl
  have a2 := RowIs.cell (j := 2) RA rfl
  have hfz := fun j => RowIs.frozen RA j
  have al := RA.lt
  go_upto_region 2 with fail
  have hsv : (((w2.setCell ⟨w.heap.size, 0, none⟩ (.int .i64 rl)).setCell ⟨w.heap.size, 1, none⟩ (.int .i64 rt)).setCell ⟨w.heap.size, 2, none⟩ (.slice ae2 es.length pe2)).heap.size = w2.heap.size := by simp
  have NRA : RowIs (((w2.setCell ⟨w.heap.size, 0, none⟩ (.int .i64 rl)).setCell ⟨w.heap.size, 1, none⟩ (.int .i64 rt)).setCell ⟨w.heap.size, 2, none⟩ (.slice ae2 es.length pe2)) w.heap.size 32 [.int .i64 rl, .int .i64 rt, .slice ae2 es.length pe2, .int .i64 ir, .slice ai it.length pi, .int .i64 orr, .slice ao ot.length po, .int .i64 gt, .int .i64 gv, .int .i64 fs, .slice af fl.length pf, .bool aw, .bool de] := (((RA.set 0 (.int .i64 rl)).set 1 (.int .i64 rt)).set 2 (.slice ae2 es.length pe2))
  have NRZ := (((RZ.far ⟨w.heap.size, 0, none⟩ (.int .i64 rl) (show w.heap.size ≠ w.heap.size + 1 by omega)).far ⟨w.heap.size, 1, none⟩ (.int .i64 rt) (show w.heap.size ≠ w.heap.size + 1 by omega)).far ⟨w.heap.size, 2, none⟩ (.slice ae2 es.length pe2) (show w.heap.size ≠ w.heap.size + 1 by omega))
  have NHB := hide (((HB.out.setCell (p := ⟨w.heap.size, 0, none⟩) (Nat.le_refl _) (.int .i64 rl)).setCell (p := ⟨w.heap.size, 1, none⟩) (Nat.le_refl _) (.int .i64 rt)).setCell (p := ⟨w.heap.size, 2, none⟩) (Nat.le_refl _) (.slice ae2 es.length pe2))
  have NE := hide (((HE.out.far ⟨w.heap.size, 0, none⟩ (.int .i64 rl) (.inl (show w.heap.size < (w.heap.size + 2) by omega))).far ⟨w.heap.size, 1, none⟩ (.int .i64 rt) (.inl (show w.heap.size < (w.heap.size + 2) by omega))).far ⟨w.heap.size, 2, none⟩ (.slice ae2 es.length pe2) (.inl (show w.heap.size < (w.heap.size + 2) by omega)))
  clear RA RZ HB HE a0 a1 a2 hfz al
  generalize (((w2.setCell ⟨w.heap.size, 0, none⟩ (.int .i64 rl)).setCell ⟨w.heap.size, 1, none⟩ (.int .i64 rt)).setCell ⟨w.heap.size, 2, none⟩ (.slice ae2 es.length pe2)) = W2 at *
  have RA := NRA
  have RZ := NRZ
  have HB := NHB
  obtain ⟨e9, he9⟩ : ∃ n, w2.heap.size = n := ⟨_, rfl⟩
  rw [he9] at NE hsv hzw2
  have HE : Hid (OwX entryS W2 (w.heap.size + 2) e9 (.slice ae2 es.length pe2) es) := NE
  clear NRA NRZ NHB NE he9 
  have hsW2 : e9 ≤ W2.heap.size := by omega
  have hloe9 : (w.heap.size + 2) ≤ e9 := by omega
  clear hsv hzw2
  have a3 := RowIs.cell (j := 3) RA rfl
  have a4 := RowIs.cell (j := 4) RA rfl
  go_wp2_with fail
  refine (implOwn it ir (.slice ai it.length pi) _ (rd_fv (HV2.out.new HB.out)) (rd_fine HV2.out)).mono ?_; rw [HTI.out]; rintro e w3 ⟨vI, rfl, ho, hb⟩
  obtain ⟨ai2, pi2, rfl, qI1, qI2⟩ := owns_form ho
  replace RA := RA.new hb
  replace RZ := RZ.new hb
  replace HB := hide (bchain HB.out hb)
  replace HE := hide (HE.out.new hb)
  have hOI := (fun z => fv_ow z (rd_fine HV2.out)) (owns_base (base' := e9) ho (fun q hq => by have := (owns_lt ho q hq).1; omega))
  have HI := hide hOI
  have hzw3 := hb.size
  clear ho hb hOI a3 a4
  have a3 := RowIs.cell (j := 3) RA rfl
  have a4 := RowIs.cell (j := 4) RA rfl
  have hfz := fun j => RowIs.frozen RA j
  have al := RA.lt
  go_upto_region 3 with fail
  have hsv : ((w3.setCell ⟨w.heap.size, 3, none⟩ (.int .i64 ir)).setCell ⟨w.heap.size, 4, none⟩ (.slice ai2 it.length pi2)).heap.size = w3.heap.size := by simp
  have NRA : RowIs ((w3.setCell ⟨w.heap.size, 3, none⟩ (.int .i64 ir)).setCell ⟨w.heap.size, 4, none⟩ (.slice ai2 it.length pi2)) w.heap.size 32 [.int .i64 rl, .int .i64 rt, .slice ae2 es.length pe2, .int .i64 ir, .slice ai2 it.length pi2, .int .i64 orr, .slice ao ot.length po, .int .i64 gt, .int .i64 gv, .int .i64 fs, .slice af fl.length pf, .bool aw, .bool de] := ((RA.set 3 (.int .i64 ir)).set 4 (.slice ai2 it.length pi2))
  have NRZ := ((RZ.far ⟨w.heap.size, 3, none⟩ (.int .i64 ir) (show w.heap.size ≠ w.heap.size + 1 by omega)).far ⟨w.heap.size, 4, none⟩ (.slice ai2 it.length pi2) (show w.heap.size ≠ w.heap.size + 1 by omega))
  have NHB := hide ((HB.out.setCell (p := ⟨w.heap.size, 3, none⟩) (Nat.le_refl _) (.int .i64 ir)).setCell (p := ⟨w.heap.size, 4, none⟩) (Nat.le_refl _) (.slice ai2 it.length pi2))
  have NI := hide ((HI.out.far ⟨w.heap.size, 3, none⟩ (.int .i64 ir) (.inl (show w.heap.size < e9 by omega))).far ⟨w.heap.size, 4, none⟩ (.slice ai2 it.length pi2) (.inl (show w.heap.size < e9 by omega)))
  have NHE := hide (((HE.out.far ⟨w.heap.size, 3, none⟩ (.int .i64 ir) (.inl (show w.heap.size < w.heap.size + 2 by omega))).far ⟨w.heap.size, 4, none⟩ (.slice ai2 it.length pi2) (.inl (show w.heap.size < w.heap.size + 2 by omega))))
  clear RA RZ HB HI a3 a4 hfz al
  clear HE
  generalize ((w3.setCell ⟨w.heap.size, 3, none⟩ (.int .i64 ir)).setCell ⟨w.heap.size, 4, none⟩ (.slice ai2 it.length pi2)) = W3 at *
  have RA := NRA
  have RZ := NRZ
  have HB := NHB
  obtain ⟨i9, hi9⟩ : ∃ n, w3.heap.size = n := ⟨_, rfl⟩
  rw [hi9] at NI hsv hzw3
  have HI : Hid (OwX fieldS W3 e9 i9 (.slice ai2 it.length pi2) it) := NI
  have HE := NHE
  clear NRA NRZ NHB NI hi9 NHE
  have hsW3 : i9 ≤ W3.heap.size := by omega
  have hloi9 : e9 ≤ i9 := by omega
  clear hsv hzw3
  have a5 := RowIs.cell (j := 5) RA rfl
  have a6 := RowIs.cell (j := 6) RA rfl
  go_wp2_with fail
  refine (implOwn ot orr (.slice ao ot.length po) _ (rd_fv (HV3.out.new HB.out)) (rd_fine HV3.out)).mono ?_; rw [HTO.out]; rintro e w4 ⟨vU, rfl, ho, hb⟩
  obtain ⟨ao2, po2, rfl, qU1, qU2⟩ := owns_form ho
  replace RA := RA.new hb
  replace RZ := RZ.new hb
  replace HB := hide (bchain HB.out hb)
  replace HE := hide (HE.out.new hb)
  replace HI := hide (HI.out.new hb)
  have hOU := (fun z => fv_ow z (rd_fine HV3.out)) (owns_base (base' := i9) ho (fun q hq => by have := (owns_lt ho q hq).1; omega))
  have HU := hide hOU
  have hzw4 := hb.size
  clear ho hb hOU a5 a6
  have a5 := RowIs.cell (j := 5) RA rfl
  have a6 := RowIs.cell (j := 6) RA rfl
  have hfz := fun j => RowIs.frozen RA j
  have al := RA.lt
  go_upto_region 4 with fail
  have hsv : ((w4.setCell ⟨w.heap.size, 5, none⟩ (.int .i64 orr)).setCell ⟨w.heap.size, 6, none⟩ (.slice ao2 ot.length po2)).heap.size = w4.heap.size := by simp
  have NRA : RowIs ((w4.setCell ⟨w.heap.size, 5, none⟩ (.int .i64 orr)).setCell ⟨w.heap.size, 6, none⟩ (.slice ao2 ot.length po2)) w.heap.size 32 [.int .i64 rl, .int .i64 rt, .slice ae2 es.length pe2, .int .i64 ir, .slice ai2 it.length pi2, .int .i64 orr, .slice ao2 ot.length po2, .int .i64 gt, .int .i64 gv, .int .i64 fs, .slice af fl.length pf, .bool aw, .bool de] := ((RA.set 5 (.int .i64 orr)).set 6 (.slice ao2 ot.length po2))
  have NRZ := ((RZ.far ⟨w.heap.size, 5, none⟩ (.int .i64 orr) (show w.heap.size ≠ w.heap.size + 1 by omega)).far ⟨w.heap.size, 6, none⟩ (.slice ao2 ot.length po2) (show w.heap.size ≠ w.heap.size + 1 by omega))
  have NHB := hide ((HB.out.setCell (p := ⟨w.heap.size, 5, none⟩) (Nat.le_refl _) (.int .i64 orr)).setCell (p := ⟨w.heap.size, 6, none⟩) (Nat.le_refl _) (.slice ao2 ot.length po2))
  have NU := hide ((HU.out.far ⟨w.heap.size, 5, none⟩ (.int .i64 orr) (.inl (show w.heap.size < i9 by omega))).far ⟨w.heap.size, 6, none⟩ (.slice ao2 ot.length po2) (.inl (show w.heap.size < i9 by omega)))
  have NHE := hide (((HE.out.far ⟨w.heap.size, 5, none⟩ (.int .i64 orr) (.inl (show w.heap.size < w.heap.size + 2 by omega))).far ⟨w.heap.size, 6, none⟩ (.slice ao2 ot.length po2) (.inl (show w.heap.size < w.heap.size + 2 by omega))))
  have NHI := hide (((HI.out.far ⟨w.heap.size, 5, none⟩ (.int .i64 orr) (.inl (show w.heap.size < e9 by omega))).far ⟨w.heap.size, 6, none⟩ (.slice ao2 ot.length po2) (.inl (show w.heap.size < e9 by omega))))
  clear RA RZ HB HU a5 a6 hfz al
  clear HE
  clear HI
  generalize ((w4.setCell ⟨w.heap.size, 5, none⟩ (.int .i64 orr)).setCell ⟨w.heap.size, 6, none⟩ (.slice ao2 ot.length po2)) = W4 at *
  have RA := NRA
  have RZ := NRZ
  have HB := NHB
  obtain ⟨u9, hu9⟩ : ∃ n, w4.heap.size = n := ⟨_, rfl⟩
  rw [hu9] at NU hsv hzw4
  have HU : Hid (OwX fieldS W4 i9 u9 (.slice ao2 ot.length po2) ot) := NU
  have HE := NHE
  have HI := NHI
  clear NRA NRZ NHB NU hu9 NHE NHI
  have hsW4 : u9 ≤ W4.heap.size := by omega
  have hlou9 : i9 ≤ u9 := by omega
  clear hsv hzw4
  have a10 := RowIs.cell (j := 10) RA rfl
  go_wp2_with fail
  refine (implEachFlow fl _ _ (HV4.out.new HB.out) HFO.out hF60).mono ?_; rintro e w5 ⟨vF, rfl, ho, hb⟩
  obtain ⟨ac, pc, rfl, qF1, qF2⟩ := ho.form
  replace RA := RA.new hb
  replace RZ := RZ.new hb
  replace HB := hide (bchain HB.out hb)
  replace HE := hide (HE.out.new hb)
  replace HI := hide (HI.out.new hb)
  replace HU := hide (HU.out.new hb)
  have HF := hide (ho.wide (lo' := u9) hsW4 (Nat.le_refl _))
  have hz5 : u9 ≤ w5.heap.size := Nat.le_trans hsW4 hb.size
  clear ho hb a10
  have a10 := RowIs.cell (j := 10) RA rfl
  have hfz := RowIs.frozen RA 10
  have al := RA.lt
  go_upto_region 5 with fail
  have NRA := hide (show RowIs (w5.setCell ⟨w.heap.size, 10, none⟩ (.slice ac fl.length pc)) w.heap.size 32 [.int .i64 rl, .int .i64 rt, .slice ae2 es.length pe2, .int .i64 ir, .slice ai2 it.length pi2, .int .i64 orr, .slice ao2 ot.length po2, .int .i64 gt, .int .i64 gv, .int .i64 fs, .slice ac fl.length pc, .bool aw, .bool de] from RA.set 10 (.slice ac fl.length pc))
  have NRZ := hide (RZ.far ⟨w.heap.size, 10, none⟩ (.slice ac fl.length pc) (show w.heap.size ≠ w.heap.size + 1 by omega))
  have NHB := hide (HB.out.setCell (p := ⟨w.heap.size, 10, none⟩) (Nat.le_refl _) (.slice ac fl.length pc))
  have NHE := hide (HE.out.far ⟨w.heap.size, 10, none⟩ (.slice ac fl.length pc) (.inl (show w.heap.size < w.heap.size + 2 by omega)))
  have NHI := hide (HI.out.far ⟨w.heap.size, 10, none⟩ (.slice ac fl.length pc) (.inl (show w.heap.size < e9 by omega)))
  have NHU := hide (HU.out.far ⟨w.heap.size, 10, none⟩ (.slice ac fl.length pc) (.inl (show w.heap.size < i9 by omega)))
  have NHF := hide (HF.out.far ⟨w.heap.size, 10, none⟩ (.slice ac fl.length pc) (.inl (show w.heap.size < u9 by omega)))
  have hsv : (w5.setCell ⟨w.heap.size, 10, none⟩ (.slice ac fl.length pc)).heap.size = w5.heap.size := by simp
  clear RA RZ HB HE HI HU HF a10 hfz al
  generalize w5.setCell ⟨w.heap.size, 10, none⟩ (.slice ac fl.length pc) = W5 at *
  have HF : Hid (OwX flowS W5 u9 w5.heap.size (.slice ac fl.length pc) fl) := NHF
  clear NHF
  have HR2 := hide (rowIs_setRow (cs' := [.int .i64 rl, .int .i64 rt, .slice ae2 es.length pe2, .int .i64 ir, .slice ai2 it.length pi2, .int .i64 orr, .slice ao2 ot.length po2, .int .i64 gt, .int .i64 gv, .int .i64 fs, .slice ac fl.length pc, .bool aw, .bool de]) NRZ.out)
  have HB2 := hide (below_setRow NHB.out (show w.heap.size ≤ w.heap.size + 1 by omega) #[.int .i64 rl, .int .i64 rt, .slice ae2 es.length pe2, .int .i64 ir, .slice ai2 it.length pi2, .int .i64 orr, .slice ao2 ot.length po2, .int .i64 gt, .int .i64 gv, .int .i64 fs, .slice ac fl.length pc, .bool aw, .bool de])
  have hsx : (W5.setRow (w.heap.size + 1) #[.int .i64 rl, .int .i64 rt, .slice ae2 es.length pe2, .int .i64 ir, .slice ai2 it.length pi2, .int .i64 orr, .slice ao2 ot.length po2, .int .i64 gt, .int .i64 gv, .int .i64 fs, .slice ac fl.length pc, .bool aw, .bool de]).heap.size = W5.heap.size := setRow_size _ _ _
  have hkx : ∀ q, w.heap.size + 2 ≤ q → (W5.setRow (w.heap.size + 1) #[.int .i64 rl, .int .i64 rt, .slice ae2 es.length pe2, .int .i64 ir, .slice ai2 it.length pi2, .int .i64 orr, .slice ao2 ot.length po2, .int .i64 gt, .int .i64 gv, .int .i64 fs, .slice ac fl.length pc, .bool aw, .bool de]).heap[q]? = W5.heap[q]? := fun q hq => setRow_other _ _ _ _ (by omega)
  go_wp2_with (first | (refine wpList_load_row (by rfl) 32 _ (by rfl) w.heap.size (by rfl) [.int .i64 rl, .int .i64 rt, .slice ae2 es.length pe2, .int .i64 ir, .slice ai2 it.length pi2, .int .i64 orr, .slice ao2 ot.length po2, .int .i64 gt, .int .i64 gv, .int .i64 fs, .slice ac fl.length pc, .bool aw, .bool de] _ 32 NRA.out Tryz.underlying32 rfl (by kernel_rfl) ?_) | (refine wpList_store_row (by rfl) 32 _ _ (by rfl) (w.heap.size + 1) [.int .i64 rl, .int .i64 rt, .slice ae2 es.length pe2, .int .i64 ir, .slice ai2 it.length pi2, .int .i64 orr, .slice ao2 ot.length po2, .int .i64 gt, .int .i64 gv, .int .i64 fs, .slice ac fl.length pc, .bool aw, .bool de] (by rfl) (by rfl) 32 [.int .i64 0, .int .i64 0, .slice none 0 0, .int .i64 0, .slice none 0 0, .int .i64 0, .slice none 0 0, .int .i64 0, .int .i64 0, .int .i64 0, .slice none 0 0, .bool false, .bool false] NRZ.out (by kernel_rfl) rfl (by intro u hu; simp at hu; rcases hu with rfl | rfl | rfl | rfl | rfl | rfl | rfl | rfl | rfl | rfl | rfl | rfl | rfl <;> rfl) ?_))
  generalize W5.setRow (w.heap.size + 1) #[.int .i64 rl, .int .i64 rt, .slice ae2 es.length pe2, .int .i64 ir, .slice ai2 it.length pi2, .int .i64 orr, .slice ao2 ot.length po2, .int .i64 gt, .int .i64 gv, .int .i64 fs, .slice ac fl.length pc, .bool aw, .bool de] = V at *
  have HE2 := NHE.out.keep1 hsx (fun q hq => hkx q (by omega))
  have HI2 := NHI.out.keep1 hsx (fun q hq => hkx q (by omega))
  have HU2 := NHU.out.keep1 hsx (fun q hq => hkx q (by omega))
  have HF2 := HF.out.keep1 hsx (fun q hq => hkx q (by omega))
  obtain ⟨bs, hcn, hlo2⟩ := cnow_of (d := ⟨⟨rl, rt, es⟩, ir, it, orr, ot, gt, gv, fs, fl, aw, de⟩) HE2 HI2 HU2 HF2 (by omega) (by omega) (by omega) (by omega) (by omega) (by omega)
  have HCN := hide hcn
  clear hcn HE2 HI2 HU2 HF2
  have z0 := RowIs.cell (j := 0) HR2.out rfl
  have z1 := RowIs.cell (j := 1) HR2.out rfl
  have z2 := RowIs.cell (j := 2) HR2.out rfl
  have z3 := RowIs.cell (j := 3) HR2.out rfl
  have z4 := RowIs.cell (j := 4) HR2.out rfl
  have z5 := RowIs.cell (j := 5) HR2.out rfl
  have z6 := RowIs.cell (j := 6) HR2.out rfl
  have z7 := RowIs.cell (j := 7) HR2.out rfl
  have z8 := RowIs.cell (j := 8) HR2.out rfl
  have z9 := RowIs.cell (j := 9) HR2.out rfl
  have z10 := RowIs.cell (j := 10) HR2.out rfl
  have z11 := RowIs.cell (j := 11) HR2.out rfl
  have z12 := RowIs.cell (j := 12) HR2.out rfl
  have zf := fun j => RowIs.frozen HR2.out j
  refine bodyPost_ret (v := .agg #[.int .i64 rl, .int .i64 rt, .slice ae2 es.length pe2, .int .i64 ir, .slice ai2 it.length pi2, .int .i64 orr, .slice ao2 ot.length po2, .int .i64 gt, .int .i64 gv, .int .i64 fs, .slice ac fl.length pc, .bool aw, .bool de]) (by simp [results, Tryz.results100, go_sem, *]) rfl ?_
  exact ⟨_, rfl, ⟨_, _, _, _, bs, rfl, HCN.out, fun q hq => by have := hlo2 q hq; omega⟩, HB2.out⟩
end Go.Proofs.YtfmeinkhdgbgjaaGreat
