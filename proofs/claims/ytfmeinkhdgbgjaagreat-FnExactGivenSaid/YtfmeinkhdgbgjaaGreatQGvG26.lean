/- Several small texts of one level, one behind the other. -/
import Derived.Test.YtfmeinkhdgbgjaaGreatQGvG23
import Derived.Test.YtfmeinkhdgbgjaaGreatQGvG25
import Derived.Test.YtfmeinkhdgbgjaaGreatQGvG24
import Derived.Test.YtfmeinkhdgbgjaaGreatQGvG19
import Derived.Test.YtfmeinkhdgbgjaaGreatQGvG4
import Derived.Test.YtfmeinkhdgbgjaaGreatQGvG3
import Derived.Test.YtfmeinkhdgbgjaaGreatQGvG2
import Derived.Test.YtfmeinkhdgbgjaaGreatQGvG1
import Derived.Handy
import Derived.Lib.SmallJoins
import Derived.Laws.BitsLemmas
import Derived.Deep.DeepMust
import Derived.Test.YtfmeinkhdgbgjaaGreatQGvSB
import Derived.Test.YtfmeinkhdgbgjaaGreatQGvG8
import Derived.Test.YtfmeinkhdgbgjaaGreatQGvBlk
import Derived.Deep.Cut
import Derived.Deep.DeepCutAuto
import Derived.Deep.RegionHeld3
import Derived.Test.YtfmeinkhdgbgjaaGreatQGvG7
import Derived.Test.YtfmeinkhdgbgjaaGreatQGvG6
import Derived.Deep.QuietTactic
/- Chapter 17's model as it is called: given. -/
namespace Go.Proofs.YtfmeinkhdgbgjaaGreat
open Go.RowKit
set_option maxRecDepth 100000
set_option linter.unusedSimpArgs false
set_option linter.unusedVariables false
theorem zero_new (w : World) (lo : Nat) : NewC lo zCn (.agg #[.int .i64 0, .int .i64 0, .slice none 0 0, .int .i64 0, .slice none 0 0, .int .i64 0, .slice none 0 0, .int .i64 0, .int .i64 0, .int .i64 0, .slice none 0 0, .bool false, .bool false]) w := by
  obtain ⟨bs, h, hlo⟩ := cnow_of (w := w) (d := zCn) (owX_nil (E := entryS) w lo lo) (owX_nil (E := fieldS) w lo lo) (owX_nil (E := fieldS) w lo lo) (owX_nil (E := flowS) w lo lo) (Nat.le_refl _) (Nat.le_refl _) (Nat.le_refl _) (Nat.le_refl _) (Nat.le_refl _) (Nat.le_refl _)
  exact ⟨_, _, _, _, bs, rfl, h, hlo⟩
/-- Stands a Conn in a box, all of whose blocks are new, it may be handed back. -/
theorem CnM.handed {w : World} {g lo : Nat} {d : CnD} {bs : List Nat} (h : CnM w g d bs) (hb : ∀ b ∈ bs, lo ≤ b) : ∃ ve vi vo vf, RowIs w g 32 (cncs d ve vi vo vf) ∧ NewC lo d (cnv d ve vi vo vf) w ∧ CnOw w bs d ve vi vo vf := by
  obtain ⟨⟨ve, vi, vo, vf, h1, h2⟩, h3⟩ := h
  exact ⟨ve, vi, vo, vf, h1, ⟨ve, vi, vo, vf, bs, rfl, h2, hb⟩, h2⟩
set_option maxHeartbeats 8000000 in
theorem specGiven (d : CnD) (ve vi vo vf : Value) (id : Int) (s : ByteArray) (fin : Bool) (w : World) (hv : CnRd w d ve vi vo vf) (hs : s.size ≤ 1048576) :
    Calls Tryz.prog 35 #[cnv d ve vi vo vf, .int .i64 id, .string s, .bool fin] w fun x w' => ∃ v, x = .returned (.tuple #[v, .int .i64 (givenD d id s fin).2]) ∧ NewC w.heap.size (givenD d id s fin).1 v w' ∧ Below w.heap.size w w' := by
  have HV := hide hv
  obtain ⟨ae, pe, rfl, _, _⟩ := hv.e.form
  obtain ⟨ai, pi, rfl, _, _⟩ := hv.i.form
  obtain ⟨ao, po, rfl, _, _⟩ := hv.o.form
  obtain ⟨af, pf, rfl, _, _⟩ := hv.f.form
  clear hv
  have hbA : Below w.heap.size w (w.alloc (.cells #[.int .i64 d.reg.lim, .int .i64 d.reg.top, .slice ae d.reg.es.length pe, .int .i64 d.inr, .slice ai d.inT.length pi, .int .i64 d.outr, .slice ao d.outT.length po, .int .i64 d.get, .int .i64 d.give, .int .i64 d.first, .slice af d.flows.length pf, .bool d.away, .bool d.dead] 32)) := (Below.refl _ _).alloc (Nat.le_refl _) _
  have RA := rowIs_new w 32 [.int .i64 d.reg.lim, .int .i64 d.reg.top, .slice ae d.reg.es.length pe, .int .i64 d.inr, .slice ai d.inT.length pi, .int .i64 d.outr, .slice ao d.outT.length po, .int .i64 d.get, .int .i64 d.give, .int .i64 d.first, .slice af d.flows.length pf, .bool d.away, .bool d.dead]
  generalize hA : w.alloc (.cells #[.int .i64 d.reg.lim, .int .i64 d.reg.top, .slice ae d.reg.es.length pe, .int .i64 d.inr, .slice ai d.inT.length pi, .int .i64 d.outr, .slice ao d.outT.length po, .int .i64 d.get, .int .i64 d.give, .int .i64 d.first, .slice af d.flows.length pf, .bool d.away, .bool d.dead] 32) = WA at *
  have hsA : WA.heap.size = w.heap.size + 1 := by rw [← hA]; simp
  have hbZ : Below WA.heap.size WA (WA.alloc (.cells #[.int .i64 0, .int .i64 0, .slice none 0 0, .int .i64 0, .slice none 0 0, .int .i64 0, .slice none 0 0, .int .i64 0, .int .i64 0, .int .i64 0, .slice none 0 0, .bool false, .bool false] 32)) := (Below.refl _ _).alloc (Nat.le_refl _) _
  have RZ := rowIs_new WA 32 [.int .i64 0, .int .i64 0, .slice none 0 0, .int .i64 0, .slice none 0 0, .int .i64 0, .slice none 0 0, .int .i64 0, .int .i64 0, .int .i64 0, .slice none 0 0, .bool false, .bool false]
  generalize hZ : WA.alloc (.cells #[.int .i64 0, .int .i64 0, .slice none 0 0, .int .i64 0, .slice none 0 0, .int .i64 0, .slice none 0 0, .int .i64 0, .int .i64 0, .int .i64 0, .slice none 0 0, .bool false, .bool false] 32) = WZ at *
  replace RA := RA.new hbZ
  rw [hsA] at RZ
  have HB := hide (bchain hbA hbZ)
  go_enter Tryz.func35, Tryz.ntmps35
  go_upto_region 1 with fail
  have HSZ : Hid (WZ.heap.size = w.heap.size + 2) := by show _ = _; rw [← hZ]; simp; omega
  clear hA hZ hsA hbA hbZ WA
  go_wp2_with (refine wpList_load_row (by rfl) 32 _ (by rfl) w.heap.size (by rfl) [.int .i64 d.reg.lim, .int .i64 d.reg.top, .slice ae d.reg.es.length pe, .int .i64 d.inr, .slice ai d.inT.length pi, .int .i64 d.outr, .slice ao d.outT.length po, .int .i64 d.get, .int .i64 d.give, .int .i64 d.first, .slice af d.flows.length pf, .bool d.away, .bool d.dead] _ 32 RA Tryz.underlying32 rfl (by kernel_rfl) ?_)
  refine (specConnOk d _ _ _ _ _ (HV.out.new HB.out)).mono ?_; rintro e w1 ⟨rfl, hb1⟩
  replace RA := RA.new hb1; replace RZ := RZ.new hb1
  have HW1 : Hid (w.heap.size + 2 ≤ w1.heap.size) := by show _ ≤ _; have := hb1.size; have := HSZ.out; omega
  replace HB := hide (bchain HB.out hb1)
  clear hb1
  cases hok : okCn d
  · have HG : Hid (givenD d id s fin = (zCn, 0)) := by show _ = _; unfold givenD; rw [if_pos hok]
    have hB2 := hide (below_setRow HB.out (show w.heap.size ≤ w.heap.size + 1 by omega) #[.int .i64 0, .int .i64 0, .slice none 0 0, .int .i64 0, .slice none 0 0, .int .i64 0, .slice none 0 0, .int .i64 0, .int .i64 0, .int .i64 0, .slice none 0 0, .bool false, .bool false])
    have RZ2 := hide (rowIs_setRow (cs' := [.int .i64 0, .int .i64 0, .slice none 0 0, .int .i64 0, .slice none 0 0, .int .i64 0, .slice none 0 0, .int .i64 0, .int .i64 0, .int .i64 0, .slice none 0 0, .bool false, .bool false]) RZ)
    go_wp2_with (refine wpList_store_row (by rfl) 32 _ _ (by rfl) (w.heap.size + 1) [.int .i64 0, .int .i64 0, .slice none 0 0, .int .i64 0, .slice none 0 0, .int .i64 0, .slice none 0 0, .int .i64 0, .int .i64 0, .int .i64 0, .slice none 0 0, .bool false, .bool false] (by rfl) (by rfl) 32 [.int .i64 0, .int .i64 0, .slice none 0 0, .int .i64 0, .slice none 0 0, .int .i64 0, .slice none 0 0, .int .i64 0, .int .i64 0, .int .i64 0, .slice none 0 0, .bool false, .bool false] RZ (by kernel_rfl) rfl (by intro u hu; simp at hu; rcases hu with rfl | rfl | rfl | rfl | rfl | rfl | rfl | rfl | rfl | rfl | rfl | rfl | rfl <;> rfl) ?_)
    generalize w1.setRow (w.heap.size + 1) #[.int .i64 0, .int .i64 0, .slice none 0 0, .int .i64 0, .slice none 0 0, .int .i64 0, .slice none 0 0, .int .i64 0, .int .i64 0, .int .i64 0, .slice none 0 0, .bool false, .bool false] = V at *
    have z0 := RowIs.cell (j := 0) RZ2.out rfl
    have z1 := RowIs.cell (j := 1) RZ2.out rfl
    have z2 := RowIs.cell (j := 2) RZ2.out rfl
    have z3 := RowIs.cell (j := 3) RZ2.out rfl
    have z4 := RowIs.cell (j := 4) RZ2.out rfl
    have z5 := RowIs.cell (j := 5) RZ2.out rfl
    have z6 := RowIs.cell (j := 6) RZ2.out rfl
    have z7 := RowIs.cell (j := 7) RZ2.out rfl
    have z8 := RowIs.cell (j := 8) RZ2.out rfl
    have z9 := RowIs.cell (j := 9) RZ2.out rfl
    have z10 := RowIs.cell (j := 10) RZ2.out rfl
    have z11 := RowIs.cell (j := 11) RZ2.out rfl
    have z12 := RowIs.cell (j := 12) RZ2.out rfl
    have zf := fun j => RowIs.frozen RZ2.out j
    refine bodyPost_ret (v := .tuple #[.agg #[.int .i64 0, .int .i64 0, .slice none 0 0, .int .i64 0, .slice none 0 0, .int .i64 0, .slice none 0 0, .int .i64 0, .int .i64 0, .int .i64 0, .slice none 0 0, .bool false, .bool false], .int .i64 0]) (by simp [results, Tryz.results35, go_sem, *]) rfl ?_
    rw [HG.out]
    exact ⟨_, rfl, zero_new V _, hB2.out⟩
  have HG : Hid (givenD d id s fin = givenRaw d id s fin) := by show _ = _; unfold givenD; rw [if_neg (by rw [hok]; decide)]
  go_wp2_with (refine wpList_load_row (by rfl) 32 _ (by rfl) w.heap.size (by rfl) [.int .i64 d.reg.lim, .int .i64 d.reg.top, .slice ae d.reg.es.length pe, .int .i64 d.inr, .slice ai d.inT.length pi, .int .i64 d.outr, .slice ao d.outT.length po, .int .i64 d.get, .int .i64 d.give, .int .i64 d.first, .slice af d.flows.length pf, .bool d.away, .bool d.dead] _ 32 RA Tryz.underlying32 rfl (by kernel_rfl) ?_)
  refine (specCopy17 d _ _ _ _ _ (HV.out.new HB.out) hok).mono ?_; rintro e w2 ⟨vc, rfl, hnc, hb2⟩
  obtain ⟨ve2, vi2, vo2, vf2, bs, rfl, hcn, hlo⟩ := hnc
  obtain ⟨ae2, pe2, rfl, _, _⟩ := hcn.rd.e.form
  obtain ⟨ai2, pi2, rfl, _, _⟩ := hcn.rd.i.form
  obtain ⟨ao2, po2, rfl, _, _⟩ := hcn.rd.o.form
  obtain ⟨af2, pf2, rfl, _, _⟩ := hcn.rd.f.form
  dsimp only [cnv]
  have hz1 : w.heap.size + 2 ≤ w1.heap.size := by exact HW1.out
  have HZ1 := hide hz1
  have hz2 := hb2.size
  replace RZ := RZ.new hb2
  replace HB := hide (bchain HB.out hb2)
  have hbO : Below w2.heap.size w2 ((w2.alloc (.cells #[.int .i64 0, .int .i64 0, .slice none 0 0, .int .i64 0, .slice none 0 0, .int .i64 0, .slice none 0 0, .int .i64 0, .int .i64 0, .int .i64 0, .slice none 0 0, .bool false, .bool false] 32)).setRow w2.heap.size #[.int .i64 d.reg.lim, .int .i64 d.reg.top, .slice ae2 d.reg.es.length pe2, .int .i64 d.inr, .slice ai2 d.inT.length pi2, .int .i64 d.outr, .slice ao2 d.outT.length po2, .int .i64 d.get, .int .i64 d.give, .int .i64 d.first, .slice af2 d.flows.length pf2, .bool d.away, .bool d.dead]) := below_setRow ((Below.refl _ _).alloc (Nat.le_refl _) _) (Nat.le_refl _) #[.int .i64 d.reg.lim, .int .i64 d.reg.top, .slice ae2 d.reg.es.length pe2, .int .i64 d.inr, .slice ai2 d.inT.length pi2, .int .i64 d.outr, .slice ao2 d.outT.length po2, .int .i64 d.get, .int .i64 d.give, .int .i64 d.first, .slice af2 d.flows.length pf2, .bool d.away, .bool d.dead]
  have RN := rowIs_new w2 32 [.int .i64 0, .int .i64 0, .slice none 0 0, .int .i64 0, .slice none 0 0, .int .i64 0, .slice none 0 0, .int .i64 0, .int .i64 0, .int .i64 0, .slice none 0 0, .bool false, .bool false]
  have HCM : Hid (CnM ((w2.alloc (.cells #[.int .i64 0, .int .i64 0, .slice none 0 0, .int .i64 0, .slice none 0 0, .int .i64 0, .slice none 0 0, .int .i64 0, .int .i64 0, .int .i64 0, .slice none 0 0, .bool false, .bool false] 32)).setRow w2.heap.size #[.int .i64 d.reg.lim, .int .i64 d.reg.top, .slice ae2 d.reg.es.length pe2, .int .i64 d.inr, .slice ai2 d.inT.length pi2, .int .i64 d.outr, .slice ao2 d.outT.length po2, .int .i64 d.get, .int .i64 d.give, .int .i64 d.first, .slice af2 d.flows.length pf2, .bool d.away, .bool d.dead]) w2.heap.size d bs) := ⟨⟨_, _, _, _, rowIs_setRow (cs' := [.int .i64 d.reg.lim, .int .i64 d.reg.top, .slice ae2 d.reg.es.length pe2, .int .i64 d.inr, .slice ai2 d.inT.length pi2, .int .i64 d.outr, .slice ao2 d.outT.length po2, .int .i64 d.get, .int .i64 d.give, .int .i64 d.first, .slice af2 d.flows.length pf2, .bool d.away, .bool d.dead]) RN, hcn.new hbO⟩, fun hx => by have := hcn.lt _ hx; omega⟩
  have HLO := hide hlo
  have HRZ := hide (RZ.new hbO)
  replace HB := hide (bchain HB.out hbO)
  clear hb2 hcn hlo RA
  go_upto_region 4 with (refine wpList_store_row (by rfl) 32 _ _ (by rfl) w2.heap.size [.int .i64 d.reg.lim, .int .i64 d.reg.top, .slice ae2 d.reg.es.length pe2, .int .i64 d.inr, .slice ai2 d.inT.length pi2, .int .i64 d.outr, .slice ao2 d.outT.length po2, .int .i64 d.get, .int .i64 d.give, .int .i64 d.first, .slice af2 d.flows.length pf2, .bool d.away, .bool d.dead] (by rfl) (by rfl) 32 [.int .i64 0, .int .i64 0, .slice none 0 0, .int .i64 0, .slice none 0 0, .int .i64 0, .slice none 0 0, .int .i64 0, .int .i64 0, .int .i64 0, .slice none 0 0, .bool false, .bool false] RN (by kernel_rfl) rfl (by intro u hu; simp at hu; rcases hu with rfl | rfl | rfl | rfl | rfl | rfl | rfl | rfl | rfl | rfl | rfl | rfl | rfl <;> rfl) ?_)
  clear RN RZ hbO
  obtain ⟨gO, hgO⟩ : ∃ q, q = w2.heap.size := ⟨_, rfl⟩
  rw [← hgO] at HCM HRZ HB
  try rw [← hgO]
  have hgO1 : w.heap.size + 2 ≤ gO := by omega
  generalize (w2.alloc (.cells #[.int .i64 0, .int .i64 0, .slice none 0 0, .int .i64 0, .slice none 0 0, .int .i64 0, .slice none 0 0, .int .i64 0, .int .i64 0, .int .i64 0, .slice none 0 0, .bool false, .bool false] 32)).setRow gO #[.int .i64 d.reg.lim, .int .i64 d.reg.top, .slice ae2 d.reg.es.length pe2, .int .i64 d.inr, .slice ai2 d.inT.length pi2, .int .i64 d.outr, .slice ao2 d.outT.length po2, .int .i64 d.get, .int .i64 d.give, .int .i64 d.first, .slice af2 d.flows.length pf2, .bool d.away, .bool d.dead] = X at *
  clear hgO hz1 hz2
  go_wp2_with fail
  refine (givenM gO d bs id s fin _ HCM.out (cn_len hok).1 (by have := (cn_len hok).2; omega) hs (fun f hf => (cn_flow hok hf).2.2.1)).mono ?_
  rintro x w4 ⟨rfl, hc4, ht4⟩
  have HNB : Hid (∀ b ∈ gO :: bs, w.heap.size + 2 ≤ b) := fun b hb => by
    rcases List.mem_cons.1 hb with e | e
    · rw [e]; exact hgO1
    · have := HLO.out b e; have := HZ1.out; omega
  replace HRZ := hide (HRZ.out.kept (ht4.block _ HRZ.out.lt (fun hx => by have := HNB.out _ hx; omega)))
  have HB4 : Hid (Below w.heap.size w w4) := ⟨ht4.os.trans HB.out.os, ht4.tape.trans HB.out.tape, ht4.output.trans HB.out.output, Nat.le_trans HB.out.size ht4.size, fun k hk => (ht4.block k (Nat.lt_of_lt_of_le hk HB.out.size) (fun hx => by have := HNB.out _ hx; omega)).trans (HB.out.block k hk)⟩
  obtain ⟨ve4, vi4, vo4, vf4, hr4, _, hcn4⟩ := hc4.handed (lo := 0) (fun b hb => Nat.zero_le _)
  obtain ⟨dd, hdd⟩ : ∃ x, (givenRaw d id s fin).1 = x := ⟨_, rfl⟩
  obtain ⟨nn, hnn⟩ : ∃ x, (givenRaw d id s fin).2 = x := ⟨_, rfl⟩
  rw [hdd] at hr4 hcn4
  have HG2 : Hid (givenD d id s fin = (dd, nn)) := by show _ = _; rw [HG.out, ← hdd, ← hnn]
  rw [hnn]
  obtain ⟨ae4, pe4, rfl, _, _⟩ := hcn4.rd.e.form
  obtain ⟨ai4, pi4, rfl, _, _⟩ := hcn4.rd.i.form
  obtain ⟨ao4, po4, rfl, _, _⟩ := hcn4.rd.o.form
  obtain ⟨af4, pf4, rfl, _, _⟩ := hcn4.rd.f.form
  have HB5 := hide (below_setRow HB4.out (show w.heap.size ≤ w.heap.size + 1 by omega) #[.int .i64 dd.reg.lim, .int .i64 dd.reg.top, .slice ae4 dd.reg.es.length pe4, .int .i64 dd.inr, .slice ai4 dd.inT.length pi4, .int .i64 dd.outr, .slice ao4 dd.outT.length po4, .int .i64 dd.get, .int .i64 dd.give, .int .i64 dd.first, .slice af4 dd.flows.length pf4, .bool dd.away, .bool dd.dead])
  have HR5 := hide (rowIs_setRow (cs' := [.int .i64 dd.reg.lim, .int .i64 dd.reg.top, .slice ae4 dd.reg.es.length pe4, .int .i64 dd.inr, .slice ai4 dd.inT.length pi4, .int .i64 dd.outr, .slice ao4 dd.outT.length po4, .int .i64 dd.get, .int .i64 dd.give, .int .i64 dd.first, .slice af4 dd.flows.length pf4, .bool dd.away, .bool dd.dead]) HRZ.out)
  have HCN5 : Hid (CnOw (w4.setRow (w.heap.size + 1) #[.int .i64 dd.reg.lim, .int .i64 dd.reg.top, .slice ae4 dd.reg.es.length pe4, .int .i64 dd.inr, .slice ai4 dd.inT.length pi4, .int .i64 dd.outr, .slice ao4 dd.outT.length po4, .int .i64 dd.get, .int .i64 dd.give, .int .i64 dd.first, .slice af4 dd.flows.length pf4, .bool dd.away, .bool dd.dead]) bs dd (.slice ae4 dd.reg.es.length pe4) (.slice ai4 dd.inT.length pi4) (.slice ao4 dd.outT.length po4) (.slice af4 dd.flows.length pf4)) := hcn4.keep (by rw [setRow_size]; exact Nat.le_refl _) (fun b hb => setRow_other _ _ _ _ (by have := HNB.out b (by simp [hb]); omega))
  have HR4 := hide hr4
  clear hc4 ht4 hr4 hcn4 hdd hnn HCM HB HB4
  go_wp2_with (first | (refine wpList_load_row (by rfl) 32 _ (by rfl) gO (by rfl) [.int .i64 dd.reg.lim, .int .i64 dd.reg.top, .slice ae4 dd.reg.es.length pe4, .int .i64 dd.inr, .slice ai4 dd.inT.length pi4, .int .i64 dd.outr, .slice ao4 dd.outT.length po4, .int .i64 dd.get, .int .i64 dd.give, .int .i64 dd.first, .slice af4 dd.flows.length pf4, .bool dd.away, .bool dd.dead] _ 32 HR4.out Tryz.underlying32 rfl (by kernel_rfl) ?_) | (refine wpList_store_row (by rfl) 32 _ _ (by rfl) (w.heap.size + 1) [.int .i64 dd.reg.lim, .int .i64 dd.reg.top, .slice ae4 dd.reg.es.length pe4, .int .i64 dd.inr, .slice ai4 dd.inT.length pi4, .int .i64 dd.outr, .slice ao4 dd.outT.length po4, .int .i64 dd.get, .int .i64 dd.give, .int .i64 dd.first, .slice af4 dd.flows.length pf4, .bool dd.away, .bool dd.dead] (by rfl) (by rfl) 32 [.int .i64 0, .int .i64 0, .slice none 0 0, .int .i64 0, .slice none 0 0, .int .i64 0, .slice none 0 0, .int .i64 0, .int .i64 0, .int .i64 0, .slice none 0 0, .bool false, .bool false] HRZ.out (by kernel_rfl) rfl (by intro u hu; simp at hu; rcases hu with rfl | rfl | rfl | rfl | rfl | rfl | rfl | rfl | rfl | rfl | rfl | rfl | rfl <;> rfl) ?_))
  generalize w4.setRow (w.heap.size + 1) #[.int .i64 dd.reg.lim, .int .i64 dd.reg.top, .slice ae4 dd.reg.es.length pe4, .int .i64 dd.inr, .slice ai4 dd.inT.length pi4, .int .i64 dd.outr, .slice ao4 dd.outT.length po4, .int .i64 dd.get, .int .i64 dd.give, .int .i64 dd.first, .slice af4 dd.flows.length pf4, .bool dd.away, .bool dd.dead] = V at *
  have z0 := RowIs.cell (j := 0) HR5.out rfl
  have z1 := RowIs.cell (j := 1) HR5.out rfl
  have z2 := RowIs.cell (j := 2) HR5.out rfl
  have z3 := RowIs.cell (j := 3) HR5.out rfl
  have z4 := RowIs.cell (j := 4) HR5.out rfl
  have z5 := RowIs.cell (j := 5) HR5.out rfl
  have z6 := RowIs.cell (j := 6) HR5.out rfl
  have z7 := RowIs.cell (j := 7) HR5.out rfl
  have z8 := RowIs.cell (j := 8) HR5.out rfl
  have z9 := RowIs.cell (j := 9) HR5.out rfl
  have z10 := RowIs.cell (j := 10) HR5.out rfl
  have z11 := RowIs.cell (j := 11) HR5.out rfl
  have z12 := RowIs.cell (j := 12) HR5.out rfl
  have zf := fun j => RowIs.frozen HR5.out j
  refine bodyPost_ret (v := .tuple #[.agg #[.int .i64 dd.reg.lim, .int .i64 dd.reg.top, .slice ae4 dd.reg.es.length pe4, .int .i64 dd.inr, .slice ai4 dd.inT.length pi4, .int .i64 dd.outr, .slice ao4 dd.outT.length po4, .int .i64 dd.get, .int .i64 dd.give, .int .i64 dd.first, .slice af4 dd.flows.length pf4, .bool dd.away, .bool dd.dead], .int .i64 nn]) (by simp [results, Tryz.results35, go_sem, *]) rfl ?_
  rw [HG2.out]
  exact ⟨_, rfl, ⟨_, _, _, _, bs, rfl, HCN5.out, fun b hb => by have := HNB.out b (by simp [hb]); omega⟩, HB5.out⟩
end Go.Proofs.YtfmeinkhdgbgjaaGreat
/- Chapter 17's model in place: a frame of a head. -/
namespace Go.Proofs.YtfmeinkhdgbgjaaGreat
open Go.RowKit
set_option maxRecDepth 100000
set_option linter.unusedSimpArgs false
set_option linter.unusedVariables false
theorem Here.open {w W : World} {g : Nat} {bs bx : List Nat} {f : Fr} {C : CnD} (h : Here w g bs f W C bx) (id : Int) (hL : C.reg.es.length ≤ 1000) :
    Calls Tryz.prog 202 #[.pointer (some ⟨g, 0, none⟩), .int .i64 id] W fun x W' => ∃ bz, x = .returned (.int .i64 (openRaw C.reg id).2) ∧ Here w g bs f W' { C with reg := (openRaw C.reg id).1 } bz ∧ TurnB (g :: bx) W W' ∧ NewB W bx bz := by
  obtain ⟨ve, A, hr, hsub, hput⟩ := h.c.reg
  refine (openM g 0 _ [] A ve C.reg id W hr hL).mono ?_
  rintro x W' ⟨ve', rfl, hr', ht, hnw⟩
  obtain ⟨bz, hc, hb⟩ := hput W' _ ve' hr' ht hnw
  have ht' : TurnB (g :: bx) W W' := ht.wide (fun x hx => by rcases List.mem_cons.1 hx with rfl | hx; simp; simp [hsub x hx])
  exact ⟨bz, rfl, h.turn hc ht' hb, ht', hb⟩
end Go.Proofs.YtfmeinkhdgbgjaaGreat
/- The program's link in a block: one more Flow, other Flows, the last frame told marked as the end. -/
namespace Go.Proofs.YtfmeinkhdgbgjaaGreat
open Go.RowKit
set_option maxRecDepth 100000
set_option linter.unusedSimpArgs false
set_option linter.unusedVariables false
section
variable {w w' W W' : World} {lo g : Nat} {d d' : CnD} {L L' : List Fr} {bs bx by_ vb : List Nat}
theorem Lnk.wide (h : Lnk lo g w bs W d L bx) : Lnk lo g w (bs ++ vb) W d L bx :=
  ⟨h.m, h.t.wide (fun x hx => by rcases List.mem_cons.1 hx with e | e <;> simp [e]), fun b hb => (h.n b hb).imp (List.mem_append_left _) id⟩
/-- A row apart from the link stays so behind a step. -/
theorem Lnk.apart {q : Nat} (h : Lnk lo g w bs W d L bx) (hq : q < w.heap.size) (hn : q ∉ g :: bs) : q ∉ g :: bx := fun hx => by
  rcases List.mem_cons.1 hx with e | e
  · exact hn (by simp [e])
  · rcases h.n q e with e | e
    · exact hn (by simp [e])
    · omega
theorem LkM.grow (h : LkM w lo g d L bs) :
    ∃ ve vi vo a p tv xs, RowIs w g 84 (lkcs d ve vi vo (.slice a d.flows.length p) tv) ∧ w.ownsRow 0 57 15 (.slice a d.flows.length p) d.flows.length xs ∧ (∀ q, (Value.slice a d.flows.length p).ownBlock = some q → q ∈ bs) ∧
      ∀ (w1 : World) (v' : Value) (f : FlD) (vq : Value) (b : List Nat), flowS.own w (flcs f vq) f b → b.Nodup → (∀ q ∈ b, q ∉ g :: bs ∧ lo ≤ q) → w1.ownsRow 0 57 15 v' (d.flows.length + 1) (xs ++ flcs f vq) → w.grownBy w1 (Value.slice a d.flows.length p).ownBlock → (v'.ownBlock = (Value.slice a d.flows.length p).ownBlock ∨ v'.ownBlock = some w.heap.size) →
        ∃ bx, Lnk lo g w (bs ++ b) (w1.setCell ⟨g, 10, none⟩ v') { d with flows := d.flows ++ [f] } L bx := by
  have hlts := h.lt
  have hbs0 := h.base
  obtain ⟨⟨ve, vi, vo, vf, tv, cb, hrow, ⟨⟨be, bi, bo, bf, h1, h2, h3, h4, rfl⟩, hn⟩, h5, h6, h7⟩, hl, hlo, hng, hbs⟩ := h
  obtain ⟨a, p, hvf, _, _⟩ := h4.rd.form
  subst hvf
  have hnf : bf.Nodup := nodup_right hn
  obtain ⟨xs, hxs, hgrow⟩ := h4.grow hnf
  have hvb : ∀ q, (Value.slice a d.flows.length p).ownBlock = some q → q ∈ bf := fun q hq => by
    obtain ⟨ts, _, _, _, rfl⟩ := h4
    simp [hq]
  refine ⟨ve, vi, vo, a, p, tv, xs, hrow, hxs, fun q hq => h6 q (by simp [hvb q hq]), fun w1 v' f vq b hx hbn hbd ho' hg hat => ?_⟩
  obtain ⟨bf', hO, hn', hsub⟩ := hgrow w1 v' (flcs f vq) f b hx hbn (fun q hq hq2 => (hbd q hq).1 (by simp [h6 q (by simp [hq2])])) ho' hg hat
  have hk1 : ∀ x, x < w.heap.size → x ∉ bf → w1.heap[x]? = w.heap[x]? := fun x hx hx2 => hg.block x hx (fun e => hx2 (hvb x e.symm))
  have hgb : g ∉ bf := fun e => hng (h6 g (by simp [e]))
  have hap : ∀ x ∈ be ++ bi ++ bo, x ∉ bf := nodup_apart hn
  have hgl : g < w.heap.size := hl g (by simp)
  have hcl : ∀ x ∈ be ++ bi ++ bo ++ bf, x < w.heap.size := fun x hx => hl x (by simp [h6 x hx])
  have hgs : (w1.setCell ⟨g, 10, none⟩ v').heap.size = w1.heap.size := by simp
  have hk2 : ∀ x, x ≠ g → (w1.setCell ⟨g, 10, none⟩ v').heap[x]? = w1.heap[x]? := fun x hx => Below.heap_setCell _ _ _ x (show x ≠ g from hx)
  have hk3 : ∀ x ∈ be ++ bi ++ bo, (w1.setCell ⟨g, 10, none⟩ v').heap[x]? = w.heap[x]? := fun x hx => (hk2 x (fun e => hng (by rw [← e]; exact h6 x (List.mem_append_left _ hx)))).trans (hk1 x (hcl x (List.mem_append_left _ hx)) (hap x hx))
  have hgf : g ∉ bf' := fun e => by
    rcases hsub g e with e | e | e
    · exact hgb e
    · exact (hbd g e).1 (by simp)
    · omega
  have hg2 := hg.size
  have hs : w.heap.size ≤ (w1.setCell ⟨g, 10, none⟩ v').heap.size := by rw [hgs]; omega
  have hrow1 : RowIs w1 g 84 (lkcs d ve vi vo (.slice a d.flows.length p) tv) := hrow.kept (hk1 g hgl hgb)
  have hbl : ∀ q ∈ b, q < w.heap.size := fun q hq => flowS.own_lt hx q hq
  refine ⟨bs ++ bf', ⟨⟨ve, vi, vo, v', tv, be ++ bi ++ bo ++ bf', hrow1.set 10 v', ⟨⟨be, bi, bo, bf', h1.keep hs (fun b hb => hk3 b (by simp [hb])), h2.keep hs (fun b hb => hk3 b (by simp [hb])), h3.keep hs (fun b hb => hk3 b (by simp [hb])), hO.keep (by simp) (fun b hb => hk2 b (fun e => hgf (e ▸ hb))), rfl⟩, ?_⟩, ?_, ?_, ?_⟩, ?_, ?_, ?_, ?_⟩, ?_, ?_⟩
  · refine nodup_mk (nodup_left hn) hn' fun x hx hx2 => ?_
    rcases hsub x hx2 with e | e | e
    · exact hap x hx e
    · exact (hbd x e).1 (List.mem_cons_of_mem _ (h6 x (List.mem_append_left _ hx)))
    · have := hcl x (List.mem_append_left _ hx); omega
  · exact owns_kept h5 (fun q hq hq2 => (hk2 q (fun e => hng (e ▸ (h7 q hq).1))).trans (hk1 q hq2 (fun e => (h7 q hq).2 (List.mem_append_right _ e))))
  · intro x hx
    rcases List.mem_append.1 hx with e | e
    · exact List.mem_append_left _ (h6 x (List.mem_append_left _ e))
    · exact List.mem_append_right _ e
  · intro q hq
    refine ⟨List.mem_append_left _ (h7 q hq).1, fun hx => ?_⟩
    rcases List.mem_append.1 hx with e | e
    · exact (h7 q hq).2 (List.mem_append_left _ e)
    · rcases hsub q e with e | e | e
      · exact (h7 q hq).2 (List.mem_append_right _ e)
      · exact (hbd q e).1 (by simp [(h7 q hq).1])
      · have := hl q (by simp [(h7 q hq).1]); omega
  · intro x hx
    rw [hgs]
    rcases List.mem_cons.1 hx with e | e
    · omega
    · rcases List.mem_append.1 e with e | e
      · have := hl x (by simp [e]); omega
      · exact hO.lt x e
  · intro x hx
    rcases List.mem_append.1 hx with e | e
    · exact hlo x e
    · rcases hsub x e with e | e | e
      · exact hlo x (h6 x (by simp [e]))
      · exact (hbd x e).2
      · omega
  · intro hx
    rcases List.mem_append.1 hx with e | e
    · exact hng e
    · exact hgf e
  · rw [hgs]; omega
  · refine ⟨hg.os, hg.tape, hg.output, hs, fun k hk hk2' => ?_⟩
    exact (hk2 k (fun e => hk2' (by simp [e]))).trans (hk1 k hk (fun e => hk2' (by simp [h6 k (by simp [e])])))
  · intro x hx
    rcases List.mem_append.1 hx with e | e
    · exact .inl (by simp [e])
    · rcases hsub x e with e | e | e
      · exact .inl (by simp [h6 x (by simp [e])])
      · exact .inl (by simp [e])
      · exact .inr (by omega)
end
end Go.Proofs.YtfmeinkhdgbgjaaGreat
