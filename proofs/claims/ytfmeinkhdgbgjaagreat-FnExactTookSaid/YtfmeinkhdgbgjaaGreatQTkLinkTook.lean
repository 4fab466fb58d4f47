/- The program's Took. -/
import Derived.Test.YtfmeinkhdgbgjaaGreatQTkLinkGiven
import Derived.Test.YtfmeinkhdgbgjaaGreatQTkG27
import Derived.Test.YtfmeinkhdgbgjaaGreatQTkG21
namespace Go.Proofs.YtfmeinkhdgbgjaaGreat
open Go.RowKit
set_option maxRecDepth 100000
set_option linter.unusedSimpArgs false
set_option linter.unusedVariables false
theorem took_run {c : CnD} {id n : Int} {k : Nat} {t9 : TuD} {s9 : ByteArray} (hok : okCn c = true) (h : atE c.reg.es id = some k) (h1 : k < c.flows.length) (h2 : k < c.reg.es.length) (hd : c.dead = false)
    (ho : outTu c.flows[k].tun (min (min n (16777215 - c.get)) (16777215 - c.flows[k].get)) = (t9, s9)) :
    (s9.size ≤ 16777215 ∧ c.get + s9.size ≤ 16777215 ∧ c.flows[k].get + s9.size ≤ 16777215 ∧ t9.up.b.size ≤ 16777215 ∧ t9.dn.b.size ≤ 16777215) ∧
    tookRaw c id n = (let c1 : CnD := { c with flows := c.flows.set k { c.flows[k] with tun := t9 } }
      let g1 := if c.reg.es[k].state = 4 then (c1, []) else grantD c1 id s9.size
      ((grantD g1.1 0 s9.size).1, g1.2 ++ (grantD g1.1 0 s9.size).2, s9)) := by
  have hff := cn_flow hok (List.getElem_mem h1)
  have hwins := (cn_wins hok).1
  have hr : min n (max 0 (16777215 - max c.get c.flows[k].get)) = min (min n (16777215 - c.get)) (16777215 - c.flows[k].get) := by omega
  have htk := (took_some (n := n) h h1 h2 hd).resolve_right (by intro e; rw [hff.2.2.1] at e; cases e)
  dsimp only at htk
  rw [hr] at htk
  generalize hq : min (min n (16777215 - c.get)) (16777215 - c.flows[k].get) = q at *
  have ht := ho
  unfold outTu at ht
  rw [if_neg (by rw [hff.2.2.1]; decide)] at ht
  obtain ⟨e1, e2⟩ := Prod.mk.inj ht
  obtain ⟨y1, y2, y3, y4⟩ := okTu_true hff.2.2.1
  have hpp := okPp_true y1
  have hpd := okPp_true y2
  have hm : (outN c.flows[k].tun q : Int) ≤ max 0 q ∧ outN c.flows[k].tun q ≤ c.flows[k].tun.up.b.size := by unfold outN; omega
  have hs : s9.size = outN c.flows[k].tun q := by rw [← e2, ByteArray.size_extract]; omega
  refine ⟨⟨by omega, by omega, by omega, ?_, ?_⟩, ?_⟩
  · rw [← e1]; show (ByteArray.extract _ _ _).size ≤ _; rw [ByteArray.size_extract]; omega
  · rw [← e1]; show c.flows[k].tun.dn.b.size ≤ _; omega
  · rw [htk, ho, e2]
set_option maxHeartbeats 16000000 in
theorem implTook (d : CnD) (ve vi vo vf : Value) (id n : Int) (w : World) (hv : CnRd w d ve vi vo vf) :
    Calls Tryz.prog 28 #[cnv d ve vi vo vf, .int .i64 id, .int .i64 n] w fun x w' => ∃ v vfr, x = .returned (.tuple #[v, vfr, .string (tookD d id n).2.2]) ∧ FaceF w.heap.size ((tookD d id n).1, (tookD d id n).2.1) v vfr w' ∧ Below w.heap.size w w' := by
  have HV := hide hv
  obtain ⟨ae, pe, rfl, _, _⟩ := hv.e.form
  obtain ⟨ai, pi, rfl, _, _⟩ := hv.i.form
  obtain ⟨ao, po, rfl, _, _⟩ := hv.o.form
  obtain ⟨af, pf, rfl, _, _⟩ := hv.f.form
  clear hv
  have hbA : Below w.heap.size w ((w.alloc (.cells #[.int .i64 d.reg.lim, .int .i64 d.reg.top, .slice ae d.reg.es.length pe, .int .i64 d.inr, .slice ai d.inT.length pi, .int .i64 d.outr, .slice ao d.outT.length po, .int .i64 d.get, .int .i64 d.give, .int .i64 d.first, .slice af d.flows.length pf, .bool d.away, .bool d.dead] 32)).alloc (.cells #[.int .i64 0, .int .i64 0, .slice none 0 0, .int .i64 0, .slice none 0 0, .int .i64 0, .slice none 0 0, .int .i64 0, .int .i64 0, .int .i64 0, .slice none 0 0, .bool false, .bool false] 32)) := ((Below.refl _ _).alloc (Nat.le_refl _) _).alloc (by simp) _
  have RA := (rowIs_new w 32 [.int .i64 d.reg.lim, .int .i64 d.reg.top, .slice ae d.reg.es.length pe, .int .i64 d.inr, .slice ai d.inT.length pi, .int .i64 d.outr, .slice ao d.outT.length po, .int .i64 d.get, .int .i64 d.give, .int .i64 d.first, .slice af d.flows.length pf, .bool d.away, .bool d.dead]).alloc (.cells #[.int .i64 0, .int .i64 0, .slice none 0 0, .int .i64 0, .slice none 0 0, .int .i64 0, .slice none 0 0, .int .i64 0, .int .i64 0, .int .i64 0, .slice none 0 0, .bool false, .bool false] 32)
  have RZ := rowIs_new (w.alloc (.cells #[.int .i64 d.reg.lim, .int .i64 d.reg.top, .slice ae d.reg.es.length pe, .int .i64 d.inr, .slice ai d.inT.length pi, .int .i64 d.outr, .slice ao d.outT.length po, .int .i64 d.get, .int .i64 d.give, .int .i64 d.first, .slice af d.flows.length pf, .bool d.away, .bool d.dead] 32)) 32 [.int .i64 0, .int .i64 0, .slice none 0 0, .int .i64 0, .slice none 0 0, .int .i64 0, .slice none 0 0, .int .i64 0, .int .i64 0, .int .i64 0, .slice none 0 0, .bool false, .bool false]
  have hsz : (w.alloc (.cells #[.int .i64 d.reg.lim, .int .i64 d.reg.top, .slice ae d.reg.es.length pe, .int .i64 d.inr, .slice ai d.inT.length pi, .int .i64 d.outr, .slice ao d.outT.length po, .int .i64 d.get, .int .i64 d.give, .int .i64 d.first, .slice af d.flows.length pf, .bool d.away, .bool d.dead] 32)).heap.size = w.heap.size + 1 := by simp
  have hsz3 : ((w.alloc (.cells #[.int .i64 d.reg.lim, .int .i64 d.reg.top, .slice ae d.reg.es.length pe, .int .i64 d.inr, .slice ai d.inT.length pi, .int .i64 d.outr, .slice ao d.outT.length po, .int .i64 d.get, .int .i64 d.give, .int .i64 d.first, .slice af d.flows.length pf, .bool d.away, .bool d.dead] 32)).alloc (.cells #[.int .i64 0, .int .i64 0, .slice none 0 0, .int .i64 0, .slice none 0 0, .int .i64 0, .slice none 0 0, .int .i64 0, .int .i64 0, .int .i64 0, .slice none 0 0, .bool false, .bool false] 32)).heap.size = w.heap.size + 2 := by simp
  rw [hsz] at RZ
  obtain ⟨V, hV⟩ : ∃ V, (w.alloc (.cells #[.int .i64 d.reg.lim, .int .i64 d.reg.top, .slice ae d.reg.es.length pe, .int .i64 d.inr, .slice ai d.inT.length pi, .int .i64 d.outr, .slice ao d.outT.length po, .int .i64 d.get, .int .i64 d.give, .int .i64 d.first, .slice af d.flows.length pf, .bool d.away, .bool d.dead] 32)).alloc (.cells #[.int .i64 0, .int .i64 0, .slice none 0 0, .int .i64 0, .slice none 0 0, .int .i64 0, .slice none 0 0, .int .i64 0, .int .i64 0, .int .i64 0, .slice none 0 0, .bool false, .bool false] 32) = V := ⟨_, rfl⟩
  rw [hV] at hbA RA RZ hsz3
  have HB := hide hbA
  have HS3 := hide hsz3
  clear hsz hsz3 hbA
  go_enter Tryz.func28, Tryz.ntmps28
  go_upto_region 1 with fail
  try rw [hV]
  clear hV
  go_cut [9, 10] (fun p y wc => ∃ g D bs, p = .pointer (some ⟨g, 0, none⟩) ∧ y = .bool (okCn d && !d.dead) ∧ Hid (LkM wc w.heap.size g D [] bs) ∧ Hid (RowIs wc (w.heap.size + 1) 32 [.int .i64 0, .int .i64 0, .slice none 0 0, .int .i64 0, .slice none 0 0, .int .i64 0, .slice none 0 0, .int .i64 0, .int .i64 0, .int .i64 0, .slice none 0 0, .bool false, .bool false] ) ∧ Hid (Below w.heap.size w wc) ∧ Hid (D = if okCn d then d else zCn) ∧ Hid (∀ b ∈ g :: bs, w.heap.size + 2 ≤ b))
  case first =>
    cases hok : okCn d
    · go_wp2_with (refine wpList_load_row (by rfl) 32 _ (by rfl) w.heap.size (by rfl) [.int .i64 d.reg.lim, .int .i64 d.reg.top, .slice ae d.reg.es.length pe, .int .i64 d.inr, .slice ai d.inT.length pi, .int .i64 d.outr, .slice ao d.outT.length po, .int .i64 d.get, .int .i64 d.give, .int .i64 d.first, .slice af d.flows.length pf, .bool d.away, .bool d.dead] _ 32 RA Tryz.underlying32 rfl (by kernel_rfl) ?_)
      refine (implLinkNo d _ _ _ _ _ (HV.out.new HB.out) hok).mono ?_; rintro e w1 ⟨rfl, hb1⟩
      have hz1 := hb1.size
      have HLM := hide (lkM_new (cnow_zero w1) (lo := w.heap.size) (fun b hb => by cases hb) (by have := HS3.out; omega))
      have hbx : Below w1.heap.size w1 (w1.alloc (.cells (lkcs zCn (.slice none 0 0) (.slice none 0 0) (.slice none 0 0) (.slice none 0 0) (.slice none 0 0)).toArray 84)) := (Below.refl _ _).alloc (Nat.le_refl _) _
      have HZ1 := hide ((RZ.new hb1).new hbx)
      have HB1 := hide (bchain (bchain HB.out hb1) hbx)
      have HK1 : Hid (∀ b ∈ w1.heap.size :: ([] : List Nat), w.heap.size + 2 ≤ b) := fun b hb => by simp at hb; have := HS3.out; omega
      clear hb1 hbx RA RZ HB hz1
      go_wp2_with fail
      go_meet
      exact ⟨_, _, _, rfl, (by rw [hok]; rfl), HLM, HZ1, HB1, (by show _ = _; rw [hok]; rfl), HK1⟩
    · go_wp2_with (refine wpList_load_row (by rfl) 32 _ (by rfl) w.heap.size (by rfl) [.int .i64 d.reg.lim, .int .i64 d.reg.top, .slice ae d.reg.es.length pe, .int .i64 d.inr, .slice ai d.inT.length pi, .int .i64 d.outr, .slice ao d.outT.length po, .int .i64 d.get, .int .i64 d.give, .int .i64 d.first, .slice af d.flows.length pf, .bool d.away, .bool d.dead] _ 32 RA Tryz.underlying32 rfl (by kernel_rfl) ?_)
      refine (implLinkOf d _ _ _ _ _ (HV.out.new HB.out) hok).mono ?_; rintro e w1 ⟨v1, v2, v3, v4, bs, rfl, hcn, hlo, hb1⟩
      obtain ⟨a1, p1, rfl, _, _⟩ := hcn.rd.e.form
      obtain ⟨a2, p2, rfl, _, _⟩ := hcn.rd.i.form
      obtain ⟨a3, p3, rfl, _, _⟩ := hcn.rd.o.form
      obtain ⟨a4, p4, rfl, _, _⟩ := hcn.rd.f.form
      have hz1 := hb1.size
      have HLM := hide (lkM_new hcn (lo := w.heap.size) (fun b hb => by have := hlo b hb; have := HS3.out; omega) (by have := HS3.out; omega))
      have hbx : Below w1.heap.size w1 (w1.alloc (.cells (lkcs d (.slice a1 d.reg.es.length p1) (.slice a2 d.inT.length p2) (.slice a3 d.outT.length p3) (.slice a4 d.flows.length p4) (.slice none 0 0)).toArray 84)) := (Below.refl _ _).alloc (Nat.le_refl _) _
      have HZ1 := hide ((RZ.new hb1).new hbx)
      have HB1 := hide (bchain (bchain HB.out hb1) hbx)
      have HK1 : Hid (∀ b ∈ w1.heap.size :: bs, w.heap.size + 2 ≤ b) := fun b hb => by
        have h3 := HS3.out
        rcases List.mem_cons.1 hb with e | e
        · omega
        · have := hlo b e; omega
      clear hb1 hbx RA RZ HB hz1 hcn hlo
      go_wp2_with fail
      go_meet
      exact ⟨_, _, _, rfl, (by rw [hok]; rfl), HLM, HZ1, HB1, (by show _ = _; rw [hok]; rfl), HK1⟩
  obtain ⟨g, D, bs, rfl, rfl, HLM, HRZ, HB, HDD, HBK⟩ := hcut
  clear RA RZ HS3 HV
  obtain ⟨M, hM⟩ : ∃ M : List Fr, M = [] := ⟨_, rfl⟩
  rw [← hM] at HLM
  have HM0 := hide hM
  clear hM
  cases hok : okCn d
  · have HGD : Hid (tookD d id n = (D, ([] : List Fr), (⟨#[]⟩ : ByteArray))) := by
      show _ = _
      rw [HDD.out, hok]; unfold tookD; rw [if_pos hok]; rfl
    have hD0 : D = zCn := by rw [HDD.out, hok]; rfl
    have ha : atE D.reg.es id = none := by rw [hD0]; rfl
    have h60 : D.reg.es.length ≤ 60 := by rw [hD0]; exact Nat.zero_le _
    have HA := hide ha; have H60 := hide h60
    have hm := HLM.out
    clear HDD hD0 hok ha h60
    go_wp2_with fail
    refine (implFlowNone w.heap.size g D M bs id _ hm H60.out HA.out).mono ?_; rintro e w2 ⟨rfl, hb2⟩
    replace HLM := hide (HLM.out.new hb2)
    replace HRZ := hide (HRZ.out.new hb2)
    replace HB := hide (bchain HB.out hb2)
    clear hb2 hm
    obtain ⟨⟨ve9, vi9, vo9, vf9, tv9, cb9, hrow, hcn, hfr, hsub, htv⟩, hlt9, hlo9, hng9, hbs9⟩ := HLM.out
    obtain ⟨a1, p1, rfl, _, _⟩ := hcn.rd.e.form
    obtain ⟨a2, p2, rfl, _, _⟩ := hcn.rd.i.form
    obtain ⟨a3, p3, rfl, _, _⟩ := hcn.rd.o.form
    obtain ⟨a4, p4, rfl, _, _⟩ := hcn.rd.f.form
    obtain ⟨a5, p5, rfl, _, _⟩ := owns_form hfr
    have HPM := hide (⟨hrow, rfl⟩ : MidIs w2 g 84 [] [.slice a5 M.length p5] 0 [.int .i64 D.reg.lim, .int .i64 D.reg.top, .slice a1 D.reg.es.length p1, .int .i64 D.inr, .slice a2 D.inT.length p2, .int .i64 D.outr, .slice a3 D.outT.length p3, .int .i64 D.get, .int .i64 D.give, .int .i64 D.first, .slice a4 D.flows.length p4, .bool D.away, .bool D.dead])
    have HCN := hide hcn
    have HSL : Hid (∀ b ∈ cb9, w.heap.size + 2 ≤ b) := fun b hb => HBK.out b (by simp [hsub b hb])
    clear hrow hcn hfr hsub htv hlt9 hlo9 hng9 hbs9 HLM
    have RZ2 := hide (rowIs_setRow (cs' := [.int .i64 D.reg.lim, .int .i64 D.reg.top, .slice a1 D.reg.es.length p1, .int .i64 D.inr, .slice a2 D.inT.length p2, .int .i64 D.outr, .slice a3 D.outT.length p3, .int .i64 D.get, .int .i64 D.give, .int .i64 D.first, .slice a4 D.flows.length p4, .bool D.away, .bool D.dead]) HRZ.out)
    have HB2 := hide (below_setRow HB.out (show w.heap.size ≤ w.heap.size + 1 by omega) #[.int .i64 D.reg.lim, .int .i64 D.reg.top, .slice a1 D.reg.es.length p1, .int .i64 D.inr, .slice a2 D.inT.length p2, .int .i64 D.outr, .slice a3 D.outT.length p3, .int .i64 D.get, .int .i64 D.give, .int .i64 D.first, .slice a4 D.flows.length p4, .bool D.away, .bool D.dead])
    have HCN2 := hide (HCN.out.keep (w' := w2.setRow (w.heap.size + 1) #[.int .i64 D.reg.lim, .int .i64 D.reg.top, .slice a1 D.reg.es.length p1, .int .i64 D.inr, .slice a2 D.inT.length p2, .int .i64 D.outr, .slice a3 D.outT.length p3, .int .i64 D.get, .int .i64 D.give, .int .i64 D.first, .slice a4 D.flows.length p4, .bool D.away, .bool D.dead]) (by rw [setRow_size]; exact Nat.le_refl _) (fun b hb => setRow_other _ _ _ _ (by have := HSL.out b hb; omega)))
    go_wp2_with (first | (refine wpList_load_mid (by rfl) 32 _ (by rfl) g 0 (by rfl) [.int .i64 D.reg.lim, .int .i64 D.reg.top, .slice a1 D.reg.es.length p1, .int .i64 D.inr, .slice a2 D.inT.length p2, .int .i64 D.outr, .slice a3 D.outT.length p3, .int .i64 D.get, .int .i64 D.give, .int .i64 D.first, .slice a4 D.flows.length p4, .bool D.away, .bool D.dead] _ (fun j u hu => HPM.out.cell hu) Tryz.underlying32 rfl (by kernel_rfl) ?_) | (refine wpList_store_row (by rfl) 32 _ _ (by rfl) (w.heap.size + 1) [.int .i64 D.reg.lim, .int .i64 D.reg.top, .slice a1 D.reg.es.length p1, .int .i64 D.inr, .slice a2 D.inT.length p2, .int .i64 D.outr, .slice a3 D.outT.length p3, .int .i64 D.get, .int .i64 D.give, .int .i64 D.first, .slice a4 D.flows.length p4, .bool D.away, .bool D.dead] (by rfl) (by rfl) 32 [.int .i64 0, .int .i64 0, .slice none 0 0, .int .i64 0, .slice none 0 0, .int .i64 0, .slice none 0 0, .int .i64 0, .int .i64 0, .int .i64 0, .slice none 0 0, .bool false, .bool false] HRZ.out (by kernel_rfl) rfl (by intro u hu; simp at hu; rcases hu with rfl | rfl | rfl | rfl | rfl | rfl | rfl | rfl | rfl | rfl | rfl | rfl | rfl <;> rfl) ?_))
    generalize w2.setRow (w.heap.size + 1) #[.int .i64 D.reg.lim, .int .i64 D.reg.top, .slice a1 D.reg.es.length p1, .int .i64 D.inr, .slice a2 D.inT.length p2, .int .i64 D.outr, .slice a3 D.outT.length p3, .int .i64 D.get, .int .i64 D.give, .int .i64 D.first, .slice a4 D.flows.length p4, .bool D.away, .bool D.dead] = V2 at *
    have z0 := RowIs.cell (j := 0) RZ2.out rfl
    have z1 := RowIs.cell (j := 1) RZ2.out rfl
    have z2 := RowIs.cell (j := 2) RZ2.out rfl
    have z3 := RowIs.cell (j := 3) RZ2.out rfl
    have z4 := RowIs.cell (j := 4) RZ2.out rfl
    have z5 := RowIs.cell (j := 5) RZ2.out rfl
    have z6 := RowIs.cell (j := 6) RZ2.out rfl
    have z7 := RowIs.cell (j := 7) RZ2.out rfl
    have z8 := RowIs.cell (j := 8) RZ2.out rfl
    have z9 := RowIs.cell (j := 9) RZ2.out rfl
    have z10 := RowIs.cell (j := 10) RZ2.out rfl
    have z11 := RowIs.cell (j := 11) RZ2.out rfl
    have z12 := RowIs.cell (j := 12) RZ2.out rfl
    have zf := fun j => RowIs.frozen RZ2.out j
    refine bodyPost_ret (v := .tuple #[.agg #[.int .i64 D.reg.lim, .int .i64 D.reg.top, .slice a1 D.reg.es.length p1, .int .i64 D.inr, .slice a2 D.inT.length p2, .int .i64 D.outr, .slice a3 D.outT.length p3, .int .i64 D.get, .int .i64 D.give, .int .i64 D.first, .slice a4 D.flows.length p4, .bool D.away, .bool D.dead], .slice none 0 0, .string ⟨#[]⟩]) (by simp [results, Tryz.results28, go_sem, *]) rfl ?_
    rw [HGD.out]
    exact ⟨_, _, rfl, ⟨_, _, _, _, cb9, rfl, HCN2.out, fun b hb => by have := HSL.out b hb; omega, World.ownsRow_nil _ _ _ _, fun q hq => by simp [Value.ownBlock] at hq⟩, HB2.out⟩
  have hD0 : D = d := by rw [HDD.out, hok]; rfl
  subst hD0
  have HTR : Hid (tookD D id n = tookRaw D id n) := by show _ = _; unfold tookD; rw [if_neg (by rw [hok]; decide)]
  have HLEN := hide (cn_len hok)
  have HOK := hide hok
  clear HDD
  cases ha : atE D.reg.es id with
  | none =>
    have HGD : Hid (tookD D id n = (D, ([] : List Fr), (⟨#[]⟩ : ByteArray))) := by
      show _ = _
      rw [HTR.out, took_none ha]
    have HA := hide ha
    have hm := HLM.out
    clear ha hok
    generalize (true && !D.dead) = al
    cases al
    · skip
      go_wp2_with fail
      refine (implFlowNone w.heap.size g D M bs id _ hm HLEN.out.2 HA.out).mono ?_; rintro e w2 ⟨rfl, hb2⟩
      replace HLM := hide (HLM.out.new hb2)
      replace HRZ := hide (HRZ.out.new hb2)
      replace HB := hide (bchain HB.out hb2)
      clear hb2 hm
      obtain ⟨⟨ve9, vi9, vo9, vf9, tv9, cb9, hrow, hcn, hfr, hsub, htv⟩, hlt9, hlo9, hng9, hbs9⟩ := HLM.out
      obtain ⟨a1, p1, rfl, _, _⟩ := hcn.rd.e.form
      obtain ⟨a2, p2, rfl, _, _⟩ := hcn.rd.i.form
      obtain ⟨a3, p3, rfl, _, _⟩ := hcn.rd.o.form
      obtain ⟨a4, p4, rfl, _, _⟩ := hcn.rd.f.form
      obtain ⟨a5, p5, rfl, _, _⟩ := owns_form hfr
      have HPM := hide (⟨hrow, rfl⟩ : MidIs w2 g 84 [] [.slice a5 M.length p5] 0 [.int .i64 D.reg.lim, .int .i64 D.reg.top, .slice a1 D.reg.es.length p1, .int .i64 D.inr, .slice a2 D.inT.length p2, .int .i64 D.outr, .slice a3 D.outT.length p3, .int .i64 D.get, .int .i64 D.give, .int .i64 D.first, .slice a4 D.flows.length p4, .bool D.away, .bool D.dead])
      have HCN := hide hcn
      have HSL : Hid (∀ b ∈ cb9, w.heap.size + 2 ≤ b) := fun b hb => HBK.out b (by simp [hsub b hb])
      clear hrow hcn hfr hsub htv hlt9 hlo9 hng9 hbs9 HLM
      have RZ2 := hide (rowIs_setRow (cs' := [.int .i64 D.reg.lim, .int .i64 D.reg.top, .slice a1 D.reg.es.length p1, .int .i64 D.inr, .slice a2 D.inT.length p2, .int .i64 D.outr, .slice a3 D.outT.length p3, .int .i64 D.get, .int .i64 D.give, .int .i64 D.first, .slice a4 D.flows.length p4, .bool D.away, .bool D.dead]) HRZ.out)
      have HB2 := hide (below_setRow HB.out (show w.heap.size ≤ w.heap.size + 1 by omega) #[.int .i64 D.reg.lim, .int .i64 D.reg.top, .slice a1 D.reg.es.length p1, .int .i64 D.inr, .slice a2 D.inT.length p2, .int .i64 D.outr, .slice a3 D.outT.length p3, .int .i64 D.get, .int .i64 D.give, .int .i64 D.first, .slice a4 D.flows.length p4, .bool D.away, .bool D.dead])
      have HCN2 := hide (HCN.out.keep (w' := w2.setRow (w.heap.size + 1) #[.int .i64 D.reg.lim, .int .i64 D.reg.top, .slice a1 D.reg.es.length p1, .int .i64 D.inr, .slice a2 D.inT.length p2, .int .i64 D.outr, .slice a3 D.outT.length p3, .int .i64 D.get, .int .i64 D.give, .int .i64 D.first, .slice a4 D.flows.length p4, .bool D.away, .bool D.dead]) (by rw [setRow_size]; exact Nat.le_refl _) (fun b hb => setRow_other _ _ _ _ (by have := HSL.out b hb; omega)))
      go_wp2_with (first | (refine wpList_load_mid (by rfl) 32 _ (by rfl) g 0 (by rfl) [.int .i64 D.reg.lim, .int .i64 D.reg.top, .slice a1 D.reg.es.length p1, .int .i64 D.inr, .slice a2 D.inT.length p2, .int .i64 D.outr, .slice a3 D.outT.length p3, .int .i64 D.get, .int .i64 D.give, .int .i64 D.first, .slice a4 D.flows.length p4, .bool D.away, .bool D.dead] _ (fun j u hu => HPM.out.cell hu) Tryz.underlying32 rfl (by kernel_rfl) ?_) | (refine wpList_store_row (by rfl) 32 _ _ (by rfl) (w.heap.size + 1) [.int .i64 D.reg.lim, .int .i64 D.reg.top, .slice a1 D.reg.es.length p1, .int .i64 D.inr, .slice a2 D.inT.length p2, .int .i64 D.outr, .slice a3 D.outT.length p3, .int .i64 D.get, .int .i64 D.give, .int .i64 D.first, .slice a4 D.flows.length p4, .bool D.away, .bool D.dead] (by rfl) (by rfl) 32 [.int .i64 0, .int .i64 0, .slice none 0 0, .int .i64 0, .slice none 0 0, .int .i64 0, .slice none 0 0, .int .i64 0, .int .i64 0, .int .i64 0, .slice none 0 0, .bool false, .bool false] HRZ.out (by kernel_rfl) rfl (by intro u hu; simp at hu; rcases hu with rfl | rfl | rfl | rfl | rfl | rfl | rfl | rfl | rfl | rfl | rfl | rfl | rfl <;> rfl) ?_))
      generalize w2.setRow (w.heap.size + 1) #[.int .i64 D.reg.lim, .int .i64 D.reg.top, .slice a1 D.reg.es.length p1, .int .i64 D.inr, .slice a2 D.inT.length p2, .int .i64 D.outr, .slice a3 D.outT.length p3, .int .i64 D.get, .int .i64 D.give, .int .i64 D.first, .slice a4 D.flows.length p4, .bool D.away, .bool D.dead] = V2 at *
      have z0 := RowIs.cell (j := 0) RZ2.out rfl
      have z1 := RowIs.cell (j := 1) RZ2.out rfl
      have z2 := RowIs.cell (j := 2) RZ2.out rfl
      have z3 := RowIs.cell (j := 3) RZ2.out rfl
      have z4 := RowIs.cell (j := 4) RZ2.out rfl
      have z5 := RowIs.cell (j := 5) RZ2.out rfl
      have z6 := RowIs.cell (j := 6) RZ2.out rfl
      have z7 := RowIs.cell (j := 7) RZ2.out rfl
      have z8 := RowIs.cell (j := 8) RZ2.out rfl
      have z9 := RowIs.cell (j := 9) RZ2.out rfl
      have z10 := RowIs.cell (j := 10) RZ2.out rfl
      have z11 := RowIs.cell (j := 11) RZ2.out rfl
      have z12 := RowIs.cell (j := 12) RZ2.out rfl
      have zf := fun j => RowIs.frozen RZ2.out j
      refine bodyPost_ret (v := .tuple #[.agg #[.int .i64 D.reg.lim, .int .i64 D.reg.top, .slice a1 D.reg.es.length p1, .int .i64 D.inr, .slice a2 D.inT.length p2, .int .i64 D.outr, .slice a3 D.outT.length p3, .int .i64 D.get, .int .i64 D.give, .int .i64 D.first, .slice a4 D.flows.length p4, .bool D.away, .bool D.dead], .slice none 0 0, .string ⟨#[]⟩]) (by simp [results, Tryz.results28, go_sem, *]) rfl ?_
      rw [HGD.out]
      exact ⟨_, _, rfl, ⟨_, _, _, _, cb9, rfl, HCN2.out, fun b hb => by have := HSL.out b hb; omega, World.ownsRow_nil _ _ _ _, fun q hq => by simp [Value.ownBlock] at hq⟩, HB2.out⟩
    · skip
      go_wp2_with fail
      refine (implFlowNone w.heap.size g D M bs id _ hm HLEN.out.2 HA.out).mono ?_; rintro e w2 ⟨rfl, hb2⟩
      replace HLM := hide (HLM.out.new hb2)
      replace HRZ := hide (HRZ.out.new hb2)
      replace HB := hide (bchain HB.out hb2)
      clear hb2 hm
      obtain ⟨⟨ve9, vi9, vo9, vf9, tv9, cb9, hrow, hcn, hfr, hsub, htv⟩, hlt9, hlo9, hng9, hbs9⟩ := HLM.out
      obtain ⟨a1, p1, rfl, _, _⟩ := hcn.rd.e.form
      obtain ⟨a2, p2, rfl, _, _⟩ := hcn.rd.i.form
      obtain ⟨a3, p3, rfl, _, _⟩ := hcn.rd.o.form
      obtain ⟨a4, p4, rfl, _, _⟩ := hcn.rd.f.form
      obtain ⟨a5, p5, rfl, _, _⟩ := owns_form hfr
      have HPM := hide (⟨hrow, rfl⟩ : MidIs w2 g 84 [] [.slice a5 M.length p5] 0 [.int .i64 D.reg.lim, .int .i64 D.reg.top, .slice a1 D.reg.es.length p1, .int .i64 D.inr, .slice a2 D.inT.length p2, .int .i64 D.outr, .slice a3 D.outT.length p3, .int .i64 D.get, .int .i64 D.give, .int .i64 D.first, .slice a4 D.flows.length p4, .bool D.away, .bool D.dead])
      have HCN := hide hcn
      have HSL : Hid (∀ b ∈ cb9, w.heap.size + 2 ≤ b) := fun b hb => HBK.out b (by simp [hsub b hb])
      clear hrow hcn hfr hsub htv hlt9 hlo9 hng9 hbs9 HLM
      have RZ2 := hide (rowIs_setRow (cs' := [.int .i64 D.reg.lim, .int .i64 D.reg.top, .slice a1 D.reg.es.length p1, .int .i64 D.inr, .slice a2 D.inT.length p2, .int .i64 D.outr, .slice a3 D.outT.length p3, .int .i64 D.get, .int .i64 D.give, .int .i64 D.first, .slice a4 D.flows.length p4, .bool D.away, .bool D.dead]) HRZ.out)
      have HB2 := hide (below_setRow HB.out (show w.heap.size ≤ w.heap.size + 1 by omega) #[.int .i64 D.reg.lim, .int .i64 D.reg.top, .slice a1 D.reg.es.length p1, .int .i64 D.inr, .slice a2 D.inT.length p2, .int .i64 D.outr, .slice a3 D.outT.length p3, .int .i64 D.get, .int .i64 D.give, .int .i64 D.first, .slice a4 D.flows.length p4, .bool D.away, .bool D.dead])
      have HCN2 := hide (HCN.out.keep (w' := w2.setRow (w.heap.size + 1) #[.int .i64 D.reg.lim, .int .i64 D.reg.top, .slice a1 D.reg.es.length p1, .int .i64 D.inr, .slice a2 D.inT.length p2, .int .i64 D.outr, .slice a3 D.outT.length p3, .int .i64 D.get, .int .i64 D.give, .int .i64 D.first, .slice a4 D.flows.length p4, .bool D.away, .bool D.dead]) (by rw [setRow_size]; exact Nat.le_refl _) (fun b hb => setRow_other _ _ _ _ (by have := HSL.out b hb; omega)))
      go_wp2_with (first | (refine wpList_load_mid (by rfl) 32 _ (by rfl) g 0 (by rfl) [.int .i64 D.reg.lim, .int .i64 D.reg.top, .slice a1 D.reg.es.length p1, .int .i64 D.inr, .slice a2 D.inT.length p2, .int .i64 D.outr, .slice a3 D.outT.length p3, .int .i64 D.get, .int .i64 D.give, .int .i64 D.first, .slice a4 D.flows.length p4, .bool D.away, .bool D.dead] _ (fun j u hu => HPM.out.cell hu) Tryz.underlying32 rfl (by kernel_rfl) ?_) | (refine wpList_store_row (by rfl) 32 _ _ (by rfl) (w.heap.size + 1) [.int .i64 D.reg.lim, .int .i64 D.reg.top, .slice a1 D.reg.es.length p1, .int .i64 D.inr, .slice a2 D.inT.length p2, .int .i64 D.outr, .slice a3 D.outT.length p3, .int .i64 D.get, .int .i64 D.give, .int .i64 D.first, .slice a4 D.flows.length p4, .bool D.away, .bool D.dead] (by rfl) (by rfl) 32 [.int .i64 0, .int .i64 0, .slice none 0 0, .int .i64 0, .slice none 0 0, .int .i64 0, .slice none 0 0, .int .i64 0, .int .i64 0, .int .i64 0, .slice none 0 0, .bool false, .bool false] HRZ.out (by kernel_rfl) rfl (by intro u hu; simp at hu; rcases hu with rfl | rfl | rfl | rfl | rfl | rfl | rfl | rfl | rfl | rfl | rfl | rfl | rfl <;> rfl) ?_))
      generalize w2.setRow (w.heap.size + 1) #[.int .i64 D.reg.lim, .int .i64 D.reg.top, .slice a1 D.reg.es.length p1, .int .i64 D.inr, .slice a2 D.inT.length p2, .int .i64 D.outr, .slice a3 D.outT.length p3, .int .i64 D.get, .int .i64 D.give, .int .i64 D.first, .slice a4 D.flows.length p4, .bool D.away, .bool D.dead] = V2 at *
      have z0 := RowIs.cell (j := 0) RZ2.out rfl
      have z1 := RowIs.cell (j := 1) RZ2.out rfl
      have z2 := RowIs.cell (j := 2) RZ2.out rfl
      have z3 := RowIs.cell (j := 3) RZ2.out rfl
      have z4 := RowIs.cell (j := 4) RZ2.out rfl
      have z5 := RowIs.cell (j := 5) RZ2.out rfl
      have z6 := RowIs.cell (j := 6) RZ2.out rfl
      have z7 := RowIs.cell (j := 7) RZ2.out rfl
      have z8 := RowIs.cell (j := 8) RZ2.out rfl
      have z9 := RowIs.cell (j := 9) RZ2.out rfl
      have z10 := RowIs.cell (j := 10) RZ2.out rfl
      have z11 := RowIs.cell (j := 11) RZ2.out rfl
      have z12 := RowIs.cell (j := 12) RZ2.out rfl
      have zf := fun j => RowIs.frozen RZ2.out j
      refine bodyPost_ret (v := .tuple #[.agg #[.int .i64 D.reg.lim, .int .i64 D.reg.top, .slice a1 D.reg.es.length p1, .int .i64 D.inr, .slice a2 D.inT.length p2, .int .i64 D.outr, .slice a3 D.outT.length p3, .int .i64 D.get, .int .i64 D.give, .int .i64 D.first, .slice a4 D.flows.length p4, .bool D.away, .bool D.dead], .slice none 0 0, .string ⟨#[]⟩]) (by simp [results, Tryz.results28, go_sem, *]) rfl ?_
      rw [HGD.out]
      exact ⟨_, _, rfl, ⟨_, _, _, _, cb9, rfl, HCN2.out, fun b hb => by have := HSL.out b hb; omega, World.ownsRow_nil _ _ _ _, fun q hq => by simp [Value.ownBlock] at hq⟩, HB2.out⟩
  | some k =>
  have hk : k < D.reg.es.length := by obtain ⟨q, _, _⟩ := atE_some ha; exact q
  have hkf : k < D.flows.length := by rw [HLEN.out.1]; exact hk
  obtain ⟨gf, A, C, ve, vi, vo, cap, v0, tv, hrow, hgb, hgfl, hgg, hmid, f0, f1, hput⟩ := HLM.out.flw k hkf
  cases hde : D.dead
  rotate_left
  · have HGD : Hid (tookD D id n = (D, ([] : List Fr), (⟨#[]⟩ : ByteArray))) := by
      show _ = _
      rw [HTR.out, took_dead ha hkf hk hde]
    have HX := hide (RowIs.cell (j := 10) hrow rfl)
    have HA := hide ha
    have hm := HLM.out
    clear hrow hgb hgfl hgg hmid f0 f1 hput hde ha hkf hok
    go_wp2_with fail
    refine (implFlowSome w.heap.size g D M bs id k gf cap _ hm HLEN.out.1 HLEN.out.2 HA.out HX.out).mono ?_; rintro e w2 ⟨rfl, hb2⟩
    replace HLM := hide (HLM.out.new hb2)
    replace HRZ := hide (HRZ.out.new hb2)
    replace HB := hide (bchain HB.out hb2)
    clear hb2 hm HX
    obtain ⟨⟨ve9, vi9, vo9, vf9, tv9, cb9, hrow, hcn, hfr, hsub, htv⟩, hlt9, hlo9, hng9, hbs9⟩ := HLM.out
    obtain ⟨a1, p1, rfl, _, _⟩ := hcn.rd.e.form
    obtain ⟨a2, p2, rfl, _, _⟩ := hcn.rd.i.form
    obtain ⟨a3, p3, rfl, _, _⟩ := hcn.rd.o.form
    obtain ⟨a4, p4, rfl, _, _⟩ := hcn.rd.f.form
    obtain ⟨a5, p5, rfl, _, _⟩ := owns_form hfr
    have HPM := hide (⟨hrow, rfl⟩ : MidIs w2 g 84 [] [.slice a5 M.length p5] 0 [.int .i64 D.reg.lim, .int .i64 D.reg.top, .slice a1 D.reg.es.length p1, .int .i64 D.inr, .slice a2 D.inT.length p2, .int .i64 D.outr, .slice a3 D.outT.length p3, .int .i64 D.get, .int .i64 D.give, .int .i64 D.first, .slice a4 D.flows.length p4, .bool D.away, .bool D.dead])
    have HCN := hide hcn
    have HSL : Hid (∀ b ∈ cb9, w.heap.size + 2 ≤ b) := fun b hb => HBK.out b (by simp [hsub b hb])
    clear hrow hcn hfr hsub htv hlt9 hlo9 hng9 hbs9 HLM
    have RZ2 := hide (rowIs_setRow (cs' := [.int .i64 D.reg.lim, .int .i64 D.reg.top, .slice a1 D.reg.es.length p1, .int .i64 D.inr, .slice a2 D.inT.length p2, .int .i64 D.outr, .slice a3 D.outT.length p3, .int .i64 D.get, .int .i64 D.give, .int .i64 D.first, .slice a4 D.flows.length p4, .bool D.away, .bool D.dead]) HRZ.out)
    have HB2 := hide (below_setRow HB.out (show w.heap.size ≤ w.heap.size + 1 by omega) #[.int .i64 D.reg.lim, .int .i64 D.reg.top, .slice a1 D.reg.es.length p1, .int .i64 D.inr, .slice a2 D.inT.length p2, .int .i64 D.outr, .slice a3 D.outT.length p3, .int .i64 D.get, .int .i64 D.give, .int .i64 D.first, .slice a4 D.flows.length p4, .bool D.away, .bool D.dead])
    have HCN2 := hide (HCN.out.keep (w' := w2.setRow (w.heap.size + 1) #[.int .i64 D.reg.lim, .int .i64 D.reg.top, .slice a1 D.reg.es.length p1, .int .i64 D.inr, .slice a2 D.inT.length p2, .int .i64 D.outr, .slice a3 D.outT.length p3, .int .i64 D.get, .int .i64 D.give, .int .i64 D.first, .slice a4 D.flows.length p4, .bool D.away, .bool D.dead]) (by rw [setRow_size]; exact Nat.le_refl _) (fun b hb => setRow_other _ _ _ _ (by have := HSL.out b hb; omega)))
    go_wp2_with (first | (refine wpList_load_mid (by rfl) 32 _ (by rfl) g 0 (by rfl) [.int .i64 D.reg.lim, .int .i64 D.reg.top, .slice a1 D.reg.es.length p1, .int .i64 D.inr, .slice a2 D.inT.length p2, .int .i64 D.outr, .slice a3 D.outT.length p3, .int .i64 D.get, .int .i64 D.give, .int .i64 D.first, .slice a4 D.flows.length p4, .bool D.away, .bool D.dead] _ (fun j u hu => HPM.out.cell hu) Tryz.underlying32 rfl (by kernel_rfl) ?_) | (refine wpList_store_row (by rfl) 32 _ _ (by rfl) (w.heap.size + 1) [.int .i64 D.reg.lim, .int .i64 D.reg.top, .slice a1 D.reg.es.length p1, .int .i64 D.inr, .slice a2 D.inT.length p2, .int .i64 D.outr, .slice a3 D.outT.length p3, .int .i64 D.get, .int .i64 D.give, .int .i64 D.first, .slice a4 D.flows.length p4, .bool D.away, .bool D.dead] (by rfl) (by rfl) 32 [.int .i64 0, .int .i64 0, .slice none 0 0, .int .i64 0, .slice none 0 0, .int .i64 0, .slice none 0 0, .int .i64 0, .int .i64 0, .int .i64 0, .slice none 0 0, .bool false, .bool false] HRZ.out (by kernel_rfl) rfl (by intro u hu; simp at hu; rcases hu with rfl | rfl | rfl | rfl | rfl | rfl | rfl | rfl | rfl | rfl | rfl | rfl | rfl <;> rfl) ?_))
    generalize w2.setRow (w.heap.size + 1) #[.int .i64 D.reg.lim, .int .i64 D.reg.top, .slice a1 D.reg.es.length p1, .int .i64 D.inr, .slice a2 D.inT.length p2, .int .i64 D.outr, .slice a3 D.outT.length p3, .int .i64 D.get, .int .i64 D.give, .int .i64 D.first, .slice a4 D.flows.length p4, .bool D.away, .bool D.dead] = V2 at *
    have z0 := RowIs.cell (j := 0) RZ2.out rfl
    have z1 := RowIs.cell (j := 1) RZ2.out rfl
    have z2 := RowIs.cell (j := 2) RZ2.out rfl
    have z3 := RowIs.cell (j := 3) RZ2.out rfl
    have z4 := RowIs.cell (j := 4) RZ2.out rfl
    have z5 := RowIs.cell (j := 5) RZ2.out rfl
    have z6 := RowIs.cell (j := 6) RZ2.out rfl
    have z7 := RowIs.cell (j := 7) RZ2.out rfl
    have z8 := RowIs.cell (j := 8) RZ2.out rfl
    have z9 := RowIs.cell (j := 9) RZ2.out rfl
    have z10 := RowIs.cell (j := 10) RZ2.out rfl
    have z11 := RowIs.cell (j := 11) RZ2.out rfl
    have z12 := RowIs.cell (j := 12) RZ2.out rfl
    have zf := fun j => RowIs.frozen RZ2.out j
    refine bodyPost_ret (v := .tuple #[.agg #[.int .i64 D.reg.lim, .int .i64 D.reg.top, .slice a1 D.reg.es.length p1, .int .i64 D.inr, .slice a2 D.inT.length p2, .int .i64 D.outr, .slice a3 D.outT.length p3, .int .i64 D.get, .int .i64 D.give, .int .i64 D.first, .slice a4 D.flows.length p4, .bool D.away, .bool D.dead], .slice none 0 0, .string ⟨#[]⟩]) (by simp [results, Tryz.results28, go_sem, *]) rfl ?_
    rw [HGD.out]
    exact ⟨_, _, rfl, ⟨_, _, _, _, cb9, rfl, HCN2.out, fun b hb => by have := HSL.out b hb; omega, World.ownsRow_nil _ _ _ _, fun q hq => by simp [Value.ownBlock] at hq⟩, HB2.out⟩
  obtain ⟨t9, s9, hout⟩ : ∃ t9 s9, outTu D.flows[k].tun (min (min n (16777215 - D.get)) (16777215 - D.flows[k].get)) = (t9, s9) := ⟨_, _, rfl⟩
  obtain ⟨⟨hz1, hz2, hz3, hz4, hz5⟩, htk⟩ := took_run hok ha hkf hk hde hout
  have hid1 : 1 ≤ id := by obtain ⟨_, _, _, _, q, _⟩ := at_flow hok ha; exact q
  have hff := cn_flow hok (List.getElem_mem hkf)
  have hwn := (cn_wins hok).1
  have hst := state_is ha hk
  have hreg := (okCn_iff.1 hok).1
  rw [← hst] at htk
  generalize D.flows[k] = F at *
  dsimp only at htk
  have HX := hide (RowIs.cell (j := 10) hrow rfl)
  have hw1 : IntKind.i64.wrap (16777215 - D.get) = 16777215 - D.get := by rw [IntKind.wrap_i64]; omega
  have hw2 : IntKind.i64.wrap (16777215 - F.get) = 16777215 - F.get := by rw [IntKind.wrap_i64]; omega
  have HMN : Hid ((if 16777215 - F.get < if 16777215 - D.get < n then 16777215 - D.get else n then 16777215 - F.get else if 16777215 - D.get < n then 16777215 - D.get else n) = min (min n (16777215 - D.get)) (16777215 - F.get)) := by
    show _ = _
    repeat' split
    all_goals omega
  have HP := hide hput
  have hp : MidIs wc gf 57 (A ++ [.int .i64 F.id, .int .i64 F.get, .int .i64 F.give, v0]) ([.bool F.ended] ++ C) (k * 15 + 4) (tucs F.tun) := MidIs.part (p := [.int .i64 F.id, .int .i64 F.get, .int .i64 F.give, v0]) (m := tucs F.tun) (q := [.bool F.ended]) hmid
  have HPT := hide hp
  have HOFF := hide hmid.off
  have HTK := hide htk; have HOUT := hide hout; have HA := hide ha
  have HZZ : Hid (s9.size ≤ 16777215 ∧ D.get + s9.size ≤ 16777215 ∧ F.get + s9.size ≤ 16777215 ∧ -16777215 ≤ D.get ∧ -16777215 ≤ F.get ∧ 1 ≤ id) := ⟨hz1, hz2, hz3, by omega, by omega, hid1⟩
  have HTS : Hid (t9.up.b.size ≤ 9223372036854775807 ∧ t9.dn.b.size ≤ 9223372036854775807) := ⟨by omega, by omega⟩
  have F0 := hide f0; have F1 := hide f1; have HROW := hide hrow; have HGG := hide hgg; have HREG := hide hreg
  have hm := HLM.out
  clear hrow hmid hput hp htk hout ha hkf hz1 hz2 hz3 hz4 hz5 f0 f1 hgg hst hreg hff hwn hok hde hid1 hk
  go_wp2_with fail
  refine (implFlowSome w.heap.size g D M bs id k gf cap _ hm HLEN.out.1 HLEN.out.2 HA.out HX.out).mono ?_; rintro e w3 ⟨rfl, hb3⟩
  have HT := hide (TurnB.new (bs := [gf]) hb3)
  replace HPT := hide (HPT.out.new hb3)
  replace HROW := hide (HROW.out.new hb3)
  clear hb3 hm HX
  go_upto_region 6 with fail
  have hD : Below w3.heap.size w3 (World.drew w3) := (Below.refl _ _).drew
  replace HPT := hide (HPT.out.new hD)
  replace HT := hide (HT.out.trans (TurnB.new hD))
  replace HROW := hide (HROW.out.new hD)
  clear hD
  have HSO : Hid (∀ (u : World) (T : TuD), RowIs u g 84 (lkcs D ve vi vo (.slice (some ⟨gf, 0, none⟩) D.flows.length cap) tv) → MidIs u gf 57 (A ++ [.int .i64 F.id, .int .i64 F.get, .int .i64 F.give, v0]) ([.bool F.ended] ++ C) (k * 15 + 4) (tucs T) → RowIs u g 84 (lkcs D ve vi vo (.slice (some ⟨gf, 0, none⟩) D.flows.length cap) tv) ∧ u.cell? ⟨gf, k * 15 + 1, none⟩ = some (.int .i64 F.get)) := fun u T h1 h2 => by
    have hmf := MidIs.whole (p := [.int .i64 F.id, .int .i64 F.get, .int .i64 F.give, v0]) (m := tucs T) (q := [.bool F.ended]) h2 HOFF.out
    exact ⟨h1, MidIs.cell (j := 1) hmf rfl⟩
  refine wp_region_held_drew (S := fun u => RowIs u g 84 (lkcs D ve vi vo (.slice (some ⟨gf, 0, none⟩) D.flows.length cap) tv) ∧ u.cell? ⟨gf, k * 15 + 1, none⟩ = some (.int .i64 F.get)) (by kernel_rfl) (HSO.out _ F.tun HROW.out HPT.out) (fun hS => ?_)
  generalize World.drew w3 = u1 at *
  refine wpAnyH_take (i := 0) (v := ?_) rfl (by kernel_rfl) (by kernel_rfl) (by kernel_rfl) (fun _ _ _ h => h) (Or.inl ⟨by rfl, ?_⟩) hS ?_; rotate_left; focus (intro w hw; clear hw; go_simp; try with_reducible rfl)
  refine wpAnyH_take (i := 1) (v := ?_) rfl (by kernel_rfl) (by kernel_rfl) (by kernel_rfl) (fun _ _ _ h => h) (Or.inl ⟨by rfl, ?_⟩) hS ?_; rotate_left; focus (intro w hw; clear hw; go_simp; try with_reducible rfl)
  refine wpAnyH_take (i := 2) (v := ?_) rfl (by kernel_rfl) (by kernel_rfl) (by kernel_rfl) (fun _ _ _ h => h) (Or.inl ⟨by rfl, ?_⟩) hS ?_; rotate_left; focus (intro w hw; clear hw; go_simp; try with_reducible rfl)
  refine wpAnyH_take (i := 3) (v := ?_) rfl (by kernel_rfl) (by kernel_rfl) (by kernel_rfl) (fun _ _ _ h => h) (Or.inl ⟨by rfl, ?_⟩) hS ?_; rotate_left; focus (intro w hw; clear hw; go_simp; try with_reducible rfl)
  refine wpAnyH_take (i := 5) (v := ?_) rfl (by kernel_rfl) (by kernel_rfl) (by kernel_rfl) (fun _ _ _ h => h) (Or.inl ⟨by rfl, ?_⟩) hS ?_; rotate_left; focus (intro w hw; clear hw; go_simp; try with_reducible rfl)
  refine wpAnyH_take (i := 6) (v := ?_) rfl (by kernel_rfl) (by kernel_rfl) (by kernel_rfl) (fun _ _ _ h => h) (Or.inl ⟨by rfl, ?_⟩) hS ?_; rotate_left; focus (intro w hw; clear hw; go_simp; try with_reducible rfl)
  refine wpAnyH_take (i := 7) (v := ?_) rfl (by kernel_rfl) (by kernel_rfl) (by kernel_rfl) (fun _ _ _ h => h) (Or.inl ⟨by rfl, ?_⟩) hS ?_; rotate_left; focus (intro w hw; clear hw; go_simp; try with_reducible rfl)
  refine wpAnyH_take (i := 8) (v := .int .i64 D.get) rfl (by kernel_rfl) (by kernel_rfl) (by kernel_rfl) (fun _ _ _ h => h) (Or.inl ⟨by kernel_rfl, ?ld⟩) hS ?_; case ld => (intro uu hu; have z2 := RowIs.cell (j := 7) hu.1 rfl; have z8 := hu.1.lt; clear hu; go_simp)
  refine wpAnyH_take (i := 9) (v := ?_) rfl (by kernel_rfl) (by kernel_rfl) (by kernel_rfl) (fun _ _ _ h => h) (Or.inl ⟨by rfl, ?_⟩) hS ?_; rotate_left; focus (intro w hw; clear hw; go_simp; try with_reducible rfl)
  refine wpAnyH_take (i := 10) (v := ?_) rfl (by kernel_rfl) (by kernel_rfl) (by kernel_rfl) (fun _ _ _ h => h) (Or.inl ⟨by rfl, ?_⟩) hS ?_; rotate_left; focus (intro w hw; clear hw; go_simp; try with_reducible rfl)
  refine wpAnyH_take (i := 11) (v := ?_) rfl (by kernel_rfl) (by kernel_rfl) (by kernel_rfl) (fun _ _ _ h => h) (Or.inl ⟨by rfl, ?_⟩) hS ?_; rotate_left; focus (intro w hw; clear hw; go_simp; try with_reducible rfl)
  refine wpAnyH_take (i := 12) (v := ?_) rfl (by kernel_rfl) (by kernel_rfl) (by kernel_rfl) (fun _ _ _ h => h) (Or.inl ⟨by rfl, ?_⟩) hS ?_; rotate_left; focus (intro w hw; clear hw; go_simp; try with_reducible rfl)
  refine wpAnyH_take (i := 13) (v := .int .i64 F.get) rfl (by kernel_rfl) (by kernel_rfl) (by kernel_rfl) (fun _ _ _ h => h) (Or.inl ⟨by kernel_rfl, ?ld⟩) hS ?_; case ld => (intro uu hu; have z2 := hu.2; clear hu; go_simp)
  refine wpAnyH_take (i := 14) (v := ?_) rfl (by kernel_rfl) (by kernel_rfl) (by kernel_rfl) (fun _ _ _ h => h) (Or.inl ⟨by rfl, ?_⟩) hS ?_; rotate_left; focus (intro w hw; clear hw; go_simp; try with_reducible rfl)
  refine wpAnyH_take (i := 15) (v := ?_) rfl (by kernel_rfl) (by kernel_rfl) (by kernel_rfl) (fun _ _ _ h => h) (Or.inl ⟨by rfl, ?_⟩) hS ?_; rotate_left; focus (intro w hw; clear hw; go_simp; try with_reducible rfl)
  refine wpAnyH_ready (rs := [4]) (by kernel_rfl) (by simp) ?_
  refine AllReadyH.cons rfl (fun K hK => ?_) AllReadyH.nil
  try simp only [Act.put, List.getElem_toArray, List.getElem_cons_succ, List.getElem_cons_zero, List.setIfInBounds_toArray, List.set_cons_zero, List.set_cons_succ]
  rw [if_pos (by kernel_rfl)]
  refine wp_load_mid 55 _ (by rfl) gf (k * 15 + 4) (by rfl) (tucs F.tun) _ (fun j u hu => HPT.out.cell hu) Tryz.underlying55 rfl (by kernel_rfl) ?_
  refine hK.out _ _ (HSO.out _ F.tun HROW.out HPT.out) (fun hS => ?_)
  clear hK K
  try simp only [Act.put, List.getElem_toArray, List.getElem_cons_succ, List.getElem_cons_zero, List.setIfInBounds_toArray, List.set_cons_zero, List.set_cons_succ]
  refine wpAnyH_ready (rs := [16]) (by kernel_rfl) (by simp) ?_; refine AllReadyH.cons rfl (fun K hK => ?_) AllReadyH.nil; go_simp
  refine (implOut F.tun _ _ F0.out F1.out).mono ?_; rw [HMN.out, HOUT.out]; rintro x u2 ⟨rfl, hbe⟩
  replace HPT := hide (HPT.out.new hbe)
  replace HT := hide (HT.out.trans (TurnB.new hbe))
  replace HROW := hide (HROW.out.new hbe)
  refine hK.out _ _ (HSO.out _ F.tun HROW.out HPT.out) (fun hS => ?_)
  clear hK K hbe
  try simp only [Act.put, List.getElem_toArray, List.getElem_cons_succ, List.getElem_cons_zero, List.setIfInBounds_toArray, List.set_cons_zero, List.set_cons_succ]
  refine wpAnyH_take (i := 17) (v := ?_) rfl (by kernel_rfl) (by kernel_rfl) (by kernel_rfl) (fun _ _ _ h => h) (Or.inl ⟨by rfl, ?_⟩) hS ?_; rotate_left; focus (intro w hw; clear hw; go_simp; try with_reducible rfl)
  refine wpAnyH_take (i := 18) (v := ?_) rfl (by kernel_rfl) (by kernel_rfl) (by kernel_rfl) (fun _ _ _ h => h) (Or.inl ⟨by rfl, ?_⟩) hS ?_; rotate_left; focus (intro w hw; clear hw; go_simp; try with_reducible rfl)
  refine wpAnyH_take (i := 19) (v := ?_) rfl (by kernel_rfl) (by kernel_rfl) (by kernel_rfl) (fun _ _ _ h => h) (Or.inl ⟨by rfl, ?_⟩) hS ?_; rotate_left; focus (intro w hw; clear hw; go_simp; try with_reducible rfl)
  refine wpAnyH_take (i := 20) (v := ?_) rfl (by kernel_rfl) (by kernel_rfl) (by kernel_rfl) (fun _ _ _ h => h) (Or.inl ⟨by rfl, ?_⟩) hS ?_; rotate_left; focus (intro w hw; clear hw; go_simp; try with_reducible rfl)
  refine wpAnyH_take (i := 21) (v := ?_) rfl (by kernel_rfl) (by kernel_rfl) (by kernel_rfl) (fun _ _ _ h => h) (Or.inl ⟨by rfl, ?_⟩) hS ?_; rotate_left; focus (intro w hw; clear hw; go_simp; try with_reducible rfl)
  refine wpAnyH_ready (rs := [22]) (by kernel_rfl) (by simp) ?_
  refine AllReadyH.cons rfl (fun K hK => ?_) AllReadyH.nil
  try simp only [Act.put, List.getElem_toArray, List.getElem_cons_succ, List.getElem_cons_zero, List.setIfInBounds_toArray, List.set_cons_zero, List.set_cons_succ]
  rw [if_pos (by kernel_rfl)]
  refine wp_store_mid 55 _ _ (by rfl) gf (k * 15 + 4) (tucs t9) (by rfl) (by rfl) 57 _ _ _ HPT.out (by kernel_rfl) rfl (by intro u hu; simp at hu; rcases hu with rfl | rfl | rfl | rfl | rfl | rfl | rfl | rfl | rfl | rfl <;> rfl) ?_
  intro u4 hm4 ht4
  replace HROW := hide (HROW.out.kept (ht4.block _ HROW.out.lt (by simp; exact HGG.out)))
  refine hK.out _ _ (HSO.out _ t9 HROW.out hm4) (fun hS => ?_)
  clear hK K
  try simp only [Act.put, List.getElem_toArray, List.getElem_cons_succ, List.getElem_cons_zero, List.setIfInBounds_toArray, List.set_cons_zero, List.set_cons_succ]
  refine wpAnyH_take (i := 23) (v := ?_) rfl (by kernel_rfl) (by kernel_rfl) (by kernel_rfl) (fun _ _ _ h => h) (Or.inl ⟨by rfl, ?_⟩) hS ?_; rotate_left; focus (intro w hw; clear hw; go_simp; try with_reducible rfl)
  refine wpAnyH_done (by kernel_rfl) ?_ _
  have hmf := MidIs.whole (p := [.int .i64 F.id, .int .i64 F.get, .int .i64 F.give, v0]) (m := tucs t9) (q := [.bool F.ended]) hm4 HOFF.out
  have hl := HP.out u4 { F with tun := t9 } rfl HTS.out.1 HTS.out.2 hmf (HT.out.trans ht4)
  have HTK2 := hide HTK.out
  obtain ⟨D1, hD1⟩ : ∃ D1 : CnD, ({ D with flows := D.flows.set k { F with tun := t9 } } : CnD) = D1 := ⟨_, rfl⟩
  rw [hD1] at hl
  have htk := HTK.out
  rw [hD1] at htk
  have H1 : Hid (D1.reg = D.reg ∧ D1.get = D.get ∧ D1.flows.length = D.flows.length ∧ ∀ j (hj : j < D1.flows.length), j = k → D1.flows[j].get = F.get) := ⟨by rw [← hD1], by rw [← hD1], by rw [← hD1]; simp, fun j hj e => by subst e; simp only [← hD1]; simp⟩
  have HL1 := hide hl
  have HTK1 := hide htk
  clear hl htk hmf hm4 ht4 HPT HT HROW HSO HP HOFF HTS HTK HTK2 HOUT HMN F0 F1 hD1 hw1 hw2 hS
  have hm1 := HL1.out.m
  have hrg : okRg D1.reg = true := by rw [H1.out.1]; exact HREG.out
  have HLN : Hid (D1.flows.length = D1.reg.es.length ∧ D1.reg.es.length ≤ 60) := by show _ ∧ _; rw [H1.out.1, H1.out.2.2.1]; exact HLEN.out
  go_wp2_with fail
  refine (implState w.heap.size g D1 M bs id _ hm1 hrg).mono ?_; rw [H1.out.1]; rintro x u5 ⟨rfl, hb5⟩
  replace HL1 := hide (HL1.out.new hb5)
  clear hb5 hm1 hrg
  have hw0 : winB D.get = true := win_of HZZ.out.2.2.2.1 (by have := HZZ.out.2.1; omega)
  have hw9 : winB F.get = true := win_of HZZ.out.2.2.2.2.1 (by have := HZZ.out.2.2.1; omega)
  have HW0 := hide hw0; have HW9 := hide hw9
  clear hw0 hw9
  have HGR : Hid (∀ a : Int, winB a = true → a + s9.size ≤ 16777215 → (s9.size : Int) ≠ 0 → grV a s9.size = (a + s9.size, true)) := fun a h1 h2 h3 => gr_fits h1 (by omega) (by have := HZZ.out.1; omega) h2
  have HM1 : Hid (M.length ≤ 5) := by show _ ≤ _; rw [HM0.out]; exact Nat.zero_le _
  by_cases h4 : stateD D.reg id = 4
  · have h4b : (stateD D.reg id != 4) = false := by rw [h4]; rfl
    have hgd : tookRaw D id n = ((grantD D1 0 s9.size).1, (grantD D1 0 s9.size).2, s9) := by
      rw [HTK1.out, if_pos h4]; rfl
    have HGDR := hide hgd
    clear hgd HTK1 h4
    have hm1 := HL1.out.m
    go_wp2_with fail
    refine (implGiveBack w.heap.size g D1 M bs 0 s9.size _ hm1 HLN.out.1 HLN.out.2 (by have := HM1.out; omega) (by omega) (by have := HZZ.out.1; omega) (.inl rfl) (fun _ h => by rw [H1.out.2.1]; exact HGR.out _ HW0.out HZZ.out.2.1 h) (fun h => absurd rfl h)).mono ?_; rintro x u6 ⟨rfl, bx, hl6⟩
    have hl7 := HL1.out.step hl6
    clear hl6 hm1 h4b
    obtain ⟨D5, hD5⟩ : ∃ D5, (grantD D1 0 s9.size).1 = D5 := ⟨_, rfl⟩
    obtain ⟨L5, hL5⟩ : ∃ L5, M ++ (grantD D1 0 s9.size).2 = L5 := ⟨_, rfl⟩
    rw [hD5, hL5] at hl7
    have HGD : Hid (tookD D id n = (D5, L5, s9)) := by show _ = _; rw [HTR.out, HGDR.out, hD5, ← hL5, HM0.out, List.nil_append]
    clear HGDR hD5 hL5 HM0 HM1 HGR HW0 HW9 HL1 HTR HLN H1 HLEN HA HZZ HGG HREG HOK
    have hzn : w.heap.size + 1 ∉ g :: bs := fun hx => by have := HBK.out _ hx; omega
    have HRZ2 := hide (hl7.box HRZ.out hzn)
    have HBN : Hid (∀ b ∈ g :: bx, w.heap.size + 2 ≤ b) := fun b hb => by
      rcases List.mem_cons.1 hb with e | e
      · rw [e]; exact HBK.out g (by simp)
      · rcases hl7.n b e with e | e
        · exact HBK.out b (by simp [e])
        · have := HRZ.out.lt; omega
    have HB3 := hide (below_turns HB.out hl7.t (fun x hx => by have := HBK.out x hx; omega) HB.out.size)
    have HLM5 := hide hl7.m
    clear hl7 HLM HRZ HB HBK hzn
    have HLM := hide HLM5.out
    have HRZ := hide HRZ2.out
    have HB := hide HB3.out
    have HBK := hide HBN.out
    clear HLM5 HRZ2 HB3 HBN
    generalize u6 = W at *
    clear M
    obtain ⟨M, hM⟩ : ∃ M : List Fr, L5 = M := ⟨_, rfl⟩
    rw [hM] at HLM HGD
    clear hM
    obtain ⟨⟨ve9, vi9, vo9, vf9, tv9, cb9, hrow, hcn, hfr, hsub, htv⟩, hlt9, hlo9, hng9, hbs9⟩ := HLM.out
    obtain ⟨a1, p1, rfl, _, _⟩ := hcn.rd.e.form
    obtain ⟨a2, p2, rfl, _, _⟩ := hcn.rd.i.form
    obtain ⟨a3, p3, rfl, _, _⟩ := hcn.rd.o.form
    obtain ⟨a4, p4, rfl, _, _⟩ := hcn.rd.f.form
    obtain ⟨a5, p5, rfl, _, _⟩ := owns_form hfr
    have HRL := hide hrow; have HCN := hide hcn; have HFR := hide hfr
    have HSL : Hid (∀ b ∈ cb9, w.heap.size + 2 ≤ b) := fun b hb => HBK.out b (by simp [hsub b hb])
    have HTV : Hid (∀ q, (Value.slice a5 M.length p5).ownBlock = some q → q ∉ cb9 ∧ w.heap.size + 2 ≤ q) := fun q hq => ⟨(htv q hq).2, HBK.out q (by simp [(htv q hq).1])⟩
    have HGZ : Hid (w.heap.size + 2 ≤ g) := HBK.out g (by simp)
    clear hrow hcn hfr hsub htv hlt9 hlo9 hng9 hbs9 HLM
    go_upto_region 11 with fail
    have hD : Below W.heap.size W (World.drew W) := (Below.refl _ _).drew
    replace HRL := hide (HRL.out.new hD)
    replace HRZ := hide (HRZ.out.new hD)
    replace HCN := hide (HCN.out.new hD)
    replace HFR := hide (owns_new HFR.out hD)
    replace HB := hide (bchain HB.out hD)
    clear hD
    refine wp_region_held_drew (S := fun u => RowIs u g 84 [.int .i64 D5.reg.lim, .int .i64 D5.reg.top, .slice a1 D5.reg.es.length p1, .int .i64 D5.inr, .slice a2 D5.inT.length p2, .int .i64 D5.outr, .slice a3 D5.outT.length p3, .int .i64 D5.get, .int .i64 D5.give, .int .i64 D5.first, .slice a4 D5.flows.length p4, .bool D5.away, .bool D5.dead, .slice a5 M.length p5]) (by kernel_rfl) HRL.out (fun hS => ?_)
    generalize World.drew W = W9 at *
    refine wpAnyH_take (i := 0) (v := ?_) rfl (by kernel_rfl) (by kernel_rfl) (by kernel_rfl) (fun _ _ _ h => h) (Or.inl ⟨by rfl, ?_⟩) hS ?_; rotate_left; focus (intro w hw; clear hw; go_simp; try with_reducible rfl)
    refine wpAnyH_take (i := 1) (v := .agg #[.int .i64 D5.reg.lim, .int .i64 D5.reg.top, .slice a1 D5.reg.es.length p1, .int .i64 D5.inr, .slice a2 D5.inT.length p2, .int .i64 D5.outr, .slice a3 D5.outT.length p3, .int .i64 D5.get, .int .i64 D5.give, .int .i64 D5.first, .slice a4 D5.flows.length p4, .bool D5.away, .bool D5.dead]) rfl (by kernel_rfl) (by kernel_rfl) (by kernel_rfl) (fun _ _ _ h => h) (Or.inl ⟨by kernel_rfl, ?ld⟩) hS ?_
    case ld =>
      intro uu hu
      have z0 := RowIs.cell (j := 0) hu rfl
      have z1 := RowIs.cell (j := 1) hu rfl
      have z2 := RowIs.cell (j := 2) hu rfl
      have z3 := RowIs.cell (j := 3) hu rfl
      have z4 := RowIs.cell (j := 4) hu rfl
      have z5 := RowIs.cell (j := 5) hu rfl
      have z6 := RowIs.cell (j := 6) hu rfl
      have z7 := RowIs.cell (j := 7) hu rfl
      have z8 := RowIs.cell (j := 8) hu rfl
      have z9 := RowIs.cell (j := 9) hu rfl
      have z10 := RowIs.cell (j := 10) hu rfl
      have z11 := RowIs.cell (j := 11) hu rfl
      have z12 := RowIs.cell (j := 12) hu rfl
      clear hu
      go_simp
    refine wpAnyH_take (i := 2) (v := ?_) rfl (by kernel_rfl) (by kernel_rfl) (by kernel_rfl) (fun _ _ _ h => h) (Or.inl ⟨by rfl, ?_⟩) hS ?_; rotate_left; focus (intro w hw; clear hw; go_simp; try with_reducible rfl)
    refine wpAnyH_take (i := 3) (v := .slice a5 M.length p5) rfl (by kernel_rfl) (by kernel_rfl) (by kernel_rfl) (fun _ _ _ h => h) (Or.inl ⟨by kernel_rfl, ?ld⟩) hS ?_; case ld => (intro uu hu; have z2 := RowIs.cell (j := 13) hu rfl; have z8 := hu.lt; clear hu; go_simp)
    refine wpAnyH_take (i := 4) (v := ?_) rfl (by kernel_rfl) (by kernel_rfl) (by kernel_rfl) (fun _ _ _ h => h) (Or.inl ⟨by rfl, ?_⟩) hS ?_; rotate_left; focus (intro w hw; clear hw; go_simp; try with_reducible rfl)
    refine wpAnyH_ready (rs := [5]) (by kernel_rfl) (by simp) ?_
    refine AllReadyH.cons rfl (fun K hK => ?_) AllReadyH.nil
    try simp only [Act.put, List.getElem_toArray, List.getElem_cons_succ, List.getElem_cons_zero, List.setIfInBounds_toArray, List.set_cons_zero, List.set_cons_succ]
    rw [if_pos (by kernel_rfl)]
    refine wp_store_row 32 _ _ (by rfl) (w.heap.size + 1) #[.int .i64 D5.reg.lim, .int .i64 D5.reg.top, .slice a1 D5.reg.es.length p1, .int .i64 D5.inr, .slice a2 D5.inT.length p2, .int .i64 D5.outr, .slice a3 D5.outT.length p3, .int .i64 D5.get, .int .i64 D5.give, .int .i64 D5.first, .slice a4 D5.flows.length p4, .bool D5.away, .bool D5.dead] (by rfl) (by rfl) 32 #[.int .i64 0, .int .i64 0, .slice none 0 0, .int .i64 0, .slice none 0 0, .int .i64 0, .slice none 0 0, .int .i64 0, .int .i64 0, .int .i64 0, .slice none 0 0, .bool false, .bool false] HRZ.out (by kernel_rfl) rfl (Array.all_eq_true_iff_forall_mem.2 (by intro u hu; simp at hu; rcases hu with rfl | rfl | rfl | rfl | rfl | rfl | rfl | rfl | rfl | rfl | rfl | rfl | rfl <;> rfl)) ?_
    have RZ2 := hide (rowIs_setRow (cs' := [.int .i64 D5.reg.lim, .int .i64 D5.reg.top, .slice a1 D5.reg.es.length p1, .int .i64 D5.inr, .slice a2 D5.inT.length p2, .int .i64 D5.outr, .slice a3 D5.outT.length p3, .int .i64 D5.get, .int .i64 D5.give, .int .i64 D5.first, .slice a4 D5.flows.length p4, .bool D5.away, .bool D5.dead]) HRZ.out)
    have HB2 := hide (below_setRow HB.out (show w.heap.size ≤ w.heap.size + 1 by omega) #[.int .i64 D5.reg.lim, .int .i64 D5.reg.top, .slice a1 D5.reg.es.length p1, .int .i64 D5.inr, .slice a2 D5.inT.length p2, .int .i64 D5.outr, .slice a3 D5.outT.length p3, .int .i64 D5.get, .int .i64 D5.give, .int .i64 D5.first, .slice a4 D5.flows.length p4, .bool D5.away, .bool D5.dead])
    have hkx : ∀ q, w.heap.size + 2 ≤ q → (W9.setRow (w.heap.size + 1) #[.int .i64 D5.reg.lim, .int .i64 D5.reg.top, .slice a1 D5.reg.es.length p1, .int .i64 D5.inr, .slice a2 D5.inT.length p2, .int .i64 D5.outr, .slice a3 D5.outT.length p3, .int .i64 D5.get, .int .i64 D5.give, .int .i64 D5.first, .slice a4 D5.flows.length p4, .bool D5.away, .bool D5.dead]).heap[q]? = W9.heap[q]? := fun q hq => setRow_other _ _ _ _ (by omega)
    have HRL2 := hide (HRL.out.kept (hkx g HGZ.out))
    have HCN2 := hide (HCN.out.keep (w' := W9.setRow (w.heap.size + 1) #[.int .i64 D5.reg.lim, .int .i64 D5.reg.top, .slice a1 D5.reg.es.length p1, .int .i64 D5.inr, .slice a2 D5.inT.length p2, .int .i64 D5.outr, .slice a3 D5.outT.length p3, .int .i64 D5.get, .int .i64 D5.give, .int .i64 D5.first, .slice a4 D5.flows.length p4, .bool D5.away, .bool D5.dead]) (by rw [setRow_size]; exact Nat.le_refl _) (fun b hb => hkx b (HSL.out b hb)))
    have HFR2 := hide (owns_kept HFR.out (w' := W9.setRow (w.heap.size + 1) #[.int .i64 D5.reg.lim, .int .i64 D5.reg.top, .slice a1 D5.reg.es.length p1, .int .i64 D5.inr, .slice a2 D5.inT.length p2, .int .i64 D5.outr, .slice a3 D5.outT.length p3, .int .i64 D5.get, .int .i64 D5.give, .int .i64 D5.first, .slice a4 D5.flows.length p4, .bool D5.away, .bool D5.dead]) (fun q hq _ => hkx q (HTV.out q hq).2))
    refine hK.out _ _ HRL2.out (fun hS => ?_)
    clear hK K HRL HRZ HB HCN HFR hkx
    try simp only [Act.put, List.getElem_toArray, List.getElem_cons_succ, List.getElem_cons_zero, List.setIfInBounds_toArray, List.set_cons_zero, List.set_cons_succ]
    generalize W9.setRow (w.heap.size + 1) #[.int .i64 D5.reg.lim, .int .i64 D5.reg.top, .slice a1 D5.reg.es.length p1, .int .i64 D5.inr, .slice a2 D5.inT.length p2, .int .i64 D5.outr, .slice a3 D5.outT.length p3, .int .i64 D5.get, .int .i64 D5.give, .int .i64 D5.first, .slice a4 D5.flows.length p4, .bool D5.away, .bool D5.dead] = V2 at *
    refine wpAnyH_take (i := 6) (v := ?_) rfl (by kernel_rfl) (by kernel_rfl) (by kernel_rfl) (fun _ _ _ h => h) (Or.inl ⟨by rfl, ?_⟩) hS ?_; rotate_left; focus (intro w hw; clear hw; go_simp; try with_reducible rfl)
    refine wpAnyH_take (i := 7) (v := ?_) rfl (by kernel_rfl) (by kernel_rfl) (by kernel_rfl) (fun _ _ _ h => h) (Or.inl ⟨by rfl, ?_⟩) hS ?_; rotate_left; focus (intro w hw; clear hw; go_simp; try with_reducible rfl)
    refine wpAnyH_done (by kernel_rfl) ?_ _
    have z0 := RowIs.cell (j := 0) RZ2.out rfl
    have z1 := RowIs.cell (j := 1) RZ2.out rfl
    have z2 := RowIs.cell (j := 2) RZ2.out rfl
    have z3 := RowIs.cell (j := 3) RZ2.out rfl
    have z4 := RowIs.cell (j := 4) RZ2.out rfl
    have z5 := RowIs.cell (j := 5) RZ2.out rfl
    have z6 := RowIs.cell (j := 6) RZ2.out rfl
    have z7 := RowIs.cell (j := 7) RZ2.out rfl
    have z8 := RowIs.cell (j := 8) RZ2.out rfl
    have z9 := RowIs.cell (j := 9) RZ2.out rfl
    have z10 := RowIs.cell (j := 10) RZ2.out rfl
    have z11 := RowIs.cell (j := 11) RZ2.out rfl
    have z12 := RowIs.cell (j := 12) RZ2.out rfl
    have zf := fun j => RowIs.frozen RZ2.out j
    go_wp2_with fail
    refine bodyPost_ret (v := .tuple #[.agg #[.int .i64 D5.reg.lim, .int .i64 D5.reg.top, .slice a1 D5.reg.es.length p1, .int .i64 D5.inr, .slice a2 D5.inT.length p2, .int .i64 D5.outr, .slice a3 D5.outT.length p3, .int .i64 D5.get, .int .i64 D5.give, .int .i64 D5.first, .slice a4 D5.flows.length p4, .bool D5.away, .bool D5.dead], .slice a5 M.length p5, .string s9]) (by simp [results, Tryz.results28, go_sem, *]) rfl ?_
    rw [HGD.out]
    exact ⟨_, _, rfl, ⟨_, _, _, _, cb9, rfl, HCN2.out, fun b hb => by have := HSL.out b hb; omega, HFR2.out, fun q hq => (HTV.out q hq).1⟩, HB2.out⟩
  · have h4b : (stateD D.reg id != 4) = true := by simpa using h4
    obtain ⟨D2, LE2, hg2⟩ : ∃ D2 LE2, grantD D1 id s9.size = (D2, LE2) := ⟨_, _, rfl⟩
    have hgd : tookRaw D id n = ((grantD D2 0 s9.size).1, LE2 ++ (grantD D2 0 s9.size).2, s9) := by
      rw [HTK1.out, if_neg h4, hg2]
    have HGDR := hide hgd
    have HG2 := hide hg2
    have H2 : Hid (D2.get = D.get ∧ D2.reg = D1.reg ∧ D2.flows.length = D1.flows.length ∧ LE2.length ≤ 1) := by
      have h1 := grant_get (d := D1) (id := id) (n := s9.size) (by have := HZZ.out.2.2.2.2.2; omega)
      have h2 := grant_shape D1 id s9.size
      rw [hg2] at h1 h2
      exact ⟨h1.trans H1.out.2.1, h2⟩
    clear hgd HTK1 h4 hg2
    have hm1 := HL1.out.m
    go_wp2_with fail
    refine (implGiveBack w.heap.size g D1 M bs id s9.size _ hm1 HLN.out.1 HLN.out.2 (by have := HM1.out; omega) (by omega) (by have := HZZ.out.1; omega) (.inr ⟨k, by rw [H1.out.1]; exact HA.out⟩) (fun h => absurd h (by have := HZZ.out.2.2.2.2.2; omega)) (fun _ h j hj hx => by
      rw [H1.out.1, HA.out] at hx
      have e := (Option.some.inj hx).symm
      rw [H1.out.2.2.2 j hj e]; exact HGR.out _ HW9.out HZZ.out.2.2.1 h)).mono ?_; rw [HG2.out]; rintro x u6 ⟨rfl, bx, hl6⟩
    replace HL1 := hide (HL1.out.step hl6)
    clear hl6 hm1 h4b HG2
    have hm1 := HL1.out.m
    go_wp2_with fail
    refine (implGiveBack w.heap.size g D2 (M ++ LE2) bx 0 s9.size _ hm1 (by rw [H2.out.2.1, H2.out.2.2.1]; exact HLN.out.1) (by rw [H2.out.2.1]; exact HLN.out.2) (by rw [List.length_append]; have := HM1.out; have := H2.out.2.2.2; omega) (by omega) (by have := HZZ.out.1; omega) (.inl rfl) (fun _ h => by rw [H2.out.1]; exact HGR.out _ HW0.out HZZ.out.2.1 h) (fun h => absurd rfl h)).mono ?_; rintro x u7 ⟨rfl, by_, hl6⟩
    have hl7 := HL1.out.step hl6
    clear hl6 hm1
    obtain ⟨D5, hD5⟩ : ∃ D5, (grantD D2 0 s9.size).1 = D5 := ⟨_, rfl⟩
    obtain ⟨L5, hL5⟩ : ∃ L5, M ++ LE2 ++ (grantD D2 0 s9.size).2 = L5 := ⟨_, rfl⟩
    rw [hD5, hL5] at hl7
    have HGD : Hid (tookD D id n = (D5, L5, s9)) := by show _ = _; rw [HTR.out, HGDR.out, hD5, ← hL5, HM0.out, List.nil_append]
    clear HGDR hD5 hL5 HM0 HM1 HGR HW0 HW9 HL1 HTR HLN H1 H2 HLEN HA HZZ HGG HREG HOK
    have hzn : w.heap.size + 1 ∉ g :: bs := fun hx => by have := HBK.out _ hx; omega
    have HRZ2 := hide (hl7.box HRZ.out hzn)
    have HBN : Hid (∀ b ∈ g :: by_, w.heap.size + 2 ≤ b) := fun b hb => by
      rcases List.mem_cons.1 hb with e | e
      · rw [e]; exact HBK.out g (by simp)
      · rcases hl7.n b e with e | e
        · exact HBK.out b (by simp [e])
        · have := HRZ.out.lt; omega
    have HB3 := hide (below_turns HB.out hl7.t (fun x hx => by have := HBK.out x hx; omega) HB.out.size)
    have HLM5 := hide hl7.m
    clear hl7 HLM HRZ HB HBK hzn
    have HLM := hide HLM5.out
    have HRZ := hide HRZ2.out
    have HB := hide HB3.out
    have HBK := hide HBN.out
    clear HLM5 HRZ2 HB3 HBN
    generalize u7 = W at *
    clear M
    obtain ⟨M, hM⟩ : ∃ M : List Fr, L5 = M := ⟨_, rfl⟩
    rw [hM] at HLM HGD
    clear hM
    obtain ⟨⟨ve9, vi9, vo9, vf9, tv9, cb9, hrow, hcn, hfr, hsub, htv⟩, hlt9, hlo9, hng9, hbs9⟩ := HLM.out
    obtain ⟨a1, p1, rfl, _, _⟩ := hcn.rd.e.form
    obtain ⟨a2, p2, rfl, _, _⟩ := hcn.rd.i.form
    obtain ⟨a3, p3, rfl, _, _⟩ := hcn.rd.o.form
    obtain ⟨a4, p4, rfl, _, _⟩ := hcn.rd.f.form
    obtain ⟨a5, p5, rfl, _, _⟩ := owns_form hfr
    have HRL := hide hrow; have HCN := hide hcn; have HFR := hide hfr
    have HSL : Hid (∀ b ∈ cb9, w.heap.size + 2 ≤ b) := fun b hb => HBK.out b (by simp [hsub b hb])
    have HTV : Hid (∀ q, (Value.slice a5 M.length p5).ownBlock = some q → q ∉ cb9 ∧ w.heap.size + 2 ≤ q) := fun q hq => ⟨(htv q hq).2, HBK.out q (by simp [(htv q hq).1])⟩
    have HGZ : Hid (w.heap.size + 2 ≤ g) := HBK.out g (by simp)
    clear hrow hcn hfr hsub htv hlt9 hlo9 hng9 hbs9 HLM
    go_upto_region 11 with fail
    have hD : Below W.heap.size W (World.drew W) := (Below.refl _ _).drew
    replace HRL := hide (HRL.out.new hD)
    replace HRZ := hide (HRZ.out.new hD)
    replace HCN := hide (HCN.out.new hD)
    replace HFR := hide (owns_new HFR.out hD)
    replace HB := hide (bchain HB.out hD)
    clear hD
    refine wp_region_held_drew (S := fun u => RowIs u g 84 [.int .i64 D5.reg.lim, .int .i64 D5.reg.top, .slice a1 D5.reg.es.length p1, .int .i64 D5.inr, .slice a2 D5.inT.length p2, .int .i64 D5.outr, .slice a3 D5.outT.length p3, .int .i64 D5.get, .int .i64 D5.give, .int .i64 D5.first, .slice a4 D5.flows.length p4, .bool D5.away, .bool D5.dead, .slice a5 M.length p5]) (by kernel_rfl) HRL.out (fun hS => ?_)
    generalize World.drew W = W9 at *
    refine wpAnyH_take (i := 0) (v := ?_) rfl (by kernel_rfl) (by kernel_rfl) (by kernel_rfl) (fun _ _ _ h => h) (Or.inl ⟨by rfl, ?_⟩) hS ?_; rotate_left; focus (intro w hw; clear hw; go_simp; try with_reducible rfl)
    refine wpAnyH_take (i := 1) (v := .agg #[.int .i64 D5.reg.lim, .int .i64 D5.reg.top, .slice a1 D5.reg.es.length p1, .int .i64 D5.inr, .slice a2 D5.inT.length p2, .int .i64 D5.outr, .slice a3 D5.outT.length p3, .int .i64 D5.get, .int .i64 D5.give, .int .i64 D5.first, .slice a4 D5.flows.length p4, .bool D5.away, .bool D5.dead]) rfl (by kernel_rfl) (by kernel_rfl) (by kernel_rfl) (fun _ _ _ h => h) (Or.inl ⟨by kernel_rfl, ?ld⟩) hS ?_
    case ld =>
      intro uu hu
      have z0 := RowIs.cell (j := 0) hu rfl
      have z1 := RowIs.cell (j := 1) hu rfl
      have z2 := RowIs.cell (j := 2) hu rfl
      have z3 := RowIs.cell (j := 3) hu rfl
      have z4 := RowIs.cell (j := 4) hu rfl
      have z5 := RowIs.cell (j := 5) hu rfl
      have z6 := RowIs.cell (j := 6) hu rfl
      have z7 := RowIs.cell (j := 7) hu rfl
      have z8 := RowIs.cell (j := 8) hu rfl
      have z9 := RowIs.cell (j := 9) hu rfl
      have z10 := RowIs.cell (j := 10) hu rfl
      have z11 := RowIs.cell (j := 11) hu rfl
      have z12 := RowIs.cell (j := 12) hu rfl
      clear hu
      go_simp
    refine wpAnyH_take (i := 2) (v := ?_) rfl (by kernel_rfl) (by kernel_rfl) (by kernel_rfl) (fun _ _ _ h => h) (Or.inl ⟨by rfl, ?_⟩) hS ?_; rotate_left; focus (intro w hw; clear hw; go_simp; try with_reducible rfl)
    refine wpAnyH_take (i := 3) (v := .slice a5 M.length p5) rfl (by kernel_rfl) (by kernel_rfl) (by kernel_rfl) (fun _ _ _ h => h) (Or.inl ⟨by kernel_rfl, ?ld⟩) hS ?_; case ld => (intro uu hu; have z2 := RowIs.cell (j := 13) hu rfl; have z8 := hu.lt; clear hu; go_simp)
    refine wpAnyH_take (i := 4) (v := ?_) rfl (by kernel_rfl) (by kernel_rfl) (by kernel_rfl) (fun _ _ _ h => h) (Or.inl ⟨by rfl, ?_⟩) hS ?_; rotate_left; focus (intro w hw; clear hw; go_simp; try with_reducible rfl)
    refine wpAnyH_ready (rs := [5]) (by kernel_rfl) (by simp) ?_
    refine AllReadyH.cons rfl (fun K hK => ?_) AllReadyH.nil
    try simp only [Act.put, List.getElem_toArray, List.getElem_cons_succ, List.getElem_cons_zero, List.setIfInBounds_toArray, List.set_cons_zero, List.set_cons_succ]
    rw [if_pos (by kernel_rfl)]
    refine wp_store_row 32 _ _ (by rfl) (w.heap.size + 1) #[.int .i64 D5.reg.lim, .int .i64 D5.reg.top, .slice a1 D5.reg.es.length p1, .int .i64 D5.inr, .slice a2 D5.inT.length p2, .int .i64 D5.outr, .slice a3 D5.outT.length p3, .int .i64 D5.get, .int .i64 D5.give, .int .i64 D5.first, .slice a4 D5.flows.length p4, .bool D5.away, .bool D5.dead] (by rfl) (by rfl) 32 #[.int .i64 0, .int .i64 0, .slice none 0 0, .int .i64 0, .slice none 0 0, .int .i64 0, .slice none 0 0, .int .i64 0, .int .i64 0, .int .i64 0, .slice none 0 0, .bool false, .bool false] HRZ.out (by kernel_rfl) rfl (Array.all_eq_true_iff_forall_mem.2 (by intro u hu; simp at hu; rcases hu with rfl | rfl | rfl | rfl | rfl | rfl | rfl | rfl | rfl | rfl | rfl | rfl | rfl <;> rfl)) ?_
    have RZ2 := hide (rowIs_setRow (cs' := [.int .i64 D5.reg.lim, .int .i64 D5.reg.top, .slice a1 D5.reg.es.length p1, .int .i64 D5.inr, .slice a2 D5.inT.length p2, .int .i64 D5.outr, .slice a3 D5.outT.length p3, .int .i64 D5.get, .int .i64 D5.give, .int .i64 D5.first, .slice a4 D5.flows.length p4, .bool D5.away, .bool D5.dead]) HRZ.out)
    have HB2 := hide (below_setRow HB.out (show w.heap.size ≤ w.heap.size + 1 by omega) #[.int .i64 D5.reg.lim, .int .i64 D5.reg.top, .slice a1 D5.reg.es.length p1, .int .i64 D5.inr, .slice a2 D5.inT.length p2, .int .i64 D5.outr, .slice a3 D5.outT.length p3, .int .i64 D5.get, .int .i64 D5.give, .int .i64 D5.first, .slice a4 D5.flows.length p4, .bool D5.away, .bool D5.dead])
    have hkx : ∀ q, w.heap.size + 2 ≤ q → (W9.setRow (w.heap.size + 1) #[.int .i64 D5.reg.lim, .int .i64 D5.reg.top, .slice a1 D5.reg.es.length p1, .int .i64 D5.inr, .slice a2 D5.inT.length p2, .int .i64 D5.outr, .slice a3 D5.outT.length p3, .int .i64 D5.get, .int .i64 D5.give, .int .i64 D5.first, .slice a4 D5.flows.length p4, .bool D5.away, .bool D5.dead]).heap[q]? = W9.heap[q]? := fun q hq => setRow_other _ _ _ _ (by omega)
    have HRL2 := hide (HRL.out.kept (hkx g HGZ.out))
    have HCN2 := hide (HCN.out.keep (w' := W9.setRow (w.heap.size + 1) #[.int .i64 D5.reg.lim, .int .i64 D5.reg.top, .slice a1 D5.reg.es.length p1, .int .i64 D5.inr, .slice a2 D5.inT.length p2, .int .i64 D5.outr, .slice a3 D5.outT.length p3, .int .i64 D5.get, .int .i64 D5.give, .int .i64 D5.first, .slice a4 D5.flows.length p4, .bool D5.away, .bool D5.dead]) (by rw [setRow_size]; exact Nat.le_refl _) (fun b hb => hkx b (HSL.out b hb)))
    have HFR2 := hide (owns_kept HFR.out (w' := W9.setRow (w.heap.size + 1) #[.int .i64 D5.reg.lim, .int .i64 D5.reg.top, .slice a1 D5.reg.es.length p1, .int .i64 D5.inr, .slice a2 D5.inT.length p2, .int .i64 D5.outr, .slice a3 D5.outT.length p3, .int .i64 D5.get, .int .i64 D5.give, .int .i64 D5.first, .slice a4 D5.flows.length p4, .bool D5.away, .bool D5.dead]) (fun q hq _ => hkx q (HTV.out q hq).2))
    refine hK.out _ _ HRL2.out (fun hS => ?_)
    clear hK K HRL HRZ HB HCN HFR hkx
    try simp only [Act.put, List.getElem_toArray, List.getElem_cons_succ, List.getElem_cons_zero, List.setIfInBounds_toArray, List.set_cons_zero, List.set_cons_succ]
    generalize W9.setRow (w.heap.size + 1) #[.int .i64 D5.reg.lim, .int .i64 D5.reg.top, .slice a1 D5.reg.es.length p1, .int .i64 D5.inr, .slice a2 D5.inT.length p2, .int .i64 D5.outr, .slice a3 D5.outT.length p3, .int .i64 D5.get, .int .i64 D5.give, .int .i64 D5.first, .slice a4 D5.flows.length p4, .bool D5.away, .bool D5.dead] = V2 at *
    refine wpAnyH_take (i := 6) (v := ?_) rfl (by kernel_rfl) (by kernel_rfl) (by kernel_rfl) (fun _ _ _ h => h) (Or.inl ⟨by rfl, ?_⟩) hS ?_; rotate_left; focus (intro w hw; clear hw; go_simp; try with_reducible rfl)
    refine wpAnyH_take (i := 7) (v := ?_) rfl (by kernel_rfl) (by kernel_rfl) (by kernel_rfl) (fun _ _ _ h => h) (Or.inl ⟨by rfl, ?_⟩) hS ?_; rotate_left; focus (intro w hw; clear hw; go_simp; try with_reducible rfl)
    refine wpAnyH_done (by kernel_rfl) ?_ _
    have z0 := RowIs.cell (j := 0) RZ2.out rfl
    have z1 := RowIs.cell (j := 1) RZ2.out rfl
    have z2 := RowIs.cell (j := 2) RZ2.out rfl
    have z3 := RowIs.cell (j := 3) RZ2.out rfl
    have z4 := RowIs.cell (j := 4) RZ2.out rfl
    have z5 := RowIs.cell (j := 5) RZ2.out rfl
    have z6 := RowIs.cell (j := 6) RZ2.out rfl
    have z7 := RowIs.cell (j := 7) RZ2.out rfl
    have z8 := RowIs.cell (j := 8) RZ2.out rfl
    have z9 := RowIs.cell (j := 9) RZ2.out rfl
    have z10 := RowIs.cell (j := 10) RZ2.out rfl
    have z11 := RowIs.cell (j := 11) RZ2.out rfl
    have z12 := RowIs.cell (j := 12) RZ2.out rfl
    have zf := fun j => RowIs.frozen RZ2.out j
    go_wp2_with fail
    refine bodyPost_ret (v := .tuple #[.agg #[.int .i64 D5.reg.lim, .int .i64 D5.reg.top, .slice a1 D5.reg.es.length p1, .int .i64 D5.inr, .slice a2 D5.inT.length p2, .int .i64 D5.outr, .slice a3 D5.outT.length p3, .int .i64 D5.get, .int .i64 D5.give, .int .i64 D5.first, .slice a4 D5.flows.length p4, .bool D5.away, .bool D5.dead], .slice a5 M.length p5, .string s9]) (by simp [results, Tryz.results28, go_sem, *]) rfl ?_
    rw [HGD.out]
    exact ⟨_, _, rfl, ⟨_, _, _, _, cb9, rfl, HCN2.out, fun b hb => by have := HSL.out b hb; omega, HFR2.out, fun q hq => (HTV.out q hq).1⟩, HB2.out⟩
end Go.Proofs.YtfmeinkhdgbgjaaGreat
