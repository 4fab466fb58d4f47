/- The program's Given. -/
import Derived.Test.YtfmeinkhdgbgjaaGreatQGvLinkGot
import Derived.Test.YtfmeinkhdgbgjaaGreatQGvG23
namespace Go.Proofs.YtfmeinkhdgbgjaaGreat
open Go.RowKit
set_option maxRecDepth 100000
set_option linter.unusedSimpArgs false
set_option linter.unusedVariables false
theorem may_send {r : RegistryD} {id : Int} (h : msV (stateD r id) = true) : ∃ k, atE r.es id = some k := by
  refine state_at (r := r) (id := id) (fun e => ?_) (fun e => ?_)
  · rw [e] at h; exact absurd h (by decide)
  · rw [e] at h; exact absurd h (by decide)
theorem state_is {r : RegistryD} {id : Int} {k : Nat} (h : atE r.es id = some k) (hk : k < r.es.length) : stateD r id = r.es[k].state := by unfold stateD; rw [h]; simp [hk]
theorem given_not {c : CnD} {id : Int} {s : ByteArray} {fin : Bool} (hok : okCn c = true) (h : c.dead = true ∨ msV (stateD c.reg id) = false) : givenRaw c id s fin = (c, 0) := by
  cases ha : atE c.reg.es id with
  | none => exact given_none ha
  | some k =>
    obtain ⟨hk, _, _⟩ := atE_some ha
    have hkf : k < c.flows.length := by rw [(cn_len hok).1]; exact hk
    rw [given_some ha hkf hk, if_pos]
    rw [← state_is ha hk]
    exact h
set_option maxHeartbeats 16000000 in
theorem implGiven (d : CnD) (ve vi vo vf : Value) (id : Int) (s : ByteArray) (fin : Bool) (w : World) (hv : CnRd w d ve vi vo vf) (hs : s.size ≤ 1048576) :
    Calls Tryz.prog 36 #[cnv d ve vi vo vf, .int .i64 id, .string s, .bool fin] w fun x w' => ∃ v, x = .returned (.tuple #[v, .int .i64 (givenD d id s fin).2]) ∧ NewC w.heap.size (givenD d id s fin).1 v w' ∧ Below w.heap.size w w' := by
  have HV := hide hv
  obtain ⟨ae, pe, rfl, _, _⟩ := hv.e.form
  obtain ⟨ai, pi, rfl, _, _⟩ := hv.i.form
  obtain ⟨ao, po, rfl, _, _⟩ := hv.o.form
  obtain ⟨af, pf, rfl, _, _⟩ := hv.f.form
  clear hv
  have hbA : Below w.heap.size w ((w.alloc (.cells #[.int .i64 d.reg.lim, .int .i64 d.reg.top, .slice ae d.reg.es.length pe, .int .i64 d.inr, .slice ai d.inT.length pi, .int .i64 d.outr, .slice ao d.outT.length po, .int .i64 d.get, .int .i64 d.give, .int .i64 d.first, .slice af d.flows.length pf, .bool d.away, .bool d.dead] 32)).alloc (.cells #[.int .i64 0, .int .i64 0, .slice none 0 0, .int .i64 0, .slice none 0 0, .int .i64 0, .slice none 0 0, .int .i64 0, .int .i64 0, .int .i64 0, .slice none 0 0, .bool false, .bool false] 32)) := ((Below.refl _ _).alloc (Nat.le_refl _) _).alloc (by simp) _
  have RA := (rowIs_new w 32 [.int .i64 d.reg.lim, .int .i64 d.reg.top, .slice ae d.reg.es.length pe, .int .i64 d.inr, .slice ai d.inT.length pi, .int .i64 d.outr, .slice ao d.outT.length po, .int .i64 d.get, .int .i64 d.give, .int .i64 d.first, .slice af d.flows.length pf, .bool d.away, .bool d.dead]).alloc (.cells #[.int .i64 0, .int .i64 0, .slice none 0 0, .int .i64 0, .slice none 0 0, .int .i64 0, .slice none 0 0, .int .i64 0, .int .i64 0, .int .i64 0, .slice none 0 0, .bool false, .bool false] 32)
  have RZ := rowIs_new (w.alloc (.cells #[.int .i64 d.reg.lim, .int .i64 d.reg.top, .slice ae d.reg.es.length pe, .int .i64 d.inr, .slice ai d.inT.length pi, .int .i64 d.outr, .slice ao d.outT.length po, .int .i64 d.get, .int .i64 d.give, .int .i64 d.first, .slice af d.flows.length pf, .bool d.away, .bool d.dead] 32)) 32 [.int .i64 0, .int .i64 0, .slice none 0 0, .int .i64 0, .slice none 0 0, .int .i64 0, .slice none 0 0, .int .i64 0, .int .i64 0, .int .i64 0, .slice none 0 0, .bool false, .bool false]
  have hsz : (w.alloc (.cells #[.int .i64 d.reg.lim, .int .i64 d.reg.top, .slice ae d.reg.es.length pe, .int .i64 d.inr, .slice ai d.inT.length pi, .int .i64 d.outr, .slice ao d.outT.length po, .int .i64 d.get, .int .i64 d.give, .int .i64 d.first, .slice af d.flows.length pf, .bool d.away, .bool d.dead] 32)).heap.size = w.heap.size + 1 := by simp
  have hsz3 : ((w.alloc (.cells #[.int .i64 d.reg.lim, .int .i64 d.reg.top, .slice ae d.reg.es.length pe, .int .i64 d.inr, .slice ai d.inT.length pi, .int .i64 d.outr, .slice ao d.outT.length po, .int .i64 d.get, .int .i64 d.give, .int .i64 d.first, .slice af d.flows.length pf, .bool d.away, .bool d.dead] 32)).alloc (.cells #[.int .i64 0, .int .i64 0, .slice none 0 0, .int .i64 0, .slice none 0 0, .int .i64 0, .slice none 0 0, .int .i64 0, .int .i64 0, .int .i64 0, .slice none 0 0, .bool false, .bool false] 32)).heap.size = w.heap.size + 2 := by simp
  rw [hsz] at RZ
  obtain ⟨V, hV⟩ : ∃ V, (w.alloc (.cells #[.int .i64 d.reg.lim, .int .i64 d.reg.top, .slice ae d.reg.es.length pe, .int .i64 d.inr, .slice ai d.inT.length pi, .int .i64 d.outr, .slice ao d.outT.length po, .int .i64 d.get, .int .i64 d.give, .int .i64 d.first, .slice af d.flows.length pf, .bool d.away, .bool d.dead] 32)).alloc (.cells #[.int .i64 0, .int .i64 0, .slice none 0 0, .int .i64 0, .slice none 0 0, .int .i64 0, .slice none 0 0, .int .i64 0, .int .i64 0, .int .i64 0, .slice none 0 0, .bool false, .bool false] 32) = V := ⟨_, rfl⟩
  rw [hV] at hbA RA RZ hsz3
  have HB := hide hbA
  have HS3 := hide hsz3
  clear hsz hsz3 hbA
  go_enter Tryz.func36, Tryz.ntmps36
  go_upto_region 1 with fail
  try rw [hV]
  clear hV
  go_cut [10, 11] (fun p y wc => ∃ g D bs, p = .pointer (some ⟨g, 0, none⟩) ∧ y = .bool (okCn d && !d.dead) ∧ Hid (LkM wc w.heap.size g D [] bs) ∧ Hid (RowIs wc (w.heap.size + 1) 32 [.int .i64 0, .int .i64 0, .slice none 0 0, .int .i64 0, .slice none 0 0, .int .i64 0, .slice none 0 0, .int .i64 0, .int .i64 0, .int .i64 0, .slice none 0 0, .bool false, .bool false] ) ∧ Hid (Below w.heap.size w wc) ∧ Hid (D = if okCn d then d else zCn) ∧ Hid (∀ b ∈ g :: bs, w.heap.size + 2 ≤ b))
  case first =>
    cases hok : okCn d
    · go_wp2_with (refine wpList_load_row (by rfl) 32 _ (by rfl) w.heap.size (by rfl) [.int .i64 d.reg.lim, .int .i64 d.reg.top, .slice ae d.reg.es.length pe, .int .i64 d.inr, .slice ai d.inT.length pi, .int .i64 d.outr, .slice ao d.outT.length po, .int .i64 d.get, .int .i64 d.give, .int .i64 d.first, .slice af d.flows.length pf, .bool d.away, .bool d.dead] _ 32 RA Tryz.underlying32 rfl (by kernel_rfl) ?_)
      refine (implLinkNo d _ _ _ _ _ (HV.out.new HB.out) hok).mono ?_; rintro e w1 ⟨rfl, hb1⟩
      have hz1 := hb1.size
      have HLM := hide (lkM_new (cnow_zero w1) (lo := w.heap.size) (fun b hb => by cases hb) (by have := HS3.out; omega))
      have hbx : Below w1.heap.size w1 (w1.alloc (.cells (lkcs zCn (.slice none 0 0) (.slice none 0 0) (.slice none 0 0) (.slice none 0 0) (.slice none 0 0)).toArray 84)) := (Below.refl _ _).alloc (Nat.le_refl _) _
      have HZ1 := hide ((RZ.new hb1).new hbx)
      have HB1 := hide (bchain (bchain HB.out hb1) hbx)
      have HK1 : Hid (∀ b ∈ w1.heap.size :: ([] : List Nat), w.heap.size + 2 ≤ b) := fun b hb => by simp at hb; have := HS3.out; omega
      clear hb1 hbx RA RZ HB hz1
      go_wp2_with fail
      go_meet
      exact ⟨_, _, _, rfl, (by rw [hok]; rfl), HLM, HZ1, HB1, (by show _ = _; rw [hok]; rfl), HK1⟩
    · go_wp2_with (refine wpList_load_row (by rfl) 32 _ (by rfl) w.heap.size (by rfl) [.int .i64 d.reg.lim, .int .i64 d.reg.top, .slice ae d.reg.es.length pe, .int .i64 d.inr, .slice ai d.inT.length pi, .int .i64 d.outr, .slice ao d.outT.length po, .int .i64 d.get, .int .i64 d.give, .int .i64 d.first, .slice af d.flows.length pf, .bool d.away, .bool d.dead] _ 32 RA Tryz.underlying32 rfl (by kernel_rfl) ?_)
      refine (implLinkOf d _ _ _ _ _ (HV.out.new HB.out) hok).mono ?_; rintro e w1 ⟨v1, v2, v3, v4, bs, rfl, hcn, hlo, hb1⟩
      obtain ⟨a1, p1, rfl, _, _⟩ := hcn.rd.e.form
      obtain ⟨a2, p2, rfl, _, _⟩ := hcn.rd.i.form
      obtain ⟨a3, p3, rfl, _, _⟩ := hcn.rd.o.form
      obtain ⟨a4, p4, rfl, _, _⟩ := hcn.rd.f.form
      have hz1 := hb1.size
      have HLM := hide (lkM_new hcn (lo := w.heap.size) (fun b hb => by have := hlo b hb; have := HS3.out; omega) (by have := HS3.out; omega))
      have hbx : Below w1.heap.size w1 (w1.alloc (.cells (lkcs d (.slice a1 d.reg.es.length p1) (.slice a2 d.inT.length p2) (.slice a3 d.outT.length p3) (.slice a4 d.flows.length p4) (.slice none 0 0)).toArray 84)) := (Below.refl _ _).alloc (Nat.le_refl _) _
      have HZ1 := hide ((RZ.new hb1).new hbx)
      have HB1 := hide (bchain (bchain HB.out hb1) hbx)
      have HK1 : Hid (∀ b ∈ w1.heap.size :: bs, w.heap.size + 2 ≤ b) := fun b hb => by
        have h3 := HS3.out
        rcases List.mem_cons.1 hb with e | e
        · omega
        · have := hlo b e; omega
      clear hb1 hbx RA RZ HB hz1 hcn hlo
      go_wp2_with fail
      go_meet
      exact ⟨_, _, _, rfl, (by rw [hok]; rfl), HLM, HZ1, HB1, (by show _ = _; rw [hok]; rfl), HK1⟩
  obtain ⟨g, D, bs, rfl, rfl, HLM, HRZ, HB, HDD, HBK⟩ := hcut
  clear RA RZ HS3 HV
  obtain ⟨M, hM⟩ : ∃ M : List Fr, M = [] := ⟨_, rfl⟩
  rw [← hM] at HLM
  have HM0 := hide hM
  clear hM
  cases hok : okCn d
  · have HGD : Hid (givenD d id s fin = (D, 0)) := by
      show _ = _
      rw [HDD.out, hok]; unfold givenD; rw [if_pos hok]; rfl
    clear HDD
    obtain ⟨⟨ve9, vi9, vo9, vf9, tv9, cb9, hrow, hcn, hfr, hsub, htv⟩, hlt9, hlo9, hng9, hbs9⟩ := HLM.out
    obtain ⟨a1, p1, rfl, _, _⟩ := hcn.rd.e.form
    obtain ⟨a2, p2, rfl, _, _⟩ := hcn.rd.i.form
    obtain ⟨a3, p3, rfl, _, _⟩ := hcn.rd.o.form
    obtain ⟨a4, p4, rfl, _, _⟩ := hcn.rd.f.form
    obtain ⟨a5, p5, rfl, _, _⟩ := owns_form hfr
    have HPM := hide (⟨hrow, rfl⟩ : MidIs wc g 84 [] [.slice a5 M.length p5] 0 [.int .i64 D.reg.lim, .int .i64 D.reg.top, .slice a1 D.reg.es.length p1, .int .i64 D.inr, .slice a2 D.inT.length p2, .int .i64 D.outr, .slice a3 D.outT.length p3, .int .i64 D.get, .int .i64 D.give, .int .i64 D.first, .slice a4 D.flows.length p4, .bool D.away, .bool D.dead])
    have HCN := hide hcn
    have HSL : Hid (∀ b ∈ cb9, w.heap.size + 2 ≤ b) := fun b hb => HBK.out b (by simp [hsub b hb])
    clear hrow hcn hfr hsub htv hlt9 hlo9 hng9 hbs9 HLM
    have RZ2 := hide (rowIs_setRow (cs' := [.int .i64 D.reg.lim, .int .i64 D.reg.top, .slice a1 D.reg.es.length p1, .int .i64 D.inr, .slice a2 D.inT.length p2, .int .i64 D.outr, .slice a3 D.outT.length p3, .int .i64 D.get, .int .i64 D.give, .int .i64 D.first, .slice a4 D.flows.length p4, .bool D.away, .bool D.dead]) HRZ.out)
    have HB2 := hide (below_setRow HB.out (show w.heap.size ≤ w.heap.size + 1 by omega) #[.int .i64 D.reg.lim, .int .i64 D.reg.top, .slice a1 D.reg.es.length p1, .int .i64 D.inr, .slice a2 D.inT.length p2, .int .i64 D.outr, .slice a3 D.outT.length p3, .int .i64 D.get, .int .i64 D.give, .int .i64 D.first, .slice a4 D.flows.length p4, .bool D.away, .bool D.dead])
    have HCN2 := hide (HCN.out.keep (w' := wc.setRow (w.heap.size + 1) #[.int .i64 D.reg.lim, .int .i64 D.reg.top, .slice a1 D.reg.es.length p1, .int .i64 D.inr, .slice a2 D.inT.length p2, .int .i64 D.outr, .slice a3 D.outT.length p3, .int .i64 D.get, .int .i64 D.give, .int .i64 D.first, .slice a4 D.flows.length p4, .bool D.away, .bool D.dead]) (by rw [setRow_size]; exact Nat.le_refl _) (fun b hb => setRow_other _ _ _ _ (by have := HSL.out b hb; omega)))
    go_wp2_with (first | (refine wpList_load_mid (by rfl) 32 _ (by rfl) g 0 (by rfl) [.int .i64 D.reg.lim, .int .i64 D.reg.top, .slice a1 D.reg.es.length p1, .int .i64 D.inr, .slice a2 D.inT.length p2, .int .i64 D.outr, .slice a3 D.outT.length p3, .int .i64 D.get, .int .i64 D.give, .int .i64 D.first, .slice a4 D.flows.length p4, .bool D.away, .bool D.dead] _ (fun j u hu => HPM.out.cell hu) Tryz.underlying32 rfl (by kernel_rfl) ?_) | (refine wpList_store_row (by rfl) 32 _ _ (by rfl) (w.heap.size + 1) [.int .i64 D.reg.lim, .int .i64 D.reg.top, .slice a1 D.reg.es.length p1, .int .i64 D.inr, .slice a2 D.inT.length p2, .int .i64 D.outr, .slice a3 D.outT.length p3, .int .i64 D.get, .int .i64 D.give, .int .i64 D.first, .slice a4 D.flows.length p4, .bool D.away, .bool D.dead] (by rfl) (by rfl) 32 [.int .i64 0, .int .i64 0, .slice none 0 0, .int .i64 0, .slice none 0 0, .int .i64 0, .slice none 0 0, .int .i64 0, .int .i64 0, .int .i64 0, .slice none 0 0, .bool false, .bool false] HRZ.out (by kernel_rfl) rfl (by intro u hu; simp at hu; rcases hu with rfl | rfl | rfl | rfl | rfl | rfl | rfl | rfl | rfl | rfl | rfl | rfl | rfl <;> rfl) ?_))
    generalize wc.setRow (w.heap.size + 1) #[.int .i64 D.reg.lim, .int .i64 D.reg.top, .slice a1 D.reg.es.length p1, .int .i64 D.inr, .slice a2 D.inT.length p2, .int .i64 D.outr, .slice a3 D.outT.length p3, .int .i64 D.get, .int .i64 D.give, .int .i64 D.first, .slice a4 D.flows.length p4, .bool D.away, .bool D.dead] = V2 at *
    have z0 := RowIs.cell (j := 0) RZ2.out rfl
    have z1 := RowIs.cell (j := 1) RZ2.out rfl
    have z2 := RowIs.cell (j := 2) RZ2.out rfl
    have z3 := RowIs.cell (j := 3) RZ2.out rfl
    have z4 := RowIs.cell (j := 4) RZ2.out rfl
    have z5 := RowIs.cell (j := 5) RZ2.out rfl
    have z6 := RowIs.cell (j := 6) RZ2.out rfl
    have z7 := RowIs.cell (j := 7) RZ2.out rfl
    have z8 := RowIs.cell (j := 8) RZ2.out rfl
    have z9 := RowIs.cell (j := 9) RZ2.out rfl
    have z10 := RowIs.cell (j := 10) RZ2.out rfl
    have z11 := RowIs.cell (j := 11) RZ2.out rfl
    have z12 := RowIs.cell (j := 12) RZ2.out rfl
    have zf := fun j => RowIs.frozen RZ2.out j
    refine bodyPost_ret (v := .tuple #[.agg #[.int .i64 D.reg.lim, .int .i64 D.reg.top, .slice a1 D.reg.es.length p1, .int .i64 D.inr, .slice a2 D.inT.length p2, .int .i64 D.outr, .slice a3 D.outT.length p3, .int .i64 D.get, .int .i64 D.give, .int .i64 D.first, .slice a4 D.flows.length p4, .bool D.away, .bool D.dead], .int .i64 0]) (by simp [results, Tryz.results36, go_sem, *]) rfl ?_
    rw [HGD.out]
    exact ⟨_, rfl, ⟨_, _, _, _, cb9, rfl, HCN2.out, fun b hb => by have := HSL.out b hb; omega⟩, HB2.out⟩
  have hD0 : D = d := by rw [HDD.out, hok]; rfl
  subst hD0
  cases hde : D.dead
  rotate_left
  · have HGD : Hid (givenD D id s fin = (D, 0)) := by
      show _ = _
      unfold givenD
      rw [if_neg (by rw [hok]; decide)]
      exact given_not hok (.inl hde)
    clear HDD hok hde
    obtain ⟨⟨ve9, vi9, vo9, vf9, tv9, cb9, hrow, hcn, hfr, hsub, htv⟩, hlt9, hlo9, hng9, hbs9⟩ := HLM.out
    obtain ⟨a1, p1, rfl, _, _⟩ := hcn.rd.e.form
    obtain ⟨a2, p2, rfl, _, _⟩ := hcn.rd.i.form
    obtain ⟨a3, p3, rfl, _, _⟩ := hcn.rd.o.form
    obtain ⟨a4, p4, rfl, _, _⟩ := hcn.rd.f.form
    obtain ⟨a5, p5, rfl, _, _⟩ := owns_form hfr
    have HPM := hide (⟨hrow, rfl⟩ : MidIs wc g 84 [] [.slice a5 M.length p5] 0 [.int .i64 D.reg.lim, .int .i64 D.reg.top, .slice a1 D.reg.es.length p1, .int .i64 D.inr, .slice a2 D.inT.length p2, .int .i64 D.outr, .slice a3 D.outT.length p3, .int .i64 D.get, .int .i64 D.give, .int .i64 D.first, .slice a4 D.flows.length p4, .bool D.away, .bool D.dead])
    have HCN := hide hcn
    have HSL : Hid (∀ b ∈ cb9, w.heap.size + 2 ≤ b) := fun b hb => HBK.out b (by simp [hsub b hb])
    clear hrow hcn hfr hsub htv hlt9 hlo9 hng9 hbs9 HLM
    have RZ2 := hide (rowIs_setRow (cs' := [.int .i64 D.reg.lim, .int .i64 D.reg.top, .slice a1 D.reg.es.length p1, .int .i64 D.inr, .slice a2 D.inT.length p2, .int .i64 D.outr, .slice a3 D.outT.length p3, .int .i64 D.get, .int .i64 D.give, .int .i64 D.first, .slice a4 D.flows.length p4, .bool D.away, .bool D.dead]) HRZ.out)
    have HB2 := hide (below_setRow HB.out (show w.heap.size ≤ w.heap.size + 1 by omega) #[.int .i64 D.reg.lim, .int .i64 D.reg.top, .slice a1 D.reg.es.length p1, .int .i64 D.inr, .slice a2 D.inT.length p2, .int .i64 D.outr, .slice a3 D.outT.length p3, .int .i64 D.get, .int .i64 D.give, .int .i64 D.first, .slice a4 D.flows.length p4, .bool D.away, .bool D.dead])
    have HCN2 := hide (HCN.out.keep (w' := wc.setRow (w.heap.size + 1) #[.int .i64 D.reg.lim, .int .i64 D.reg.top, .slice a1 D.reg.es.length p1, .int .i64 D.inr, .slice a2 D.inT.length p2, .int .i64 D.outr, .slice a3 D.outT.length p3, .int .i64 D.get, .int .i64 D.give, .int .i64 D.first, .slice a4 D.flows.length p4, .bool D.away, .bool D.dead]) (by rw [setRow_size]; exact Nat.le_refl _) (fun b hb => setRow_other _ _ _ _ (by have := HSL.out b hb; omega)))
    go_wp2_with (first | (refine wpList_load_mid (by rfl) 32 _ (by rfl) g 0 (by rfl) [.int .i64 D.reg.lim, .int .i64 D.reg.top, .slice a1 D.reg.es.length p1, .int .i64 D.inr, .slice a2 D.inT.length p2, .int .i64 D.outr, .slice a3 D.outT.length p3, .int .i64 D.get, .int .i64 D.give, .int .i64 D.first, .slice a4 D.flows.length p4, .bool D.away, .bool D.dead] _ (fun j u hu => HPM.out.cell hu) Tryz.underlying32 rfl (by kernel_rfl) ?_) | (refine wpList_store_row (by rfl) 32 _ _ (by rfl) (w.heap.size + 1) [.int .i64 D.reg.lim, .int .i64 D.reg.top, .slice a1 D.reg.es.length p1, .int .i64 D.inr, .slice a2 D.inT.length p2, .int .i64 D.outr, .slice a3 D.outT.length p3, .int .i64 D.get, .int .i64 D.give, .int .i64 D.first, .slice a4 D.flows.length p4, .bool D.away, .bool D.dead] (by rfl) (by rfl) 32 [.int .i64 0, .int .i64 0, .slice none 0 0, .int .i64 0, .slice none 0 0, .int .i64 0, .slice none 0 0, .int .i64 0, .int .i64 0, .int .i64 0, .slice none 0 0, .bool false, .bool false] HRZ.out (by kernel_rfl) rfl (by intro u hu; simp at hu; rcases hu with rfl | rfl | rfl | rfl | rfl | rfl | rfl | rfl | rfl | rfl | rfl | rfl | rfl <;> rfl) ?_))
    generalize wc.setRow (w.heap.size + 1) #[.int .i64 D.reg.lim, .int .i64 D.reg.top, .slice a1 D.reg.es.length p1, .int .i64 D.inr, .slice a2 D.inT.length p2, .int .i64 D.outr, .slice a3 D.outT.length p3, .int .i64 D.get, .int .i64 D.give, .int .i64 D.first, .slice a4 D.flows.length p4, .bool D.away, .bool D.dead] = V2 at *
    have z0 := RowIs.cell (j := 0) RZ2.out rfl
    have z1 := RowIs.cell (j := 1) RZ2.out rfl
    have z2 := RowIs.cell (j := 2) RZ2.out rfl
    have z3 := RowIs.cell (j := 3) RZ2.out rfl
    have z4 := RowIs.cell (j := 4) RZ2.out rfl
    have z5 := RowIs.cell (j := 5) RZ2.out rfl
    have z6 := RowIs.cell (j := 6) RZ2.out rfl
    have z7 := RowIs.cell (j := 7) RZ2.out rfl
    have z8 := RowIs.cell (j := 8) RZ2.out rfl
    have z9 := RowIs.cell (j := 9) RZ2.out rfl
    have z10 := RowIs.cell (j := 10) RZ2.out rfl
    have z11 := RowIs.cell (j := 11) RZ2.out rfl
    have z12 := RowIs.cell (j := 12) RZ2.out rfl
    have zf := fun j => RowIs.frozen RZ2.out j
    refine bodyPost_ret (v := .tuple #[.agg #[.int .i64 D.reg.lim, .int .i64 D.reg.top, .slice a1 D.reg.es.length p1, .int .i64 D.inr, .slice a2 D.inT.length p2, .int .i64 D.outr, .slice a3 D.outT.length p3, .int .i64 D.get, .int .i64 D.give, .int .i64 D.first, .slice a4 D.flows.length p4, .bool D.away, .bool D.dead], .int .i64 0]) (by simp [results, Tryz.results36, go_sem, *]) rfl ?_
    rw [HGD.out]
    exact ⟨_, rfl, ⟨_, _, _, _, cb9, rfl, HCN2.out, fun b hb => by have := HSL.out b hb; omega⟩, HB2.out⟩
  have HOK := hide hok
  have HDE := hide hde
  have hm := HLM.out
  have hreg := (okCn_iff.1 hok).1
  clear HDD
  go_wp2_with fail
  refine (implMaySendL w.heap.size g D M bs id _ hm hreg).mono ?_; rintro e w2 ⟨rfl, hb2⟩
  replace HLM := hide (HLM.out.new hb2)
  replace HRZ := hide (HRZ.out.new hb2)
  replace HB := hide (bchain HB.out hb2)
  clear hb2 hm hok hde
  cases hms : msV (stateD D.reg id)
  · have HGD : Hid (givenD D id s fin = (D, 0)) := by
      show _ = _
      unfold givenD
      rw [if_neg (by rw [HOK.out]; decide)]
      exact given_not HOK.out (.inr hms)
    clear hms
    obtain ⟨⟨ve9, vi9, vo9, vf9, tv9, cb9, hrow, hcn, hfr, hsub, htv⟩, hlt9, hlo9, hng9, hbs9⟩ := HLM.out
    obtain ⟨a1, p1, rfl, _, _⟩ := hcn.rd.e.form
    obtain ⟨a2, p2, rfl, _, _⟩ := hcn.rd.i.form
    obtain ⟨a3, p3, rfl, _, _⟩ := hcn.rd.o.form
    obtain ⟨a4, p4, rfl, _, _⟩ := hcn.rd.f.form
    obtain ⟨a5, p5, rfl, _, _⟩ := owns_form hfr
    have HPM := hide (⟨hrow, rfl⟩ : MidIs w2 g 84 [] [.slice a5 M.length p5] 0 [.int .i64 D.reg.lim, .int .i64 D.reg.top, .slice a1 D.reg.es.length p1, .int .i64 D.inr, .slice a2 D.inT.length p2, .int .i64 D.outr, .slice a3 D.outT.length p3, .int .i64 D.get, .int .i64 D.give, .int .i64 D.first, .slice a4 D.flows.length p4, .bool D.away, .bool D.dead])
    have HCN := hide hcn
    have HSL : Hid (∀ b ∈ cb9, w.heap.size + 2 ≤ b) := fun b hb => HBK.out b (by simp [hsub b hb])
    clear hrow hcn hfr hsub htv hlt9 hlo9 hng9 hbs9 HLM
    have RZ2 := hide (rowIs_setRow (cs' := [.int .i64 D.reg.lim, .int .i64 D.reg.top, .slice a1 D.reg.es.length p1, .int .i64 D.inr, .slice a2 D.inT.length p2, .int .i64 D.outr, .slice a3 D.outT.length p3, .int .i64 D.get, .int .i64 D.give, .int .i64 D.first, .slice a4 D.flows.length p4, .bool D.away, .bool D.dead]) HRZ.out)
    have HB2 := hide (below_setRow HB.out (show w.heap.size ≤ w.heap.size + 1 by omega) #[.int .i64 D.reg.lim, .int .i64 D.reg.top, .slice a1 D.reg.es.length p1, .int .i64 D.inr, .slice a2 D.inT.length p2, .int .i64 D.outr, .slice a3 D.outT.length p3, .int .i64 D.get, .int .i64 D.give, .int .i64 D.first, .slice a4 D.flows.length p4, .bool D.away, .bool D.dead])
    have HCN2 := hide (HCN.out.keep (w' := w2.setRow (w.heap.size + 1) #[.int .i64 D.reg.lim, .int .i64 D.reg.top, .slice a1 D.reg.es.length p1, .int .i64 D.inr, .slice a2 D.inT.length p2, .int .i64 D.outr, .slice a3 D.outT.length p3, .int .i64 D.get, .int .i64 D.give, .int .i64 D.first, .slice a4 D.flows.length p4, .bool D.away, .bool D.dead]) (by rw [setRow_size]; exact Nat.le_refl _) (fun b hb => setRow_other _ _ _ _ (by have := HSL.out b hb; omega)))
    go_wp2_with (first | (refine wpList_load_mid (by rfl) 32 _ (by rfl) g 0 (by rfl) [.int .i64 D.reg.lim, .int .i64 D.reg.top, .slice a1 D.reg.es.length p1, .int .i64 D.inr, .slice a2 D.inT.length p2, .int .i64 D.outr, .slice a3 D.outT.length p3, .int .i64 D.get, .int .i64 D.give, .int .i64 D.first, .slice a4 D.flows.length p4, .bool D.away, .bool D.dead] _ (fun j u hu => HPM.out.cell hu) Tryz.underlying32 rfl (by kernel_rfl) ?_) | (refine wpList_store_row (by rfl) 32 _ _ (by rfl) (w.heap.size + 1) [.int .i64 D.reg.lim, .int .i64 D.reg.top, .slice a1 D.reg.es.length p1, .int .i64 D.inr, .slice a2 D.inT.length p2, .int .i64 D.outr, .slice a3 D.outT.length p3, .int .i64 D.get, .int .i64 D.give, .int .i64 D.first, .slice a4 D.flows.length p4, .bool D.away, .bool D.dead] (by rfl) (by rfl) 32 [.int .i64 0, .int .i64 0, .slice none 0 0, .int .i64 0, .slice none 0 0, .int .i64 0, .slice none 0 0, .int .i64 0, .int .i64 0, .int .i64 0, .slice none 0 0, .bool false, .bool false] HRZ.out (by kernel_rfl) rfl (by intro u hu; simp at hu; rcases hu with rfl | rfl | rfl | rfl | rfl | rfl | rfl | rfl | rfl | rfl | rfl | rfl | rfl <;> rfl) ?_))
    generalize w2.setRow (w.heap.size + 1) #[.int .i64 D.reg.lim, .int .i64 D.reg.top, .slice a1 D.reg.es.length p1, .int .i64 D.inr, .slice a2 D.inT.length p2, .int .i64 D.outr, .slice a3 D.outT.length p3, .int .i64 D.get, .int .i64 D.give, .int .i64 D.first, .slice a4 D.flows.length p4, .bool D.away, .bool D.dead] = V2 at *
    have z0 := RowIs.cell (j := 0) RZ2.out rfl
    have z1 := RowIs.cell (j := 1) RZ2.out rfl
    have z2 := RowIs.cell (j := 2) RZ2.out rfl
    have z3 := RowIs.cell (j := 3) RZ2.out rfl
    have z4 := RowIs.cell (j := 4) RZ2.out rfl
    have z5 := RowIs.cell (j := 5) RZ2.out rfl
    have z6 := RowIs.cell (j := 6) RZ2.out rfl
    have z7 := RowIs.cell (j := 7) RZ2.out rfl
    have z8 := RowIs.cell (j := 8) RZ2.out rfl
    have z9 := RowIs.cell (j := 9) RZ2.out rfl
    have z10 := RowIs.cell (j := 10) RZ2.out rfl
    have z11 := RowIs.cell (j := 11) RZ2.out rfl
    have z12 := RowIs.cell (j := 12) RZ2.out rfl
    have zf := fun j => RowIs.frozen RZ2.out j
    refine bodyPost_ret (v := .tuple #[.agg #[.int .i64 D.reg.lim, .int .i64 D.reg.top, .slice a1 D.reg.es.length p1, .int .i64 D.inr, .slice a2 D.inT.length p2, .int .i64 D.outr, .slice a3 D.outT.length p3, .int .i64 D.get, .int .i64 D.give, .int .i64 D.first, .slice a4 D.flows.length p4, .bool D.away, .bool D.dead], .int .i64 0]) (by simp [results, Tryz.results36, go_sem, *]) rfl ?_
    rw [HGD.out]
    exact ⟨_, rfl, ⟨_, _, _, _, cb9, rfl, HCN2.out, fun b hb => by have := HSL.out b hb; omega⟩, HB2.out⟩
  obtain ⟨k, ha⟩ := may_send hms
  obtain ⟨hk, _, _⟩ := atE_some ha
  have hlen := cn_len HOK.out
  have hkf : k < D.flows.length := by omega
  have hmf : msV D.reg.es[k].state = true := by rw [← state_is ha hk]; exact hms
  obtain ⟨gf, A, C, ve, vi, vo, cap, v0, tv, hrow, hgb, hgfl, hgg, hmid, f0, f1, hput⟩ := HLM.out.flw k hkf
  have hokt := (cn_flow HOK.out (List.getElem_mem hkf)).2.2.1
  have hgv : givenD D id s fin = ({ D with flows := D.flows.set k { D.flows[k] with tun := (bckTu D.flows[k].tun s fin).1 } }, (bckTu D.flows[k].tun s fin).2) := by
    unfold givenD
    rw [if_neg (by rw [HOK.out]; decide), given_some ha hkf hk, if_neg (by rw [HDE.out, hmf]; decide)]
  generalize D.flows[k] = F at *
  obtain ⟨t9, n9, hbk⟩ : ∃ t9 n9, bckTu F.tun s fin = (t9, n9) := ⟨_, _, rfl⟩
  have hsz9 := bck_size (s := s) (fin := fin) hokt hs f0
  rw [hbk] at hgv hsz9
  have HX := hide (RowIs.cell (j := 10) hrow rfl)
  have HP := hide hput
  have hp : MidIs w2 gf 57 (A ++ [.int .i64 F.id, .int .i64 F.get, .int .i64 F.give, v0]) ([.bool F.ended] ++ C) (k * 15 + 4) (tucs F.tun) := MidIs.part (p := [.int .i64 F.id, .int .i64 F.get, .int .i64 F.give, v0]) (m := tucs F.tun) (q := [.bool F.ended]) hmid
  have HM := hide hp
  have HOFF := hide hmid.off
  have HGV := hide hgv; have HSZ := hide hsz9; have HBK9 := hide hbk; have HA := hide ha; have HLEN := hide hlen
  have F0 := hide f0; have F1 := hide f1
  have hm := HLM.out
  clear hrow hmid hput hgv hsz9 hbk ha hlen hp f0 f1 hms hmf
  go_wp2_with fail
  refine (implFlowSome w.heap.size g D M bs id k gf cap _ hm HLEN.out.1 HLEN.out.2 HA.out HX.out).mono ?_; rintro e w3 ⟨rfl, hb3⟩
  replace HM := hide (HM.out.new hb3)
  have HT := hide (TurnB.new (bs := [gf]) hb3)
  clear hb3 hm HX
  go_wp2_with (refine wpList_load_mid (by rfl) 55 _ (by rfl) gf (k * 15 + 4) (by rfl) (tucs F.tun) _ (fun j u hu => HM.out.cell hu) Tryz.underlying55 rfl (by kernel_rfl) ?_)
  refine (implBack F.tun s fin _ F0.out F1.out hs).mono ?_; rw [HBK9.out]; rintro e w4 ⟨rfl, hb4⟩
  replace HM := hide (HM.out.new hb4)
  replace HT := hide (HT.out.trans (TurnB.new hb4))
  clear hb4
  go_upto_region 6 with (refine wpList_store_mid (by rfl) 55 _ _ (by rfl) gf (k * 15 + 4) (tucs t9) (by rfl) (by rfl) 57 _ _ _ HM.out (by kernel_rfl) rfl (by intro u hu; simp at hu; rcases hu with rfl | rfl | rfl | rfl | rfl | rfl | rfl | rfl | rfl | rfl <;> rfl) ?_; intro w5 hm5 ht5)
  have hmf := MidIs.whole (p := [.int .i64 F.id, .int .i64 F.get, .int .i64 F.give, v0]) (m := tucs t9) (q := [.bool F.ended]) hm5 HOFF.out
  have hl := HP.out w5 { F with tun := t9 } rfl HSZ.out.1 HSZ.out.2 hmf (HT.out.trans ht5)
  obtain ⟨D5, hD5⟩ : ∃ D5 : CnD, ({ D with flows := D.flows.set k { F with tun := t9 } } : CnD) = D5 := ⟨_, rfl⟩
  rw [hD5] at hl
  have HGD : Hid (givenD D id s fin = (D5, n9)) := by show _ = _; rw [HGV.out, ← hD5]
  have hzn : w.heap.size + 1 ∉ g :: bs := fun hx => by have := HBK.out _ hx; omega
  have HRZ2 := hide (hl.box HRZ.out hzn)
  have HBN := HBK
  have HB3 := hide (below_turns HB.out hl.t (fun x hx => by have := HBK.out x hx; omega) HB.out.size)
  have HLM5 := hide hl.m
  clear hl hmf hm5 ht5 HM HT HP HLM HRZ HB HGV HSZ HBK9 HA HLEN HOFF hzn hD5
  have HLM := hide HLM5.out
  have HRZ := hide HRZ2.out
  have HB := hide HB3.out
  clear HLM5 HRZ2 HB3
  obtain ⟨⟨ve9, vi9, vo9, vf9, tv9, cb9, hrow, hcn, hfr, hsub, htv⟩, hlt9, hlo9, hng9, hbs9⟩ := HLM.out
  obtain ⟨a1, p1, rfl, _, _⟩ := hcn.rd.e.form
  obtain ⟨a2, p2, rfl, _, _⟩ := hcn.rd.i.form
  obtain ⟨a3, p3, rfl, _, _⟩ := hcn.rd.o.form
  obtain ⟨a4, p4, rfl, _, _⟩ := hcn.rd.f.form
  obtain ⟨a5, p5, rfl, _, _⟩ := owns_form hfr
  have HPM := hide (⟨hrow, rfl⟩ : MidIs w5 g 84 [] [.slice a5 M.length p5] 0 [.int .i64 D5.reg.lim, .int .i64 D5.reg.top, .slice a1 D5.reg.es.length p1, .int .i64 D5.inr, .slice a2 D5.inT.length p2, .int .i64 D5.outr, .slice a3 D5.outT.length p3, .int .i64 D5.get, .int .i64 D5.give, .int .i64 D5.first, .slice a4 D5.flows.length p4, .bool D5.away, .bool D5.dead])
  have HCN := hide hcn
  have HSL : Hid (∀ b ∈ cb9, w.heap.size + 2 ≤ b) := fun b hb => HBK.out b (by simp [hsub b hb])
  clear hrow hcn hfr hsub htv hlt9 hlo9 hng9 hbs9 HLM
  have RZ2 := hide (rowIs_setRow (cs' := [.int .i64 D5.reg.lim, .int .i64 D5.reg.top, .slice a1 D5.reg.es.length p1, .int .i64 D5.inr, .slice a2 D5.inT.length p2, .int .i64 D5.outr, .slice a3 D5.outT.length p3, .int .i64 D5.get, .int .i64 D5.give, .int .i64 D5.first, .slice a4 D5.flows.length p4, .bool D5.away, .bool D5.dead]) HRZ.out)
  have HB2 := hide (below_setRow HB.out (show w.heap.size ≤ w.heap.size + 1 by omega) #[.int .i64 D5.reg.lim, .int .i64 D5.reg.top, .slice a1 D5.reg.es.length p1, .int .i64 D5.inr, .slice a2 D5.inT.length p2, .int .i64 D5.outr, .slice a3 D5.outT.length p3, .int .i64 D5.get, .int .i64 D5.give, .int .i64 D5.first, .slice a4 D5.flows.length p4, .bool D5.away, .bool D5.dead])
  have HCN2 := hide (HCN.out.keep (w' := w5.setRow (w.heap.size + 1) #[.int .i64 D5.reg.lim, .int .i64 D5.reg.top, .slice a1 D5.reg.es.length p1, .int .i64 D5.inr, .slice a2 D5.inT.length p2, .int .i64 D5.outr, .slice a3 D5.outT.length p3, .int .i64 D5.get, .int .i64 D5.give, .int .i64 D5.first, .slice a4 D5.flows.length p4, .bool D5.away, .bool D5.dead]) (by rw [setRow_size]; exact Nat.le_refl _) (fun b hb => setRow_other _ _ _ _ (by have := HSL.out b hb; omega)))
  go_wp2_with (first | (refine wpList_load_mid (by rfl) 32 _ (by rfl) g 0 (by rfl) [.int .i64 D5.reg.lim, .int .i64 D5.reg.top, .slice a1 D5.reg.es.length p1, .int .i64 D5.inr, .slice a2 D5.inT.length p2, .int .i64 D5.outr, .slice a3 D5.outT.length p3, .int .i64 D5.get, .int .i64 D5.give, .int .i64 D5.first, .slice a4 D5.flows.length p4, .bool D5.away, .bool D5.dead] _ (fun j u hu => HPM.out.cell hu) Tryz.underlying32 rfl (by kernel_rfl) ?_) | (refine wpList_store_row (by rfl) 32 _ _ (by rfl) (w.heap.size + 1) [.int .i64 D5.reg.lim, .int .i64 D5.reg.top, .slice a1 D5.reg.es.length p1, .int .i64 D5.inr, .slice a2 D5.inT.length p2, .int .i64 D5.outr, .slice a3 D5.outT.length p3, .int .i64 D5.get, .int .i64 D5.give, .int .i64 D5.first, .slice a4 D5.flows.length p4, .bool D5.away, .bool D5.dead] (by rfl) (by rfl) 32 [.int .i64 0, .int .i64 0, .slice none 0 0, .int .i64 0, .slice none 0 0, .int .i64 0, .slice none 0 0, .int .i64 0, .int .i64 0, .int .i64 0, .slice none 0 0, .bool false, .bool false] HRZ.out (by kernel_rfl) rfl (by intro u hu; simp at hu; rcases hu with rfl | rfl | rfl | rfl | rfl | rfl | rfl | rfl | rfl | rfl | rfl | rfl | rfl <;> rfl) ?_))
  generalize w5.setRow (w.heap.size + 1) #[.int .i64 D5.reg.lim, .int .i64 D5.reg.top, .slice a1 D5.reg.es.length p1, .int .i64 D5.inr, .slice a2 D5.inT.length p2, .int .i64 D5.outr, .slice a3 D5.outT.length p3, .int .i64 D5.get, .int .i64 D5.give, .int .i64 D5.first, .slice a4 D5.flows.length p4, .bool D5.away, .bool D5.dead] = V2 at *
  have z0 := RowIs.cell (j := 0) RZ2.out rfl
  have z1 := RowIs.cell (j := 1) RZ2.out rfl
  have z2 := RowIs.cell (j := 2) RZ2.out rfl
  have z3 := RowIs.cell (j := 3) RZ2.out rfl
  have z4 := RowIs.cell (j := 4) RZ2.out rfl
  have z5 := RowIs.cell (j := 5) RZ2.out rfl
  have z6 := RowIs.cell (j := 6) RZ2.out rfl
  have z7 := RowIs.cell (j := 7) RZ2.out rfl
  have z8 := RowIs.cell (j := 8) RZ2.out rfl
  have z9 := RowIs.cell (j := 9) RZ2.out rfl
  have z10 := RowIs.cell (j := 10) RZ2.out rfl
  have z11 := RowIs.cell (j := 11) RZ2.out rfl
  have z12 := RowIs.cell (j := 12) RZ2.out rfl
  have zf := fun j => RowIs.frozen RZ2.out j
  refine bodyPost_ret (v := .tuple #[.agg #[.int .i64 D5.reg.lim, .int .i64 D5.reg.top, .slice a1 D5.reg.es.length p1, .int .i64 D5.inr, .slice a2 D5.inT.length p2, .int .i64 D5.outr, .slice a3 D5.outT.length p3, .int .i64 D5.get, .int .i64 D5.give, .int .i64 D5.first, .slice a4 D5.flows.length p4, .bool D5.away, .bool D5.dead], .int .i64 n9]) (by simp [results, Tryz.results36, go_sem, *]) rfl ?_
  rw [HGD.out]
  exact ⟨_, rfl, ⟨_, _, _, _, cb9, rfl, HCN2.out, fun b hb => by have := HSL.out b hb; omega⟩, HB2.out⟩
end Go.Proofs.YtfmeinkhdgbgjaaGreat
