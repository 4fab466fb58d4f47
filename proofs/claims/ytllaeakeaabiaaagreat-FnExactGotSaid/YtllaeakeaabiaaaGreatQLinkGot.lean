/- The program's Got. -/
import Derived.Test.YtllaeakeaabiaaaGreatQG36
import Derived.Test.YtllaeakeaabiaaaGreatQLinkRecv
import Derived.Test.YtllaeakeaabiaaaGreatQG7
import Derived.Test.YtllaeakeaabiaaaGreatQG35
namespace Go.Proofs.YtllaeakeaabiaaaGreat
open Go.RowKit
set_option maxRecDepth 100000
set_option linter.unusedSimpArgs false
set_option linter.unusedVariables false
/-- A link that was made of a Conn, in a box of its own. -/
theorem below_turns {B : Nat} {a b c : World} {L : List Nat} (h : Below B a b) (ht : TurnB L b c) (hg : ∀ x ∈ L, B ≤ x) (hB : B ≤ b.heap.size) : Below B a c :=
  ⟨ht.os.trans h.os, ht.tape.trans h.tape, ht.output.trans h.output, Nat.le_trans h.size ht.size, fun k hk => (ht.block k (by omega) (fun hx => by have := hg k hx; omega)).trans (h.block k hk)⟩
theorem lkM_new {w : World} {lo : Nat} {d : CnD} {ve vi vo vf : Value} {bs : List Nat} (h : CnOw w bs d ve vi vo vf) (hlo : ∀ b ∈ bs, lo ≤ b) (hl : lo ≤ w.heap.size) : LkM (w.alloc (.cells (lkcs d ve vi vo vf (.slice none 0 0)).toArray 69)) lo w.heap.size d [] bs := by
  have hb : Below w.heap.size w (w.alloc (.cells (lkcs d ve vi vo vf (.slice none 0 0)).toArray 69)) := (Below.refl _ _).alloc (Nat.le_refl _) _
  refine ⟨⟨ve, vi, vo, vf, .slice none 0 0, bs, rowIs_new w 69 _, h.new hb, World.ownsRow_nil _ _ _ _, fun _ hx => hx, fun q hq => by simp [Value.ownBlock] at hq⟩, fun b hb2 => ?_, hlo, fun hx => by have := h.lt _ hx; omega, Nat.le_trans hl hb.size⟩
  have hs := hb.size
  rcases List.mem_cons.1 hb2 with e | e
  · rw [e]; simp
  · have := h.lt b e; omega
theorem cnow_zero (w : World) : CnOw w [] zCn (.slice none 0 0) (.slice none 0 0) (.slice none 0 0) (.slice none 0 0) :=
  ⟨⟨[], [], [], [], ⟨[], rfl, World.ownsRow_nil w 0 _ _, fun t ht => (by cases ht), rfl⟩, ⟨[], rfl, World.ownsRow_nil w 0 _ _, fun t ht => (by cases ht), rfl⟩, ⟨[], rfl, World.ownsRow_nil w 0 _ _, fun t ht => (by cases ht), rfl⟩, ⟨[], rfl, World.ownsRow_nil w 0 _ _, fun t ht => (by cases ht), rfl⟩, rfl⟩, List.nodup_nil⟩
set_option maxHeartbeats 16000000 in
theorem implGot (d : CnD) (ve vi vo vf : Value) (f : Fr) (w : World) (hv : CnRd w d ve vi vo vf) (hf : f.b.size ≤ maxLen) :
    Calls Tryz.prog 10 #[cnv d ve vi vo vf, frv f] w fun x w' => ∃ v vfr, x = .returned (.tuple #[v, vfr]) ∧ FaceF w.heap.size ((gotD d f).1, (gotD d f).2) v vfr w' ∧ Below w.heap.size w w' := by
  have HV := hide hv
  obtain ⟨ae, pe, rfl, _, _⟩ := hv.e.form
  obtain ⟨ai, pi, rfl, _, _⟩ := hv.i.form
  obtain ⟨ao, po, rfl, _, _⟩ := hv.o.form
  obtain ⟨af, pf, rfl, _, _⟩ := hv.f.form
  clear hv
  dsimp only [frv] at *
  have hbA : Below w.heap.size w (((w.alloc (.cells #[.int .i64 d.reg.lim, .int .i64 d.reg.top, .slice ae d.reg.es.length pe, .int .i64 d.inr, .slice ai d.inT.length pi, .int .i64 d.outr, .slice ao d.outT.length po, .int .i64 d.get, .int .i64 d.give, .int .i64 d.first, .slice af d.flows.length pf, .bool d.away, .bool d.dead] 43)).alloc (.cells #[.int .i64 f.k, .int .i64 f.fl, .int .i64 f.st, .string f.b] 48)).alloc (.cells #[.int .i64 0, .int .i64 0, .slice none 0 0, .int .i64 0, .slice none 0 0, .int .i64 0, .slice none 0 0, .int .i64 0, .int .i64 0, .int .i64 0, .slice none 0 0, .bool false, .bool false] 43)) := (((Below.refl _ _).alloc (Nat.le_refl _) _).alloc (by simp) _).alloc (by simp; omega) _
  have RA := ((rowIs_new w 43 [.int .i64 d.reg.lim, .int .i64 d.reg.top, .slice ae d.reg.es.length pe, .int .i64 d.inr, .slice ai d.inT.length pi, .int .i64 d.outr, .slice ao d.outT.length po, .int .i64 d.get, .int .i64 d.give, .int .i64 d.first, .slice af d.flows.length pf, .bool d.away, .bool d.dead]).alloc (.cells #[.int .i64 f.k, .int .i64 f.fl, .int .i64 f.st, .string f.b] 48)).alloc (.cells #[.int .i64 0, .int .i64 0, .slice none 0 0, .int .i64 0, .slice none 0 0, .int .i64 0, .slice none 0 0, .int .i64 0, .int .i64 0, .int .i64 0, .slice none 0 0, .bool false, .bool false] 43)
  have RF := (rowIs_new (w.alloc (.cells #[.int .i64 d.reg.lim, .int .i64 d.reg.top, .slice ae d.reg.es.length pe, .int .i64 d.inr, .slice ai d.inT.length pi, .int .i64 d.outr, .slice ao d.outT.length po, .int .i64 d.get, .int .i64 d.give, .int .i64 d.first, .slice af d.flows.length pf, .bool d.away, .bool d.dead] 43)) 48 [.int .i64 f.k, .int .i64 f.fl, .int .i64 f.st, .string f.b]).alloc (.cells #[.int .i64 0, .int .i64 0, .slice none 0 0, .int .i64 0, .slice none 0 0, .int .i64 0, .slice none 0 0, .int .i64 0, .int .i64 0, .int .i64 0, .slice none 0 0, .bool false, .bool false] 43)
  have RZ := rowIs_new ((w.alloc (.cells #[.int .i64 d.reg.lim, .int .i64 d.reg.top, .slice ae d.reg.es.length pe, .int .i64 d.inr, .slice ai d.inT.length pi, .int .i64 d.outr, .slice ao d.outT.length po, .int .i64 d.get, .int .i64 d.give, .int .i64 d.first, .slice af d.flows.length pf, .bool d.away, .bool d.dead] 43)).alloc (.cells #[.int .i64 f.k, .int .i64 f.fl, .int .i64 f.st, .string f.b] 48)) 43 [.int .i64 0, .int .i64 0, .slice none 0 0, .int .i64 0, .slice none 0 0, .int .i64 0, .slice none 0 0, .int .i64 0, .int .i64 0, .int .i64 0, .slice none 0 0, .bool false, .bool false]
  have hsz : (w.alloc (.cells #[.int .i64 d.reg.lim, .int .i64 d.reg.top, .slice ae d.reg.es.length pe, .int .i64 d.inr, .slice ai d.inT.length pi, .int .i64 d.outr, .slice ao d.outT.length po, .int .i64 d.get, .int .i64 d.give, .int .i64 d.first, .slice af d.flows.length pf, .bool d.away, .bool d.dead] 43)).heap.size = w.heap.size + 1 := by simp
  have hsz2 : ((w.alloc (.cells #[.int .i64 d.reg.lim, .int .i64 d.reg.top, .slice ae d.reg.es.length pe, .int .i64 d.inr, .slice ai d.inT.length pi, .int .i64 d.outr, .slice ao d.outT.length po, .int .i64 d.get, .int .i64 d.give, .int .i64 d.first, .slice af d.flows.length pf, .bool d.away, .bool d.dead] 43)).alloc (.cells #[.int .i64 f.k, .int .i64 f.fl, .int .i64 f.st, .string f.b] 48)).heap.size = w.heap.size + 2 := by simp
  have hsz3 : (((w.alloc (.cells #[.int .i64 d.reg.lim, .int .i64 d.reg.top, .slice ae d.reg.es.length pe, .int .i64 d.inr, .slice ai d.inT.length pi, .int .i64 d.outr, .slice ao d.outT.length po, .int .i64 d.get, .int .i64 d.give, .int .i64 d.first, .slice af d.flows.length pf, .bool d.away, .bool d.dead] 43)).alloc (.cells #[.int .i64 f.k, .int .i64 f.fl, .int .i64 f.st, .string f.b] 48)).alloc (.cells #[.int .i64 0, .int .i64 0, .slice none 0 0, .int .i64 0, .slice none 0 0, .int .i64 0, .slice none 0 0, .int .i64 0, .int .i64 0, .int .i64 0, .slice none 0 0, .bool false, .bool false] 43)).heap.size = w.heap.size + 3 := by simp
  rw [hsz] at RF
  rw [hsz2] at RZ
  obtain ⟨V, hV⟩ : ∃ V, ((w.alloc (.cells #[.int .i64 d.reg.lim, .int .i64 d.reg.top, .slice ae d.reg.es.length pe, .int .i64 d.inr, .slice ai d.inT.length pi, .int .i64 d.outr, .slice ao d.outT.length po, .int .i64 d.get, .int .i64 d.give, .int .i64 d.first, .slice af d.flows.length pf, .bool d.away, .bool d.dead] 43)).alloc (.cells #[.int .i64 f.k, .int .i64 f.fl, .int .i64 f.st, .string f.b] 48)).alloc (.cells #[.int .i64 0, .int .i64 0, .slice none 0 0, .int .i64 0, .slice none 0 0, .int .i64 0, .slice none 0 0, .int .i64 0, .int .i64 0, .int .i64 0, .slice none 0 0, .bool false, .bool false] 43) = V := ⟨_, rfl⟩
  rw [hV] at hbA RA RF RZ hsz3
  have HB := hide hbA
  have HS3 := hide hsz3
  have HBF := hide hf
  clear hsz hsz2 hsz3 hbA hf
  go_enter Tryz.func10, Tryz.ntmps10
  go_upto_region 1 with fail
  try rw [hV]
  clear hV
  go_cut [6, 7] (fun p y wc => ∃ g D bs, p = .pointer (some ⟨g, 0, none⟩) ∧ y = .bool (okCn d && !d.dead) ∧ Hid (LkM wc w.heap.size g D [] bs) ∧ Hid (RowIs wc (w.heap.size + 1) 48 [.int .i64 f.k, .int .i64 f.fl, .int .i64 f.st, .string f.b]) ∧ Hid (RowIs wc (w.heap.size + 2) 43 [.int .i64 0, .int .i64 0, .slice none 0 0, .int .i64 0, .slice none 0 0, .int .i64 0, .slice none 0 0, .int .i64 0, .int .i64 0, .int .i64 0, .slice none 0 0, .bool false, .bool false] ) ∧ Hid (Below w.heap.size w wc) ∧ Hid (D = if okCn d then d else zCn) ∧ Hid (∀ b ∈ g :: bs, w.heap.size + 3 ≤ b))
  case first =>
    cases hok : okCn d
    · go_wp2_with (refine wpList_load_row (by rfl) 43 _ (by rfl) w.heap.size (by rfl) [.int .i64 d.reg.lim, .int .i64 d.reg.top, .slice ae d.reg.es.length pe, .int .i64 d.inr, .slice ai d.inT.length pi, .int .i64 d.outr, .slice ao d.outT.length po, .int .i64 d.get, .int .i64 d.give, .int .i64 d.first, .slice af d.flows.length pf, .bool d.away, .bool d.dead] _ 43 RA Tryz.underlying43 rfl (by kernel_rfl) ?_)
      refine (implLinkNo d _ _ _ _ _ (HV.out.new HB.out) hok).mono ?_; rintro e w1 ⟨rfl, hb1⟩
      have hz1 := hb1.size
      have HLM := hide (lkM_new (cnow_zero w1) (lo := w.heap.size) (fun b hb => by cases hb) (by have := HS3.out; omega))
      have hbx : Below w1.heap.size w1 (w1.alloc (.cells (lkcs zCn (.slice none 0 0) (.slice none 0 0) (.slice none 0 0) (.slice none 0 0) (.slice none 0 0)).toArray 69)) := (Below.refl _ _).alloc (Nat.le_refl _) _
      have HF1 := hide ((RF.new hb1).new hbx)
      have HZ1 := hide ((RZ.new hb1).new hbx)
      have HB1 := hide (bchain (bchain HB.out hb1) hbx)
      have HK1 : Hid (∀ b ∈ w1.heap.size :: ([] : List Nat), w.heap.size + 3 ≤ b) := fun b hb => by simp at hb; have := HS3.out; omega
      clear hb1 hbx RA RF RZ HB hz1
      go_wp2_with fail
      go_meet
      exact ⟨_, _, _, rfl, (by rw [hok]; rfl), HLM, HF1, HZ1, HB1, (by show _ = _; rw [hok]; rfl), HK1⟩
    · go_wp2_with (refine wpList_load_row (by rfl) 43 _ (by rfl) w.heap.size (by rfl) [.int .i64 d.reg.lim, .int .i64 d.reg.top, .slice ae d.reg.es.length pe, .int .i64 d.inr, .slice ai d.inT.length pi, .int .i64 d.outr, .slice ao d.outT.length po, .int .i64 d.get, .int .i64 d.give, .int .i64 d.first, .slice af d.flows.length pf, .bool d.away, .bool d.dead] _ 43 RA Tryz.underlying43 rfl (by kernel_rfl) ?_)
      refine (implLinkOf d _ _ _ _ _ (HV.out.new HB.out) hok).mono ?_; rintro e w1 ⟨v1, v2, v3, v4, bs, rfl, hcn, hlo, hb1⟩
      obtain ⟨a1, p1, rfl, _, _⟩ := hcn.rd.e.form
      obtain ⟨a2, p2, rfl, _, _⟩ := hcn.rd.i.form
      obtain ⟨a3, p3, rfl, _, _⟩ := hcn.rd.o.form
      obtain ⟨a4, p4, rfl, _, _⟩ := hcn.rd.f.form
      have hz1 := hb1.size
      have HLM := hide (lkM_new hcn (lo := w.heap.size) (fun b hb => by have := hlo b hb; have := HS3.out; omega) (by have := HS3.out; omega))
      have hbx : Below w1.heap.size w1 (w1.alloc (.cells (lkcs d (.slice a1 d.reg.es.length p1) (.slice a2 d.inT.length p2) (.slice a3 d.outT.length p3) (.slice a4 d.flows.length p4) (.slice none 0 0)).toArray 69)) := (Below.refl _ _).alloc (Nat.le_refl _) _
      have HF1 := hide ((RF.new hb1).new hbx)
      have HZ1 := hide ((RZ.new hb1).new hbx)
      have HB1 := hide (bchain (bchain HB.out hb1) hbx)
      have HK1 : Hid (∀ b ∈ w1.heap.size :: bs, w.heap.size + 3 ≤ b) := fun b hb => by
        have h3 := HS3.out
        rcases List.mem_cons.1 hb with e | e
        · omega
        · have := hlo b e; omega
      clear hb1 hbx RA RF RZ HB hz1 hcn hlo
      go_wp2_with fail
      go_meet
      exact ⟨_, _, _, rfl, (by rw [hok]; rfl), HLM, HF1, HZ1, HB1, (by show _ = _; rw [hok]; rfl), HK1⟩
  obtain ⟨g, D, bs, rfl, rfl, HLM, HRF, HRZ, HB, HDD, HBK⟩ := hcut
  clear RA RF RZ HS3 HV
  cases hok : okCn d
  · have HGD : Hid (gotD d f = (D, ([] : List Fr))) := by
      show _ = _
      rw [HDD.out, hok]; unfold gotD; rw [if_pos hok]; rfl
    obtain ⟨M, hM⟩ : ∃ M : List Fr, M = [] := ⟨_, rfl⟩
    rw [← hM] at HLM HGD
    clear hM HRF HDD
    go_wp2_with fail
    obtain ⟨⟨ve9, vi9, vo9, vf9, tv9, cb9, hrow, hcn, hfr, hsub, htv⟩, hlt9, hlo9, hng9, hbs9⟩ := HLM.out
    obtain ⟨a1, p1, rfl, _, _⟩ := hcn.rd.e.form
    obtain ⟨a2, p2, rfl, _, _⟩ := hcn.rd.i.form
    obtain ⟨a3, p3, rfl, _, _⟩ := hcn.rd.o.form
    obtain ⟨a4, p4, rfl, _, _⟩ := hcn.rd.f.form
    obtain ⟨a5, p5, rfl, _, _⟩ := owns_form hfr
    have HRL := hide hrow; have HCN := hide hcn; have HFR := hide hfr
    have HSL : Hid (∀ b ∈ cb9, w.heap.size + 3 ≤ b) := fun b hb => HBK.out b (by simp [hsub b hb])
    have HTV : Hid (∀ q, (Value.slice a5 M.length p5).ownBlock = some q → q ∉ cb9 ∧ w.heap.size + 3 ≤ q) := fun q hq => ⟨(htv q hq).2, HBK.out q (by simp [(htv q hq).1])⟩
    have HGZ : Hid (w.heap.size + 3 ≤ g) := HBK.out g (by simp)
    clear hrow hcn hfr hsub htv hlt9 hlo9 hng9 hbs9 HLM
    go_upto_region 4 with fail
    have hD : Below wc.heap.size wc (World.drew wc) := (Below.refl _ _).drew
    replace HRL := hide (HRL.out.new hD)
    replace HRZ := hide (HRZ.out.new hD)
    replace HCN := hide (HCN.out.new hD)
    replace HFR := hide (owns_new HFR.out hD)
    replace HB := hide (bchain HB.out hD)
    clear hD
    refine wp_region_held_drew (S := fun u => RowIs u g 69 [.int .i64 D.reg.lim, .int .i64 D.reg.top, .slice a1 D.reg.es.length p1, .int .i64 D.inr, .slice a2 D.inT.length p2, .int .i64 D.outr, .slice a3 D.outT.length p3, .int .i64 D.get, .int .i64 D.give, .int .i64 D.first, .slice a4 D.flows.length p4, .bool D.away, .bool D.dead, .slice a5 M.length p5]) (by kernel_rfl) HRL.out (fun hS => ?_)
    generalize World.drew wc = W9 at *
    refine wpAnyH_take (i := 0) (v := ?_) rfl (by kernel_rfl) (by kernel_rfl) (by kernel_rfl) (fun _ _ _ h => h) (Or.inl ⟨by rfl, ?_⟩) hS ?_; rotate_left; focus (intro w hw; clear hw; go_simp; try with_reducible rfl)
    refine wpAnyH_take (i := 1) (v := .agg #[.int .i64 D.reg.lim, .int .i64 D.reg.top, .slice a1 D.reg.es.length p1, .int .i64 D.inr, .slice a2 D.inT.length p2, .int .i64 D.outr, .slice a3 D.outT.length p3, .int .i64 D.get, .int .i64 D.give, .int .i64 D.first, .slice a4 D.flows.length p4, .bool D.away, .bool D.dead]) rfl (by kernel_rfl) (by kernel_rfl) (by kernel_rfl) (fun _ _ _ h => h) (Or.inl ⟨by kernel_rfl, ?ld⟩) hS ?_
    case ld =>
      intro uu hu
      have z0 := RowIs.cell (j := 0) hu rfl
      have z1 := RowIs.cell (j := 1) hu rfl
      have z2 := RowIs.cell (j := 2) hu rfl
      have z3 := RowIs.cell (j := 3) hu rfl
      have z4 := RowIs.cell (j := 4) hu rfl
      have z5 := RowIs.cell (j := 5) hu rfl
      have z6 := RowIs.cell (j := 6) hu rfl
      have z7 := RowIs.cell (j := 7) hu rfl
      have z8 := RowIs.cell (j := 8) hu rfl
      have z9 := RowIs.cell (j := 9) hu rfl
      have z10 := RowIs.cell (j := 10) hu rfl
      have z11 := RowIs.cell (j := 11) hu rfl
      have z12 := RowIs.cell (j := 12) hu rfl
      clear hu
      go_simp
    refine wpAnyH_take (i := 2) (v := ?_) rfl (by kernel_rfl) (by kernel_rfl) (by kernel_rfl) (fun _ _ _ h => h) (Or.inl ⟨by rfl, ?_⟩) hS ?_; rotate_left; focus (intro w hw; clear hw; go_simp; try with_reducible rfl)
    refine wpAnyH_take (i := 3) (v := .slice a5 M.length p5) rfl (by kernel_rfl) (by kernel_rfl) (by kernel_rfl) (fun _ _ _ h => h) (Or.inl ⟨by kernel_rfl, ?ld⟩) hS ?_; case ld => (intro uu hu; have z2 := RowIs.cell (j := 13) hu rfl; have z8 := hu.lt; clear hu; go_simp)
    refine wpAnyH_ready (rs := [4]) (by kernel_rfl) (by simp) ?_
    refine AllReadyH.cons rfl (fun K hK => ?_) AllReadyH.nil
    try simp only [Act.put, List.getElem_toArray, List.getElem_cons_succ, List.getElem_cons_zero, List.setIfInBounds_toArray, List.set_cons_zero, List.set_cons_succ]
    rw [if_pos (by kernel_rfl)]
    refine wp_store_row 43 _ _ (by rfl) (w.heap.size + 2) #[.int .i64 D.reg.lim, .int .i64 D.reg.top, .slice a1 D.reg.es.length p1, .int .i64 D.inr, .slice a2 D.inT.length p2, .int .i64 D.outr, .slice a3 D.outT.length p3, .int .i64 D.get, .int .i64 D.give, .int .i64 D.first, .slice a4 D.flows.length p4, .bool D.away, .bool D.dead] (by rfl) (by rfl) 43 #[.int .i64 0, .int .i64 0, .slice none 0 0, .int .i64 0, .slice none 0 0, .int .i64 0, .slice none 0 0, .int .i64 0, .int .i64 0, .int .i64 0, .slice none 0 0, .bool false, .bool false] HRZ.out (by kernel_rfl) rfl (Array.all_eq_true_iff_forall_mem.2 (by intro u hu; simp at hu; rcases hu with rfl | rfl | rfl | rfl | rfl | rfl | rfl | rfl | rfl | rfl | rfl | rfl | rfl <;> rfl)) ?_
    have RZ2 := hide (rowIs_setRow (cs' := [.int .i64 D.reg.lim, .int .i64 D.reg.top, .slice a1 D.reg.es.length p1, .int .i64 D.inr, .slice a2 D.inT.length p2, .int .i64 D.outr, .slice a3 D.outT.length p3, .int .i64 D.get, .int .i64 D.give, .int .i64 D.first, .slice a4 D.flows.length p4, .bool D.away, .bool D.dead]) HRZ.out)
    have HB2 := hide (below_setRow HB.out (show w.heap.size ≤ w.heap.size + 2 by omega) #[.int .i64 D.reg.lim, .int .i64 D.reg.top, .slice a1 D.reg.es.length p1, .int .i64 D.inr, .slice a2 D.inT.length p2, .int .i64 D.outr, .slice a3 D.outT.length p3, .int .i64 D.get, .int .i64 D.give, .int .i64 D.first, .slice a4 D.flows.length p4, .bool D.away, .bool D.dead])
    have hkx : ∀ q, w.heap.size + 3 ≤ q → (W9.setRow (w.heap.size + 2) #[.int .i64 D.reg.lim, .int .i64 D.reg.top, .slice a1 D.reg.es.length p1, .int .i64 D.inr, .slice a2 D.inT.length p2, .int .i64 D.outr, .slice a3 D.outT.length p3, .int .i64 D.get, .int .i64 D.give, .int .i64 D.first, .slice a4 D.flows.length p4, .bool D.away, .bool D.dead]).heap[q]? = W9.heap[q]? := fun q hq => setRow_other _ _ _ _ (by omega)
    have HRL2 := hide (HRL.out.kept (hkx g HGZ.out))
    have HCN2 := hide (HCN.out.keep (w' := W9.setRow (w.heap.size + 2) #[.int .i64 D.reg.lim, .int .i64 D.reg.top, .slice a1 D.reg.es.length p1, .int .i64 D.inr, .slice a2 D.inT.length p2, .int .i64 D.outr, .slice a3 D.outT.length p3, .int .i64 D.get, .int .i64 D.give, .int .i64 D.first, .slice a4 D.flows.length p4, .bool D.away, .bool D.dead]) (by rw [setRow_size]; exact Nat.le_refl _) (fun b hb => hkx b (HSL.out b hb)))
    have HFR2 := hide (owns_kept HFR.out (w' := W9.setRow (w.heap.size + 2) #[.int .i64 D.reg.lim, .int .i64 D.reg.top, .slice a1 D.reg.es.length p1, .int .i64 D.inr, .slice a2 D.inT.length p2, .int .i64 D.outr, .slice a3 D.outT.length p3, .int .i64 D.get, .int .i64 D.give, .int .i64 D.first, .slice a4 D.flows.length p4, .bool D.away, .bool D.dead]) (fun q hq _ => hkx q (HTV.out q hq).2))
    refine hK.out _ _ HRL2.out (fun hS => ?_)
    clear hK K HRL HRZ HB HCN HFR hkx
    try simp only [Act.put, List.getElem_toArray, List.getElem_cons_succ, List.getElem_cons_zero, List.setIfInBounds_toArray, List.set_cons_zero, List.set_cons_succ]
    generalize W9.setRow (w.heap.size + 2) #[.int .i64 D.reg.lim, .int .i64 D.reg.top, .slice a1 D.reg.es.length p1, .int .i64 D.inr, .slice a2 D.inT.length p2, .int .i64 D.outr, .slice a3 D.outT.length p3, .int .i64 D.get, .int .i64 D.give, .int .i64 D.first, .slice a4 D.flows.length p4, .bool D.away, .bool D.dead] = V2 at *
    refine wpAnyH_take (i := 5) (v := ?_) rfl (by kernel_rfl) (by kernel_rfl) (by kernel_rfl) (fun _ _ _ h => h) (Or.inl ⟨by rfl, ?_⟩) hS ?_; rotate_left; focus (intro w hw; clear hw; go_simp; try with_reducible rfl)
    refine wpAnyH_done (by kernel_rfl) ?_ _
    have z0 := RowIs.cell (j := 0) RZ2.out rfl
    have z1 := RowIs.cell (j := 1) RZ2.out rfl
    have z2 := RowIs.cell (j := 2) RZ2.out rfl
    have z3 := RowIs.cell (j := 3) RZ2.out rfl
    have z4 := RowIs.cell (j := 4) RZ2.out rfl
    have z5 := RowIs.cell (j := 5) RZ2.out rfl
    have z6 := RowIs.cell (j := 6) RZ2.out rfl
    have z7 := RowIs.cell (j := 7) RZ2.out rfl
    have z8 := RowIs.cell (j := 8) RZ2.out rfl
    have z9 := RowIs.cell (j := 9) RZ2.out rfl
    have z10 := RowIs.cell (j := 10) RZ2.out rfl
    have z11 := RowIs.cell (j := 11) RZ2.out rfl
    have z12 := RowIs.cell (j := 12) RZ2.out rfl
    have zf := fun j => RowIs.frozen RZ2.out j
    go_wp2_with fail
    refine bodyPost_ret (v := .tuple #[.agg #[.int .i64 D.reg.lim, .int .i64 D.reg.top, .slice a1 D.reg.es.length p1, .int .i64 D.inr, .slice a2 D.inT.length p2, .int .i64 D.outr, .slice a3 D.outT.length p3, .int .i64 D.get, .int .i64 D.give, .int .i64 D.first, .slice a4 D.flows.length p4, .bool D.away, .bool D.dead], .slice a5 M.length p5]) (by simp [results, Tryz.results10, go_sem, *]) rfl ?_
    rw [HGD.out]
    exact ⟨_, _, rfl, ⟨_, _, _, _, cb9, rfl, HCN2.out, fun b hb => by have := HSL.out b hb; omega, HFR2.out, fun q hq => (HTV.out q hq).1⟩, HB2.out⟩
  have hD0 : D = d := by rw [HDD.out, hok]; rfl
  subst hD0
  cases hde : D.dead
  rotate_left
  · have HGD : Hid (gotD D f = (D, ([] : List Fr))) := by
      show _ = _
      unfold gotD
      rw [if_neg (by rw [hok]; decide)]
      split
      · rfl
      · unfold gotRaw; rw [if_pos hde]
    obtain ⟨M, hM⟩ : ∃ M : List Fr, M = [] := ⟨_, rfl⟩
    rw [← hM] at HLM HGD
    clear hM HRF HDD hok
    go_wp2_with fail
    clear hde
    obtain ⟨⟨ve9, vi9, vo9, vf9, tv9, cb9, hrow, hcn, hfr, hsub, htv⟩, hlt9, hlo9, hng9, hbs9⟩ := HLM.out
    obtain ⟨a1, p1, rfl, _, _⟩ := hcn.rd.e.form
    obtain ⟨a2, p2, rfl, _, _⟩ := hcn.rd.i.form
    obtain ⟨a3, p3, rfl, _, _⟩ := hcn.rd.o.form
    obtain ⟨a4, p4, rfl, _, _⟩ := hcn.rd.f.form
    obtain ⟨a5, p5, rfl, _, _⟩ := owns_form hfr
    have HRL := hide hrow; have HCN := hide hcn; have HFR := hide hfr
    have HSL : Hid (∀ b ∈ cb9, w.heap.size + 3 ≤ b) := fun b hb => HBK.out b (by simp [hsub b hb])
    have HTV : Hid (∀ q, (Value.slice a5 M.length p5).ownBlock = some q → q ∉ cb9 ∧ w.heap.size + 3 ≤ q) := fun q hq => ⟨(htv q hq).2, HBK.out q (by simp [(htv q hq).1])⟩
    have HGZ : Hid (w.heap.size + 3 ≤ g) := HBK.out g (by simp)
    clear hrow hcn hfr hsub htv hlt9 hlo9 hng9 hbs9 HLM
    go_upto_region 4 with fail
    have hD : Below wc.heap.size wc (World.drew wc) := (Below.refl _ _).drew
    replace HRL := hide (HRL.out.new hD)
    replace HRZ := hide (HRZ.out.new hD)
    replace HCN := hide (HCN.out.new hD)
    replace HFR := hide (owns_new HFR.out hD)
    replace HB := hide (bchain HB.out hD)
    clear hD
    refine wp_region_held_drew (S := fun u => RowIs u g 69 [.int .i64 D.reg.lim, .int .i64 D.reg.top, .slice a1 D.reg.es.length p1, .int .i64 D.inr, .slice a2 D.inT.length p2, .int .i64 D.outr, .slice a3 D.outT.length p3, .int .i64 D.get, .int .i64 D.give, .int .i64 D.first, .slice a4 D.flows.length p4, .bool D.away, .bool D.dead, .slice a5 M.length p5]) (by kernel_rfl) HRL.out (fun hS => ?_)
    generalize World.drew wc = W9 at *
    refine wpAnyH_take (i := 0) (v := ?_) rfl (by kernel_rfl) (by kernel_rfl) (by kernel_rfl) (fun _ _ _ h => h) (Or.inl ⟨by rfl, ?_⟩) hS ?_; rotate_left; focus (intro w hw; clear hw; go_simp; try with_reducible rfl)
    refine wpAnyH_take (i := 1) (v := .agg #[.int .i64 D.reg.lim, .int .i64 D.reg.top, .slice a1 D.reg.es.length p1, .int .i64 D.inr, .slice a2 D.inT.length p2, .int .i64 D.outr, .slice a3 D.outT.length p3, .int .i64 D.get, .int .i64 D.give, .int .i64 D.first, .slice a4 D.flows.length p4, .bool D.away, .bool D.dead]) rfl (by kernel_rfl) (by kernel_rfl) (by kernel_rfl) (fun _ _ _ h => h) (Or.inl ⟨by kernel_rfl, ?ld⟩) hS ?_
    case ld =>
      intro uu hu
      have z0 := RowIs.cell (j := 0) hu rfl
      have z1 := RowIs.cell (j := 1) hu rfl
      have z2 := RowIs.cell (j := 2) hu rfl
      have z3 := RowIs.cell (j := 3) hu rfl
      have z4 := RowIs.cell (j := 4) hu rfl
      have z5 := RowIs.cell (j := 5) hu rfl
      have z6 := RowIs.cell (j := 6) hu rfl
      have z7 := RowIs.cell (j := 7) hu rfl
      have z8 := RowIs.cell (j := 8) hu rfl
      have z9 := RowIs.cell (j := 9) hu rfl
      have z10 := RowIs.cell (j := 10) hu rfl
      have z11 := RowIs.cell (j := 11) hu rfl
      have z12 := RowIs.cell (j := 12) hu rfl
      clear hu
      go_simp
    refine wpAnyH_take (i := 2) (v := ?_) rfl (by kernel_rfl) (by kernel_rfl) (by kernel_rfl) (fun _ _ _ h => h) (Or.inl ⟨by rfl, ?_⟩) hS ?_; rotate_left; focus (intro w hw; clear hw; go_simp; try with_reducible rfl)
    refine wpAnyH_take (i := 3) (v := .slice a5 M.length p5) rfl (by kernel_rfl) (by kernel_rfl) (by kernel_rfl) (fun _ _ _ h => h) (Or.inl ⟨by kernel_rfl, ?ld⟩) hS ?_; case ld => (intro uu hu; have z2 := RowIs.cell (j := 13) hu rfl; have z8 := hu.lt; clear hu; go_simp)
    refine wpAnyH_ready (rs := [4]) (by kernel_rfl) (by simp) ?_
    refine AllReadyH.cons rfl (fun K hK => ?_) AllReadyH.nil
    try simp only [Act.put, List.getElem_toArray, List.getElem_cons_succ, List.getElem_cons_zero, List.setIfInBounds_toArray, List.set_cons_zero, List.set_cons_succ]
    rw [if_pos (by kernel_rfl)]
    refine wp_store_row 43 _ _ (by rfl) (w.heap.size + 2) #[.int .i64 D.reg.lim, .int .i64 D.reg.top, .slice a1 D.reg.es.length p1, .int .i64 D.inr, .slice a2 D.inT.length p2, .int .i64 D.outr, .slice a3 D.outT.length p3, .int .i64 D.get, .int .i64 D.give, .int .i64 D.first, .slice a4 D.flows.length p4, .bool D.away, .bool D.dead] (by rfl) (by rfl) 43 #[.int .i64 0, .int .i64 0, .slice none 0 0, .int .i64 0, .slice none 0 0, .int .i64 0, .slice none 0 0, .int .i64 0, .int .i64 0, .int .i64 0, .slice none 0 0, .bool false, .bool false] HRZ.out (by kernel_rfl) rfl (Array.all_eq_true_iff_forall_mem.2 (by intro u hu; simp at hu; rcases hu with rfl | rfl | rfl | rfl | rfl | rfl | rfl | rfl | rfl | rfl | rfl | rfl | rfl <;> rfl)) ?_
    have RZ2 := hide (rowIs_setRow (cs' := [.int .i64 D.reg.lim, .int .i64 D.reg.top, .slice a1 D.reg.es.length p1, .int .i64 D.inr, .slice a2 D.inT.length p2, .int .i64 D.outr, .slice a3 D.outT.length p3, .int .i64 D.get, .int .i64 D.give, .int .i64 D.first, .slice a4 D.flows.length p4, .bool D.away, .bool D.dead]) HRZ.out)
    have HB2 := hide (below_setRow HB.out (show w.heap.size ≤ w.heap.size + 2 by omega) #[.int .i64 D.reg.lim, .int .i64 D.reg.top, .slice a1 D.reg.es.length p1, .int .i64 D.inr, .slice a2 D.inT.length p2, .int .i64 D.outr, .slice a3 D.outT.length p3, .int .i64 D.get, .int .i64 D.give, .int .i64 D.first, .slice a4 D.flows.length p4, .bool D.away, .bool D.dead])
    have hkx : ∀ q, w.heap.size + 3 ≤ q → (W9.setRow (w.heap.size + 2) #[.int .i64 D.reg.lim, .int .i64 D.reg.top, .slice a1 D.reg.es.length p1, .int .i64 D.inr, .slice a2 D.inT.length p2, .int .i64 D.outr, .slice a3 D.outT.length p3, .int .i64 D.get, .int .i64 D.give, .int .i64 D.first, .slice a4 D.flows.length p4, .bool D.away, .bool D.dead]).heap[q]? = W9.heap[q]? := fun q hq => setRow_other _ _ _ _ (by omega)
    have HRL2 := hide (HRL.out.kept (hkx g HGZ.out))
    have HCN2 := hide (HCN.out.keep (w' := W9.setRow (w.heap.size + 2) #[.int .i64 D.reg.lim, .int .i64 D.reg.top, .slice a1 D.reg.es.length p1, .int .i64 D.inr, .slice a2 D.inT.length p2, .int .i64 D.outr, .slice a3 D.outT.length p3, .int .i64 D.get, .int .i64 D.give, .int .i64 D.first, .slice a4 D.flows.length p4, .bool D.away, .bool D.dead]) (by rw [setRow_size]; exact Nat.le_refl _) (fun b hb => hkx b (HSL.out b hb)))
    have HFR2 := hide (owns_kept HFR.out (w' := W9.setRow (w.heap.size + 2) #[.int .i64 D.reg.lim, .int .i64 D.reg.top, .slice a1 D.reg.es.length p1, .int .i64 D.inr, .slice a2 D.inT.length p2, .int .i64 D.outr, .slice a3 D.outT.length p3, .int .i64 D.get, .int .i64 D.give, .int .i64 D.first, .slice a4 D.flows.length p4, .bool D.away, .bool D.dead]) (fun q hq _ => hkx q (HTV.out q hq).2))
    refine hK.out _ _ HRL2.out (fun hS => ?_)
    clear hK K HRL HRZ HB HCN HFR hkx
    try simp only [Act.put, List.getElem_toArray, List.getElem_cons_succ, List.getElem_cons_zero, List.setIfInBounds_toArray, List.set_cons_zero, List.set_cons_succ]
    generalize W9.setRow (w.heap.size + 2) #[.int .i64 D.reg.lim, .int .i64 D.reg.top, .slice a1 D.reg.es.length p1, .int .i64 D.inr, .slice a2 D.inT.length p2, .int .i64 D.outr, .slice a3 D.outT.length p3, .int .i64 D.get, .int .i64 D.give, .int .i64 D.first, .slice a4 D.flows.length p4, .bool D.away, .bool D.dead] = V2 at *
    refine wpAnyH_take (i := 5) (v := ?_) rfl (by kernel_rfl) (by kernel_rfl) (by kernel_rfl) (fun _ _ _ h => h) (Or.inl ⟨by rfl, ?_⟩) hS ?_; rotate_left; focus (intro w hw; clear hw; go_simp; try with_reducible rfl)
    refine wpAnyH_done (by kernel_rfl) ?_ _
    have z0 := RowIs.cell (j := 0) RZ2.out rfl
    have z1 := RowIs.cell (j := 1) RZ2.out rfl
    have z2 := RowIs.cell (j := 2) RZ2.out rfl
    have z3 := RowIs.cell (j := 3) RZ2.out rfl
    have z4 := RowIs.cell (j := 4) RZ2.out rfl
    have z5 := RowIs.cell (j := 5) RZ2.out rfl
    have z6 := RowIs.cell (j := 6) RZ2.out rfl
    have z7 := RowIs.cell (j := 7) RZ2.out rfl
    have z8 := RowIs.cell (j := 8) RZ2.out rfl
    have z9 := RowIs.cell (j := 9) RZ2.out rfl
    have z10 := RowIs.cell (j := 10) RZ2.out rfl
    have z11 := RowIs.cell (j := 11) RZ2.out rfl
    have z12 := RowIs.cell (j := 12) RZ2.out rfl
    have zf := fun j => RowIs.frozen RZ2.out j
    go_wp2_with fail
    refine bodyPost_ret (v := .tuple #[.agg #[.int .i64 D.reg.lim, .int .i64 D.reg.top, .slice a1 D.reg.es.length p1, .int .i64 D.inr, .slice a2 D.inT.length p2, .int .i64 D.outr, .slice a3 D.outT.length p3, .int .i64 D.get, .int .i64 D.give, .int .i64 D.first, .slice a4 D.flows.length p4, .bool D.away, .bool D.dead], .slice a5 M.length p5]) (by simp [results, Tryz.results10, go_sem, *]) rfl ?_
    rw [HGD.out]
    exact ⟨_, _, rfl, ⟨_, _, _, _, cb9, rfl, HCN2.out, fun b hb => by have := HSL.out b hb; omega, HFR2.out, fun q hq => (HTV.out q hq).1⟩, HB2.out⟩
  have f0 := RowIs.cell (j := 0) HRF.out rfl
  have f1 := RowIs.cell (j := 1) HRF.out rfl
  have f2 := RowIs.cell (j := 2) HRF.out rfl
  have f3 := RowIs.cell (j := 3) HRF.out rfl
  have HOK := hide hok
  have HDE := hide hde
  go_wp2_with fail
  refine (implFrameOk f.k f.fl f.st f.b _ HBF.out).mono ?_; rintro e w2 ⟨rfl, hb2⟩
  replace HLM := hide (HLM.out.new hb2)
  replace HRF := hide (HRF.out.new hb2)
  replace HRZ := hide (HRZ.out.new hb2)
  replace HB := hide (bchain HB.out hb2)
  clear hb2 f0 f1 f2 f3 hok hde
  cases hfo : okFr ⟨f.k, f.fl, f.st, f.b⟩
  · have HGD : Hid (gotD D f = (D, ([] : List Fr))) := by
      show _ = _
      unfold gotD
      rw [if_neg (by rw [HOK.out]; decide), if_pos hfo]
    obtain ⟨M, hM⟩ : ∃ M : List Fr, M = [] := ⟨_, rfl⟩
    rw [← hM] at HLM HGD
    clear hM HRF HDD hfo
    generalize w2 = W at *
    obtain ⟨⟨ve9, vi9, vo9, vf9, tv9, cb9, hrow, hcn, hfr, hsub, htv⟩, hlt9, hlo9, hng9, hbs9⟩ := HLM.out
    obtain ⟨a1, p1, rfl, _, _⟩ := hcn.rd.e.form
    obtain ⟨a2, p2, rfl, _, _⟩ := hcn.rd.i.form
    obtain ⟨a3, p3, rfl, _, _⟩ := hcn.rd.o.form
    obtain ⟨a4, p4, rfl, _, _⟩ := hcn.rd.f.form
    obtain ⟨a5, p5, rfl, _, _⟩ := owns_form hfr
    have HRL := hide hrow; have HCN := hide hcn; have HFR := hide hfr
    have HSL : Hid (∀ b ∈ cb9, w.heap.size + 3 ≤ b) := fun b hb => HBK.out b (by simp [hsub b hb])
    have HTV : Hid (∀ q, (Value.slice a5 M.length p5).ownBlock = some q → q ∉ cb9 ∧ w.heap.size + 3 ≤ q) := fun q hq => ⟨(htv q hq).2, HBK.out q (by simp [(htv q hq).1])⟩
    have HGZ : Hid (w.heap.size + 3 ≤ g) := HBK.out g (by simp)
    clear hrow hcn hfr hsub htv hlt9 hlo9 hng9 hbs9 HLM
    go_upto_region 4 with fail
    have hD : Below W.heap.size W (World.drew W) := (Below.refl _ _).drew
    replace HRL := hide (HRL.out.new hD)
    replace HRZ := hide (HRZ.out.new hD)
    replace HCN := hide (HCN.out.new hD)
    replace HFR := hide (owns_new HFR.out hD)
    replace HB := hide (bchain HB.out hD)
    clear hD
    refine wp_region_held_drew (S := fun u => RowIs u g 69 [.int .i64 D.reg.lim, .int .i64 D.reg.top, .slice a1 D.reg.es.length p1, .int .i64 D.inr, .slice a2 D.inT.length p2, .int .i64 D.outr, .slice a3 D.outT.length p3, .int .i64 D.get, .int .i64 D.give, .int .i64 D.first, .slice a4 D.flows.length p4, .bool D.away, .bool D.dead, .slice a5 M.length p5]) (by kernel_rfl) HRL.out (fun hS => ?_)
    generalize World.drew W = W9 at *
    refine wpAnyH_take (i := 0) (v := ?_) rfl (by kernel_rfl) (by kernel_rfl) (by kernel_rfl) (fun _ _ _ h => h) (Or.inl ⟨by rfl, ?_⟩) hS ?_; rotate_left; focus (intro w hw; clear hw; go_simp; try with_reducible rfl)
    refine wpAnyH_take (i := 1) (v := .agg #[.int .i64 D.reg.lim, .int .i64 D.reg.top, .slice a1 D.reg.es.length p1, .int .i64 D.inr, .slice a2 D.inT.length p2, .int .i64 D.outr, .slice a3 D.outT.length p3, .int .i64 D.get, .int .i64 D.give, .int .i64 D.first, .slice a4 D.flows.length p4, .bool D.away, .bool D.dead]) rfl (by kernel_rfl) (by kernel_rfl) (by kernel_rfl) (fun _ _ _ h => h) (Or.inl ⟨by kernel_rfl, ?ld⟩) hS ?_
    case ld =>
      intro uu hu
      have z0 := RowIs.cell (j := 0) hu rfl
      have z1 := RowIs.cell (j := 1) hu rfl
      have z2 := RowIs.cell (j := 2) hu rfl
      have z3 := RowIs.cell (j := 3) hu rfl
      have z4 := RowIs.cell (j := 4) hu rfl
      have z5 := RowIs.cell (j := 5) hu rfl
      have z6 := RowIs.cell (j := 6) hu rfl
      have z7 := RowIs.cell (j := 7) hu rfl
      have z8 := RowIs.cell (j := 8) hu rfl
      have z9 := RowIs.cell (j := 9) hu rfl
      have z10 := RowIs.cell (j := 10) hu rfl
      have z11 := RowIs.cell (j := 11) hu rfl
      have z12 := RowIs.cell (j := 12) hu rfl
      clear hu
      go_simp
    refine wpAnyH_take (i := 2) (v := ?_) rfl (by kernel_rfl) (by kernel_rfl) (by kernel_rfl) (fun _ _ _ h => h) (Or.inl ⟨by rfl, ?_⟩) hS ?_; rotate_left; focus (intro w hw; clear hw; go_simp; try with_reducible rfl)
    refine wpAnyH_take (i := 3) (v := .slice a5 M.length p5) rfl (by kernel_rfl) (by kernel_rfl) (by kernel_rfl) (fun _ _ _ h => h) (Or.inl ⟨by kernel_rfl, ?ld⟩) hS ?_; case ld => (intro uu hu; have z2 := RowIs.cell (j := 13) hu rfl; have z8 := hu.lt; clear hu; go_simp)
    refine wpAnyH_ready (rs := [4]) (by kernel_rfl) (by simp) ?_
    refine AllReadyH.cons rfl (fun K hK => ?_) AllReadyH.nil
    try simp only [Act.put, List.getElem_toArray, List.getElem_cons_succ, List.getElem_cons_zero, List.setIfInBounds_toArray, List.set_cons_zero, List.set_cons_succ]
    rw [if_pos (by kernel_rfl)]
    refine wp_store_row 43 _ _ (by rfl) (w.heap.size + 2) #[.int .i64 D.reg.lim, .int .i64 D.reg.top, .slice a1 D.reg.es.length p1, .int .i64 D.inr, .slice a2 D.inT.length p2, .int .i64 D.outr, .slice a3 D.outT.length p3, .int .i64 D.get, .int .i64 D.give, .int .i64 D.first, .slice a4 D.flows.length p4, .bool D.away, .bool D.dead] (by rfl) (by rfl) 43 #[.int .i64 0, .int .i64 0, .slice none 0 0, .int .i64 0, .slice none 0 0, .int .i64 0, .slice none 0 0, .int .i64 0, .int .i64 0, .int .i64 0, .slice none 0 0, .bool false, .bool false] HRZ.out (by kernel_rfl) rfl (Array.all_eq_true_iff_forall_mem.2 (by intro u hu; simp at hu; rcases hu with rfl | rfl | rfl | rfl | rfl | rfl | rfl | rfl | rfl | rfl | rfl | rfl | rfl <;> rfl)) ?_
    have RZ2 := hide (rowIs_setRow (cs' := [.int .i64 D.reg.lim, .int .i64 D.reg.top, .slice a1 D.reg.es.length p1, .int .i64 D.inr, .slice a2 D.inT.length p2, .int .i64 D.outr, .slice a3 D.outT.length p3, .int .i64 D.get, .int .i64 D.give, .int .i64 D.first, .slice a4 D.flows.length p4, .bool D.away, .bool D.dead]) HRZ.out)
    have HB2 := hide (below_setRow HB.out (show w.heap.size ≤ w.heap.size + 2 by omega) #[.int .i64 D.reg.lim, .int .i64 D.reg.top, .slice a1 D.reg.es.length p1, .int .i64 D.inr, .slice a2 D.inT.length p2, .int .i64 D.outr, .slice a3 D.outT.length p3, .int .i64 D.get, .int .i64 D.give, .int .i64 D.first, .slice a4 D.flows.length p4, .bool D.away, .bool D.dead])
    have hkx : ∀ q, w.heap.size + 3 ≤ q → (W9.setRow (w.heap.size + 2) #[.int .i64 D.reg.lim, .int .i64 D.reg.top, .slice a1 D.reg.es.length p1, .int .i64 D.inr, .slice a2 D.inT.length p2, .int .i64 D.outr, .slice a3 D.outT.length p3, .int .i64 D.get, .int .i64 D.give, .int .i64 D.first, .slice a4 D.flows.length p4, .bool D.away, .bool D.dead]).heap[q]? = W9.heap[q]? := fun q hq => setRow_other _ _ _ _ (by omega)
    have HRL2 := hide (HRL.out.kept (hkx g HGZ.out))
    have HCN2 := hide (HCN.out.keep (w' := W9.setRow (w.heap.size + 2) #[.int .i64 D.reg.lim, .int .i64 D.reg.top, .slice a1 D.reg.es.length p1, .int .i64 D.inr, .slice a2 D.inT.length p2, .int .i64 D.outr, .slice a3 D.outT.length p3, .int .i64 D.get, .int .i64 D.give, .int .i64 D.first, .slice a4 D.flows.length p4, .bool D.away, .bool D.dead]) (by rw [setRow_size]; exact Nat.le_refl _) (fun b hb => hkx b (HSL.out b hb)))
    have HFR2 := hide (owns_kept HFR.out (w' := W9.setRow (w.heap.size + 2) #[.int .i64 D.reg.lim, .int .i64 D.reg.top, .slice a1 D.reg.es.length p1, .int .i64 D.inr, .slice a2 D.inT.length p2, .int .i64 D.outr, .slice a3 D.outT.length p3, .int .i64 D.get, .int .i64 D.give, .int .i64 D.first, .slice a4 D.flows.length p4, .bool D.away, .bool D.dead]) (fun q hq _ => hkx q (HTV.out q hq).2))
    refine hK.out _ _ HRL2.out (fun hS => ?_)
    clear hK K HRL HRZ HB HCN HFR hkx
    try simp only [Act.put, List.getElem_toArray, List.getElem_cons_succ, List.getElem_cons_zero, List.setIfInBounds_toArray, List.set_cons_zero, List.set_cons_succ]
    generalize W9.setRow (w.heap.size + 2) #[.int .i64 D.reg.lim, .int .i64 D.reg.top, .slice a1 D.reg.es.length p1, .int .i64 D.inr, .slice a2 D.inT.length p2, .int .i64 D.outr, .slice a3 D.outT.length p3, .int .i64 D.get, .int .i64 D.give, .int .i64 D.first, .slice a4 D.flows.length p4, .bool D.away, .bool D.dead] = V2 at *
    refine wpAnyH_take (i := 5) (v := ?_) rfl (by kernel_rfl) (by kernel_rfl) (by kernel_rfl) (fun _ _ _ h => h) (Or.inl ⟨by rfl, ?_⟩) hS ?_; rotate_left; focus (intro w hw; clear hw; go_simp; try with_reducible rfl)
    refine wpAnyH_done (by kernel_rfl) ?_ _
    have z0 := RowIs.cell (j := 0) RZ2.out rfl
    have z1 := RowIs.cell (j := 1) RZ2.out rfl
    have z2 := RowIs.cell (j := 2) RZ2.out rfl
    have z3 := RowIs.cell (j := 3) RZ2.out rfl
    have z4 := RowIs.cell (j := 4) RZ2.out rfl
    have z5 := RowIs.cell (j := 5) RZ2.out rfl
    have z6 := RowIs.cell (j := 6) RZ2.out rfl
    have z7 := RowIs.cell (j := 7) RZ2.out rfl
    have z8 := RowIs.cell (j := 8) RZ2.out rfl
    have z9 := RowIs.cell (j := 9) RZ2.out rfl
    have z10 := RowIs.cell (j := 10) RZ2.out rfl
    have z11 := RowIs.cell (j := 11) RZ2.out rfl
    have z12 := RowIs.cell (j := 12) RZ2.out rfl
    have zf := fun j => RowIs.frozen RZ2.out j
    go_wp2_with fail
    refine bodyPost_ret (v := .tuple #[.agg #[.int .i64 D.reg.lim, .int .i64 D.reg.top, .slice a1 D.reg.es.length p1, .int .i64 D.inr, .slice a2 D.inT.length p2, .int .i64 D.outr, .slice a3 D.outT.length p3, .int .i64 D.get, .int .i64 D.give, .int .i64 D.first, .slice a4 D.flows.length p4, .bool D.away, .bool D.dead], .slice a5 M.length p5]) (by simp [results, Tryz.results10, go_sem, *]) rfl ?_
    rw [HGD.out]
    exact ⟨_, _, rfl, ⟨_, _, _, _, cb9, rfl, HCN2.out, fun b hb => by have := HSL.out b hb; omega, HFR2.out, fun q hq => (HTV.out q hq).1⟩, HB2.out⟩
  have f0 := RowIs.cell (j := 0) HRF.out rfl
  have f1 := RowIs.cell (j := 1) HRF.out rfl
  have f2 := RowIs.cell (j := 2) HRF.out rfl
  have f3 := RowIs.cell (j := 3) HRF.out rfl
  have hm := HLM.out
  have HFO := hide hfo
  clear hfo
  go_wp2_with fail
  refine (implReceive w.heap.size g D [] bs f _ hm HOK.out HDE.out (by simp) HFO.out).mono ?_; rintro e W ⟨rfl, bx, hl⟩
  obtain ⟨D5, M5, hg5⟩ : ∃ D5 M5, gotRaw D f = (D5, M5) := ⟨_, _, rfl⟩
  rw [hg5] at hl
  have HGD : Hid (gotD D f = (D5, M5)) := by
    show _ = _
    unfold gotD
    rw [if_neg (by rw [HOK.out]; decide), if_neg (by rw [show okFr f = true from HFO.out]; decide), hg5]
  have hzn : w.heap.size + 2 ∉ g :: bs := fun hx => by have := HBK.out _ hx; omega
  have HRZ2 := hide (hl.box HRZ.out hzn)
  have HBN : Hid (∀ b ∈ g :: bx, w.heap.size + 3 ≤ b) := fun b hb => by
    rcases List.mem_cons.1 hb with e | e
    · rw [e]; exact HBK.out g (by simp)
    · rcases hl.n b e with e | e
      · exact HBK.out b (by simp [e])
      · have := HRZ.out.lt; omega
  have HB3 := hide (below_turns HB.out hl.t (fun x hx => by have := HBK.out x hx; omega) HB.out.size)
  have hlm := hl.m
  rw [List.nil_append] at hlm
  have HLM5 := hide hlm
  obtain ⟨M, hM⟩ : ∃ M : List Fr, M5 = M := ⟨_, rfl⟩
  rw [hM] at HLM5 HGD
  clear hm hl hlm hg5 hzn f0 f1 f2 f3 HLM HRF HRZ HB HBK HDD HOK HDE HFO
  have HLM := hide HLM5.out
  have HRZ := hide HRZ2.out
  have HB := hide HB3.out
  have HBK := hide HBN.out
  clear HLM5 HRZ2 HB3 HBN hM
  obtain ⟨⟨ve9, vi9, vo9, vf9, tv9, cb9, hrow, hcn, hfr, hsub, htv⟩, hlt9, hlo9, hng9, hbs9⟩ := HLM.out
  obtain ⟨a1, p1, rfl, _, _⟩ := hcn.rd.e.form
  obtain ⟨a2, p2, rfl, _, _⟩ := hcn.rd.i.form
  obtain ⟨a3, p3, rfl, _, _⟩ := hcn.rd.o.form
  obtain ⟨a4, p4, rfl, _, _⟩ := hcn.rd.f.form
  obtain ⟨a5, p5, rfl, _, _⟩ := owns_form hfr
  have HRL := hide hrow; have HCN := hide hcn; have HFR := hide hfr
  have HSL : Hid (∀ b ∈ cb9, w.heap.size + 3 ≤ b) := fun b hb => HBK.out b (by simp [hsub b hb])
  have HTV : Hid (∀ q, (Value.slice a5 M.length p5).ownBlock = some q → q ∉ cb9 ∧ w.heap.size + 3 ≤ q) := fun q hq => ⟨(htv q hq).2, HBK.out q (by simp [(htv q hq).1])⟩
  have HGZ : Hid (w.heap.size + 3 ≤ g) := HBK.out g (by simp)
  clear hrow hcn hfr hsub htv hlt9 hlo9 hng9 hbs9 HLM
  go_upto_region 4 with fail
  have hD : Below W.heap.size W (World.drew W) := (Below.refl _ _).drew
  replace HRL := hide (HRL.out.new hD)
  replace HRZ := hide (HRZ.out.new hD)
  replace HCN := hide (HCN.out.new hD)
  replace HFR := hide (owns_new HFR.out hD)
  replace HB := hide (bchain HB.out hD)
  clear hD
  refine wp_region_held_drew (S := fun u => RowIs u g 69 [.int .i64 D5.reg.lim, .int .i64 D5.reg.top, .slice a1 D5.reg.es.length p1, .int .i64 D5.inr, .slice a2 D5.inT.length p2, .int .i64 D5.outr, .slice a3 D5.outT.length p3, .int .i64 D5.get, .int .i64 D5.give, .int .i64 D5.first, .slice a4 D5.flows.length p4, .bool D5.away, .bool D5.dead, .slice a5 M.length p5]) (by kernel_rfl) HRL.out (fun hS => ?_)
  generalize World.drew W = W9 at *
  refine wpAnyH_take (i := 0) (v := ?_) rfl (by kernel_rfl) (by kernel_rfl) (by kernel_rfl) (fun _ _ _ h => h) (Or.inl ⟨by rfl, ?_⟩) hS ?_; rotate_left; focus (intro w hw; clear hw; go_simp; try with_reducible rfl)
  refine wpAnyH_take (i := 1) (v := .agg #[.int .i64 D5.reg.lim, .int .i64 D5.reg.top, .slice a1 D5.reg.es.length p1, .int .i64 D5.inr, .slice a2 D5.inT.length p2, .int .i64 D5.outr, .slice a3 D5.outT.length p3, .int .i64 D5.get, .int .i64 D5.give, .int .i64 D5.first, .slice a4 D5.flows.length p4, .bool D5.away, .bool D5.dead]) rfl (by kernel_rfl) (by kernel_rfl) (by kernel_rfl) (fun _ _ _ h => h) (Or.inl ⟨by kernel_rfl, ?ld⟩) hS ?_
  case ld =>
    intro uu hu
    have z0 := RowIs.cell (j := 0) hu rfl
    have z1 := RowIs.cell (j := 1) hu rfl
    have z2 := RowIs.cell (j := 2) hu rfl
    have z3 := RowIs.cell (j := 3) hu rfl
    have z4 := RowIs.cell (j := 4) hu rfl
    have z5 := RowIs.cell (j := 5) hu rfl
    have z6 := RowIs.cell (j := 6) hu rfl
    have z7 := RowIs.cell (j := 7) hu rfl
    have z8 := RowIs.cell (j := 8) hu rfl
    have z9 := RowIs.cell (j := 9) hu rfl
    have z10 := RowIs.cell (j := 10) hu rfl
    have z11 := RowIs.cell (j := 11) hu rfl
    have z12 := RowIs.cell (j := 12) hu rfl
    clear hu
    go_simp
  refine wpAnyH_take (i := 2) (v := ?_) rfl (by kernel_rfl) (by kernel_rfl) (by kernel_rfl) (fun _ _ _ h => h) (Or.inl ⟨by rfl, ?_⟩) hS ?_; rotate_left; focus (intro w hw; clear hw; go_simp; try with_reducible rfl)
  refine wpAnyH_take (i := 3) (v := .slice a5 M.length p5) rfl (by kernel_rfl) (by kernel_rfl) (by kernel_rfl) (fun _ _ _ h => h) (Or.inl ⟨by kernel_rfl, ?ld⟩) hS ?_; case ld => (intro uu hu; have z2 := RowIs.cell (j := 13) hu rfl; have z8 := hu.lt; clear hu; go_simp)
  refine wpAnyH_ready (rs := [4]) (by kernel_rfl) (by simp) ?_
  refine AllReadyH.cons rfl (fun K hK => ?_) AllReadyH.nil
  try simp only [Act.put, List.getElem_toArray, List.getElem_cons_succ, List.getElem_cons_zero, List.setIfInBounds_toArray, List.set_cons_zero, List.set_cons_succ]
  rw [if_pos (by kernel_rfl)]
  refine wp_store_row 43 _ _ (by rfl) (w.heap.size + 2) #[.int .i64 D5.reg.lim, .int .i64 D5.reg.top, .slice a1 D5.reg.es.length p1, .int .i64 D5.inr, .slice a2 D5.inT.length p2, .int .i64 D5.outr, .slice a3 D5.outT.length p3, .int .i64 D5.get, .int .i64 D5.give, .int .i64 D5.first, .slice a4 D5.flows.length p4, .bool D5.away, .bool D5.dead] (by rfl) (by rfl) 43 #[.int .i64 0, .int .i64 0, .slice none 0 0, .int .i64 0, .slice none 0 0, .int .i64 0, .slice none 0 0, .int .i64 0, .int .i64 0, .int .i64 0, .slice none 0 0, .bool false, .bool false] HRZ.out (by kernel_rfl) rfl (Array.all_eq_true_iff_forall_mem.2 (by intro u hu; simp at hu; rcases hu with rfl | rfl | rfl | rfl | rfl | rfl | rfl | rfl | rfl | rfl | rfl | rfl | rfl <;> rfl)) ?_
  have RZ2 := hide (rowIs_setRow (cs' := [.int .i64 D5.reg.lim, .int .i64 D5.reg.top, .slice a1 D5.reg.es.length p1, .int .i64 D5.inr, .slice a2 D5.inT.length p2, .int .i64 D5.outr, .slice a3 D5.outT.length p3, .int .i64 D5.get, .int .i64 D5.give, .int .i64 D5.first, .slice a4 D5.flows.length p4, .bool D5.away, .bool D5.dead]) HRZ.out)
  have HB2 := hide (below_setRow HB.out (show w.heap.size ≤ w.heap.size + 2 by omega) #[.int .i64 D5.reg.lim, .int .i64 D5.reg.top, .slice a1 D5.reg.es.length p1, .int .i64 D5.inr, .slice a2 D5.inT.length p2, .int .i64 D5.outr, .slice a3 D5.outT.length p3, .int .i64 D5.get, .int .i64 D5.give, .int .i64 D5.first, .slice a4 D5.flows.length p4, .bool D5.away, .bool D5.dead])
  have hkx : ∀ q, w.heap.size + 3 ≤ q → (W9.setRow (w.heap.size + 2) #[.int .i64 D5.reg.lim, .int .i64 D5.reg.top, .slice a1 D5.reg.es.length p1, .int .i64 D5.inr, .slice a2 D5.inT.length p2, .int .i64 D5.outr, .slice a3 D5.outT.length p3, .int .i64 D5.get, .int .i64 D5.give, .int .i64 D5.first, .slice a4 D5.flows.length p4, .bool D5.away, .bool D5.dead]).heap[q]? = W9.heap[q]? := fun q hq => setRow_other _ _ _ _ (by omega)
  have HRL2 := hide (HRL.out.kept (hkx g HGZ.out))
  have HCN2 := hide (HCN.out.keep (w' := W9.setRow (w.heap.size + 2) #[.int .i64 D5.reg.lim, .int .i64 D5.reg.top, .slice a1 D5.reg.es.length p1, .int .i64 D5.inr, .slice a2 D5.inT.length p2, .int .i64 D5.outr, .slice a3 D5.outT.length p3, .int .i64 D5.get, .int .i64 D5.give, .int .i64 D5.first, .slice a4 D5.flows.length p4, .bool D5.away, .bool D5.dead]) (by rw [setRow_size]; exact Nat.le_refl _) (fun b hb => hkx b (HSL.out b hb)))
  have HFR2 := hide (owns_kept HFR.out (w' := W9.setRow (w.heap.size + 2) #[.int .i64 D5.reg.lim, .int .i64 D5.reg.top, .slice a1 D5.reg.es.length p1, .int .i64 D5.inr, .slice a2 D5.inT.length p2, .int .i64 D5.outr, .slice a3 D5.outT.length p3, .int .i64 D5.get, .int .i64 D5.give, .int .i64 D5.first, .slice a4 D5.flows.length p4, .bool D5.away, .bool D5.dead]) (fun q hq _ => hkx q (HTV.out q hq).2))
  refine hK.out _ _ HRL2.out (fun hS => ?_)
  clear hK K HRL HRZ HB HCN HFR hkx
  try simp only [Act.put, List.getElem_toArray, List.getElem_cons_succ, List.getElem_cons_zero, List.setIfInBounds_toArray, List.set_cons_zero, List.set_cons_succ]
  generalize W9.setRow (w.heap.size + 2) #[.int .i64 D5.reg.lim, .int .i64 D5.reg.top, .slice a1 D5.reg.es.length p1, .int .i64 D5.inr, .slice a2 D5.inT.length p2, .int .i64 D5.outr, .slice a3 D5.outT.length p3, .int .i64 D5.get, .int .i64 D5.give, .int .i64 D5.first, .slice a4 D5.flows.length p4, .bool D5.away, .bool D5.dead] = V2 at *
  refine wpAnyH_take (i := 5) (v := ?_) rfl (by kernel_rfl) (by kernel_rfl) (by kernel_rfl) (fun _ _ _ h => h) (Or.inl ⟨by rfl, ?_⟩) hS ?_; rotate_left; focus (intro w hw; clear hw; go_simp; try with_reducible rfl)
  refine wpAnyH_done (by kernel_rfl) ?_ _
  have z0 := RowIs.cell (j := 0) RZ2.out rfl
  have z1 := RowIs.cell (j := 1) RZ2.out rfl
  have z2 := RowIs.cell (j := 2) RZ2.out rfl
  have z3 := RowIs.cell (j := 3) RZ2.out rfl
  have z4 := RowIs.cell (j := 4) RZ2.out rfl
  have z5 := RowIs.cell (j := 5) RZ2.out rfl
  have z6 := RowIs.cell (j := 6) RZ2.out rfl
  have z7 := RowIs.cell (j := 7) RZ2.out rfl
  have z8 := RowIs.cell (j := 8) RZ2.out rfl
  have z9 := RowIs.cell (j := 9) RZ2.out rfl
  have z10 := RowIs.cell (j := 10) RZ2.out rfl
  have z11 := RowIs.cell (j := 11) RZ2.out rfl
  have z12 := RowIs.cell (j := 12) RZ2.out rfl
  have zf := fun j => RowIs.frozen RZ2.out j
  go_wp2_with fail
  refine bodyPost_ret (v := .tuple #[.agg #[.int .i64 D5.reg.lim, .int .i64 D5.reg.top, .slice a1 D5.reg.es.length p1, .int .i64 D5.inr, .slice a2 D5.inT.length p2, .int .i64 D5.outr, .slice a3 D5.outT.length p3, .int .i64 D5.get, .int .i64 D5.give, .int .i64 D5.first, .slice a4 D5.flows.length p4, .bool D5.away, .bool D5.dead], .slice a5 M.length p5]) (by simp [results, Tryz.results10, go_sem, *]) rfl ?_
  rw [HGD.out]
  exact ⟨_, _, rfl, ⟨_, _, _, _, cb9, rfl, HCN2.out, fun b hb => by have := HSL.out b hb; omega, HFR2.out, fun q hq => (HTV.out q hq).1⟩, HB2.out⟩
end Go.Proofs.YtllaeakeaabiaaaGreat
