/- Lemmas. -/
import Derived.Test.YtlpbnkideaojeaaGreatDoorQRpLinkNew
namespace Go.Proofs.YtlpbnkideaojeaaGreatDoor
open Go.RowKit
open List renaming getElem_toArray → aI, getElem_cons_succ → aJ, getElem_cons_zero → aK, setIfInBounds_toArray → aL, set_cons_zero → aM, set_cons_succ → aN
set_option maxRecDepth 100000
set_option linter.unusedSimpArgs false
set_option linter.unusedVariables false
theorem aa5 {r : bZ} {id : Int} (h : jM (jk r id) = true) : ∃ k, dI r.es id = some k := by
 refine Zq (r := r) (id := id) (fun e => ?_) (fun e => ?_)
 ·rw [e] at h; exact absurd h (by decide)
 ·rw [e] at h; exact absurd h (by decide)
theorem QM {r : bZ} {id : Int} {k : Nat} (h : dI r.es id = some k) (hk : k < r.es.length) : jk r id = r.es[k].state := by unfold jk; rw [h]; simp [hk]
theorem J9 {c : aH} {id code : Int} (hok : dV c = true) (h : c.dead = true ∨ jM (jk c.reg id) = false ∨ aQ code 100 999 = false) : jG c id code = (c, []) := by
 cases ha : dI c.reg.es id with
 | none => exact F9 ha
 | some k =>
  have hk : k < c.reg.es.length := by obtain ⟨q, _, _⟩ := mH ha; exact q
  have pE : k < c.flows.length := by rw [(rH hok).1]; exact hk
  rw [zP ha pE hk]
  unfold rP
  rw [if_pos]
  rw [← QM ha hk]
  exact h
set_option maxHeartbeats 16000000 in
theorem QV (d : aH) (ve vi vo vf : Value) (id code : Int) (w : World) (hv : je w d ve vi vo vf) (ht : qU w) :
  Calls Tryz.prog 7 #[bH d ve vi vo vf, .int .i64 id, .int .i64 code] w fun x w' => ∃ v kG, x = .returned (.tuple #[v, kG]) ∧ Cc w.heap.size ((iU d id code).1, (iU d id code).2) v kG w' ∧ Below w.heap.size w w' := by
 have HV := hide hv
 have Cb := hide ht
 clear ht
 obtain ⟨ae, pe, rfl, _, _⟩ := hv.e.form
 obtain ⟨ai, pi, rfl, _, _⟩ := hv.i.form
 obtain ⟨ao, po, rfl, _, _⟩ := hv.o.form
 obtain ⟨af, pf, rfl, _, _⟩ := hv.f.form
 clear hv
 have aP : Below w.heap.size w ((w.alloc (.cells #[.int .i64 d.reg.lim, .int .i64 d.reg.top, .slice ae d.reg.es.length pe, .int .i64 d.inr, .slice ai d.inT.length pi, .int .i64 d.au, .slice ao d.outT.length po, .int .i64 d.get, .int .i64 d.give, .int .i64 d.first, .slice af d.flows.length pf, .bool d.away, .bool d.dead] 40)).alloc (.cells #[.int .i64 0, .int .i64 0, .slice none 0 0, .int .i64 0, .slice none 0 0, .int .i64 0, .slice none 0 0, .int .i64 0, .int .i64 0, .int .i64 0, .slice none 0 0, .bool false, .bool false] 40)) := ((Below.refl _ _).alloc (Nat.le_refl _) _).alloc (by simp) _
 have RA := (aB w 40 [.int .i64 d.reg.lim, .int .i64 d.reg.top, .slice ae d.reg.es.length pe, .int .i64 d.inr, .slice ai d.inT.length pi, .int .i64 d.au, .slice ao d.outT.length po, .int .i64 d.get, .int .i64 d.give, .int .i64 d.first, .slice af d.flows.length pf, .bool d.away, .bool d.dead]).alloc (.cells #[.int .i64 0, .int .i64 0, .slice none 0 0, .int .i64 0, .slice none 0 0, .int .i64 0, .slice none 0 0, .int .i64 0, .int .i64 0, .int .i64 0, .slice none 0 0, .bool false, .bool false] 40)
 have RZ := aB (w.alloc (.cells #[.int .i64 d.reg.lim, .int .i64 d.reg.top, .slice ae d.reg.es.length pe, .int .i64 d.inr, .slice ai d.inT.length pi, .int .i64 d.au, .slice ao d.outT.length po, .int .i64 d.get, .int .i64 d.give, .int .i64 d.first, .slice af d.flows.length pf, .bool d.away, .bool d.dead] 40)) 40 [.int .i64 0, .int .i64 0, .slice none 0 0, .int .i64 0, .slice none 0 0, .int .i64 0, .slice none 0 0, .int .i64 0, .int .i64 0, .int .i64 0, .slice none 0 0, .bool false, .bool false]
 have hsz : (w.alloc (.cells #[.int .i64 d.reg.lim, .int .i64 d.reg.top, .slice ae d.reg.es.length pe, .int .i64 d.inr, .slice ai d.inT.length pi, .int .i64 d.au, .slice ao d.outT.length po, .int .i64 d.get, .int .i64 d.give, .int .i64 d.first, .slice af d.flows.length pf, .bool d.away, .bool d.dead] 40)).heap.size = w.heap.size + 1 := by simp
 have Ka : ((w.alloc (.cells #[.int .i64 d.reg.lim, .int .i64 d.reg.top, .slice ae d.reg.es.length pe, .int .i64 d.inr, .slice ai d.inT.length pi, .int .i64 d.au, .slice ao d.outT.length po, .int .i64 d.get, .int .i64 d.give, .int .i64 d.first, .slice af d.flows.length pf, .bool d.away, .bool d.dead] 40)).alloc (.cells #[.int .i64 0, .int .i64 0, .slice none 0 0, .int .i64 0, .slice none 0 0, .int .i64 0, .slice none 0 0, .int .i64 0, .int .i64 0, .int .i64 0, .slice none 0 0, .bool false, .bool false] 40)).heap.size = w.heap.size + 2 := by simp
 rw [hsz] at RZ
 obtain ⟨V, hV⟩ : ∃ V, (w.alloc (.cells #[.int .i64 d.reg.lim, .int .i64 d.reg.top, .slice ae d.reg.es.length pe, .int .i64 d.inr, .slice ai d.inT.length pi, .int .i64 d.au, .slice ao d.outT.length po, .int .i64 d.get, .int .i64 d.give, .int .i64 d.first, .slice af d.flows.length pf, .bool d.away, .bool d.dead] 40)).alloc (.cells #[.int .i64 0, .int .i64 0, .slice none 0 0, .int .i64 0, .slice none 0 0, .int .i64 0, .slice none 0 0, .int .i64 0, .int .i64 0, .int .i64 0, .slice none 0 0, .bool false, .bool false] 40) = V := ⟨_, rfl⟩
 rw [hV] at aP RA RZ Ka
 have HB := hide aP
 have tC := hide Ka
 clear hsz Ka aP
 go_enter Tryz.func7, Tryz.ntmps7
 go_upto_region 1 with fail
 try rw [hV]
 clear hV
 go_cut [8, 9] (fun p y wc => ∃ g D bs, p = .pointer (some ⟨g, 0, none⟩) ∧ y = .bool (dV d && !d.dead) ∧ Hid (fO wc w.heap.size g D [] bs) ∧ Hid (aj wc (w.heap.size + 1) 40 [.int .i64 0, .int .i64 0, .slice none 0 0, .int .i64 0, .slice none 0 0, .int .i64 0, .slice none 0 0, .int .i64 0, .int .i64 0, .int .i64 0, .slice none 0 0, .bool false, .bool false] ) ∧ Hid (Below w.heap.size w wc) ∧ Hid (D = if dV d then d else vP) ∧ Hid (∀ b ∈ g :: bs, w.heap.size + 2 ≤ b))
 case first =>
  cases hok : dV d
  ·go_wp2_with (refine wpList_load_row (by rfl) 40 _ (by rfl) w.heap.size (by rfl) [.int .i64 d.reg.lim, .int .i64 d.reg.top, .slice ae d.reg.es.length pe, .int .i64 d.inr, .slice ai d.inT.length pi, .int .i64 d.au, .slice ao d.outT.length po, .int .i64 d.get, .int .i64 d.give, .int .i64 d.first, .slice af d.flows.length pf, .bool d.away, .bool d.dead] _ 40 RA Tryz.underlying40 rfl (by kernel_rfl) ?_)
   refine (aa6 d _ _ _ _ _ (HV.out.new HB.out) hok).mono ?_; rintro e w1 ⟨rfl, hb1⟩
   have hz1 := hb1.size
   have jr := hide (QN (aa7 w1) (lo := w.heap.size) (fun b hb => by cases hb) (by have := tC.out; omega))
   have hbx : Below w1.heap.size w1 (w1.alloc (.cells (lJ vP (.slice none 0 0) (.slice none 0 0) (.slice none 0 0) (.slice none 0 0) (.slice none 0 0)).toArray 61)) := (Below.refl _ _).alloc (Nat.le_refl _) _
   have HZ1 := hide ((RZ.new hb1).new hbx)
   have HB1 := hide (ah (ah HB.out hb1) hbx)
   have nk : Hid (∀ b ∈ w1.heap.size :: ([] : List Nat), w.heap.size + 2 ≤ b) := fun b hb => by simp at hb; have := tC.out; omega
   clear hb1 hbx RA RZ HB hz1
   go_wp2_with fail
   go_meet
   exact ⟨_, _, _, rfl, (by rw [hok]; rfl), jr, HZ1, HB1, (by show _ = _; rw [hok]; rfl), nk⟩
  ·go_wp2_with (refine wpList_load_row (by rfl) 40 _ (by rfl) w.heap.size (by rfl) [.int .i64 d.reg.lim, .int .i64 d.reg.top, .slice ae d.reg.es.length pe, .int .i64 d.inr, .slice ai d.inT.length pi, .int .i64 d.au, .slice ao d.outT.length po, .int .i64 d.get, .int .i64 d.give, .int .i64 d.first, .slice af d.flows.length pf, .bool d.away, .bool d.dead] _ 40 RA Tryz.underlying40 rfl (by kernel_rfl) ?_)
   refine (aa8 d _ _ _ _ _ (HV.out.new HB.out) hok).mono ?_; rintro e w1 ⟨v1, v2, v3, v4, bs, rfl, hcn, hlo, hb1⟩
   obtain ⟨a1, p1, rfl, _, _⟩ := hcn.rd.e.form
   obtain ⟨a2, p2, rfl, _, _⟩ := hcn.rd.i.form
   obtain ⟨a3, p3, rfl, _, _⟩ := hcn.rd.o.form
   obtain ⟨a4, p4, rfl, _, _⟩ := hcn.rd.f.form
   have hz1 := hb1.size
   have jr := hide (QN hcn (lo := w.heap.size) (fun b hb => by have := hlo b hb; have := tC.out; omega) (by have := tC.out; omega))
   have hbx : Below w1.heap.size w1 (w1.alloc (.cells (lJ d (.slice a1 d.reg.es.length p1) (.slice a2 d.inT.length p2) (.slice a3 d.outT.length p3) (.slice a4 d.flows.length p4) (.slice none 0 0)).toArray 61)) := (Below.refl _ _).alloc (Nat.le_refl _) _
   have HZ1 := hide ((RZ.new hb1).new hbx)
   have HB1 := hide (ah (ah HB.out hb1) hbx)
   have nk : Hid (∀ b ∈ w1.heap.size :: bs, w.heap.size + 2 ≤ b) := fun b hb => by
    have h3 := tC.out
    rcases List.mem_cons.1 hb with e | e
    ·omega
    ·have := hlo b e; omega
   clear hb1 hbx RA RZ HB hz1 hcn hlo
   go_wp2_with fail
   go_meet
   exact ⟨_, _, _, rfl, (by rw [hok]; rfl), jr, HZ1, HB1, (by show _ = _; rw [hok]; rfl), nk⟩
 obtain ⟨g, D, bs, rfl, rfl, jr, aZ, HB, dL, iG⟩ := hcut
 clear RA RZ tC HV
 obtain ⟨M, hM⟩ : ∃ M : List Fr, M = [] := ⟨_, rfl⟩
 rw [← hM] at jr
 have pF := hide hM
 clear hM
 cases hok : dV d
 ·have tK : Hid (iU d id code = (D, M)) := by
   show _ = _
   rw [dL.out, hok, pF.out]; unfold iU; rw [if_pos hok]; rfl
  clear dL pF hok
  go_wp2_with fail
  obtain ⟨⟨Fg, Fh, Fj, Fp, Fq, jX, hrow, hcn, hfr, hsub, iT⟩, tL, tN, tO, tQ⟩ := jr.out
  obtain ⟨a1, p1, rfl, _, _⟩ := hcn.rd.e.form
  obtain ⟨a2, p2, rfl, _, _⟩ := hcn.rd.i.form
  obtain ⟨a3, p3, rfl, _, _⟩ := hcn.rd.o.form
  obtain ⟨a4, p4, rfl, _, _⟩ := hcn.rd.f.form
  obtain ⟨a5, p5, rfl, _, _⟩ := bW hfr
  have eD := hide hrow; have fH := hide hcn; have iJ := hide hfr
  have HSL : Hid (∀ b ∈ jX, w.heap.size + 2 ≤ b) := fun b hb => iG.out b (by simp [hsub b hb])
  have kU : Hid (∀ q, (Value.slice a5 M.length p5).ownBlock = some q → q ∉ jX ∧ w.heap.size + 2 ≤ q) := fun q hq => ⟨(iT q hq).2, iG.out q (by simp [(iT q hq).1])⟩
  have tT : Hid (w.heap.size + 2 ≤ g) := iG.out g (by simp)
  clear hrow hcn hfr hsub iT tL tN tO tQ jr
  go_upto_region 4 with fail
  have hD : Below wc.heap.size wc (World.drew wc) := (Below.refl _ _).drew
  replace eD := hide (eD.out.new hD)
  replace aZ := hide (aZ.out.new hD)
  replace fH := hide (fH.out.new hD)
  replace iJ := hide (aX iJ.out hD)
  replace HB := hide (ah HB.out hD)
  clear hD
  refine wp_region_held_drew (S := fun u => aj u g 61 [.int .i64 D.reg.lim, .int .i64 D.reg.top, .slice a1 D.reg.es.length p1, .int .i64 D.inr, .slice a2 D.inT.length p2, .int .i64 D.au, .slice a3 D.outT.length p3, .int .i64 D.get, .int .i64 D.give, .int .i64 D.first, .slice a4 D.flows.length p4, .bool D.away, .bool D.dead, .slice a5 M.length p5]) (by kernel_rfl) eD.out (fun hS => ?_)
  generalize World.drew wc = W9 at *
  refine wpAnyH_take (i := 0) (v := ?_) rfl (by kernel_rfl) (by kernel_rfl) (by kernel_rfl) (fun _ _ _ h => h) (Or.inl ⟨by rfl, ?_⟩) hS ?_; rotate_left; focus (intro w hw; clear hw; go_simp; try with_reducible rfl)
  refine wpAnyH_take (i := 1) (v := .agg #[.int .i64 D.reg.lim, .int .i64 D.reg.top, .slice a1 D.reg.es.length p1, .int .i64 D.inr, .slice a2 D.inT.length p2, .int .i64 D.au, .slice a3 D.outT.length p3, .int .i64 D.get, .int .i64 D.give, .int .i64 D.first, .slice a4 D.flows.length p4, .bool D.away, .bool D.dead]) rfl (by kernel_rfl) (by kernel_rfl) (by kernel_rfl) (fun _ _ _ h => h) (Or.inl ⟨by kernel_rfl, ?ld⟩) hS ?_
  case ld =>
   intro uu hu
   obtain ⟨z0, z1, z2, z3, z4, z5, z6, z7, z8, z9, jf, jg, z12⟩ := dw hu
   clear hu
   go_simp
  refine wpAnyH_take (i := 2) (v := ?_) rfl (by kernel_rfl) (by kernel_rfl) (by kernel_rfl) (fun _ _ _ h => h) (Or.inl ⟨by rfl, ?_⟩) hS ?_; rotate_left; focus (intro w hw; clear hw; go_simp; try with_reducible rfl)
  refine wpAnyH_take (i := 3) (v := .slice a5 M.length p5) rfl (by kernel_rfl) (by kernel_rfl) (by kernel_rfl) (fun _ _ _ h => h) (Or.inl ⟨by kernel_rfl, ?ld⟩) hS ?_; case ld => (intro uu hu; have z2 := ak 13 hu rfl; have z8 := hu.lt; clear hu; go_simp)
  refine wpAnyH_ready (rs := [4]) (by kernel_rfl) (by simp) ?_
  refine AllReadyH.cons rfl (fun K hK => ?_) AllReadyH.nil
  try simp only [Act.put, aI, aJ, aK, aL, aM, aN]
  rw [if_pos (by kernel_rfl)]
  refine wp_store_row 40 _ _ (by rfl) (w.heap.size + 1) #[.int .i64 D.reg.lim, .int .i64 D.reg.top, .slice a1 D.reg.es.length p1, .int .i64 D.inr, .slice a2 D.inT.length p2, .int .i64 D.au, .slice a3 D.outT.length p3, .int .i64 D.get, .int .i64 D.give, .int .i64 D.first, .slice a4 D.flows.length p4, .bool D.away, .bool D.dead] (by rfl) (by rfl) 40 #[.int .i64 0, .int .i64 0, .slice none 0 0, .int .i64 0, .slice none 0 0, .int .i64 0, .slice none 0 0, .int .i64 0, .int .i64 0, .int .i64 0, .slice none 0 0, .bool false, .bool false] aZ.out (by kernel_rfl) rfl (Array.all_eq_true_iff_forall_mem.2 (by intro u hu; simp at hu; rcases hu with rfl | rfl | rfl | rfl | rfl | rfl | rfl | rfl | rfl | rfl | rfl | rfl | rfl <;> rfl)) ?_
  have cO := hide (dW (cs' := [.int .i64 D.reg.lim, .int .i64 D.reg.top, .slice a1 D.reg.es.length p1, .int .i64 D.inr, .slice a2 D.inT.length p2, .int .i64 D.au, .slice a3 D.outT.length p3, .int .i64 D.get, .int .i64 D.give, .int .i64 D.first, .slice a4 D.flows.length p4, .bool D.away, .bool D.dead]) aZ.out)
  have HB2 := hide (below_setRow HB.out (show w.heap.size ≤ w.heap.size + 1 by omega) #[.int .i64 D.reg.lim, .int .i64 D.reg.top, .slice a1 D.reg.es.length p1, .int .i64 D.inr, .slice a2 D.inT.length p2, .int .i64 D.au, .slice a3 D.outT.length p3, .int .i64 D.get, .int .i64 D.give, .int .i64 D.first, .slice a4 D.flows.length p4, .bool D.away, .bool D.dead])
  have hkx : ∀ q, w.heap.size + 2 ≤ q → (W9.setRow (w.heap.size + 1) #[.int .i64 D.reg.lim, .int .i64 D.reg.top, .slice a1 D.reg.es.length p1, .int .i64 D.inr, .slice a2 D.inT.length p2, .int .i64 D.au, .slice a3 D.outT.length p3, .int .i64 D.get, .int .i64 D.give, .int .i64 D.first, .slice a4 D.flows.length p4, .bool D.away, .bool D.dead]).heap[q]? = W9.heap[q]? := fun q hq => setRow_other _ _ _ _ (by omega)
  have tV := hide (eD.out.kept (hkx g tT.out))
  have pG := hide (fH.out.keep (w' := W9.setRow (w.heap.size + 1) #[.int .i64 D.reg.lim, .int .i64 D.reg.top, .slice a1 D.reg.es.length p1, .int .i64 D.inr, .slice a2 D.inT.length p2, .int .i64 D.au, .slice a3 D.outT.length p3, .int .i64 D.get, .int .i64 D.give, .int .i64 D.first, .slice a4 D.flows.length p4, .bool D.away, .bool D.dead]) (by rw [setRow_size]; exact Nat.le_refl _) (fun b hb => hkx b (HSL.out b hb)))
  have tX := hide (gK iJ.out (w' := W9.setRow (w.heap.size + 1) #[.int .i64 D.reg.lim, .int .i64 D.reg.top, .slice a1 D.reg.es.length p1, .int .i64 D.inr, .slice a2 D.inT.length p2, .int .i64 D.au, .slice a3 D.outT.length p3, .int .i64 D.get, .int .i64 D.give, .int .i64 D.first, .slice a4 D.flows.length p4, .bool D.away, .bool D.dead]) (fun q hq _ => hkx q (kU.out q hq).2))
  refine hK.out _ _ tV.out (fun hS => ?_)
  clear hK K eD aZ HB fH iJ hkx
  try simp only [Act.put, aI, aJ, aK, aL, aM, aN]
  generalize W9.setRow (w.heap.size + 1) #[.int .i64 D.reg.lim, .int .i64 D.reg.top, .slice a1 D.reg.es.length p1, .int .i64 D.inr, .slice a2 D.inT.length p2, .int .i64 D.au, .slice a3 D.outT.length p3, .int .i64 D.get, .int .i64 D.give, .int .i64 D.first, .slice a4 D.flows.length p4, .bool D.away, .bool D.dead] = V2 at *
  refine wpAnyH_take (i := 5) (v := ?_) rfl (by kernel_rfl) (by kernel_rfl) (by kernel_rfl) (fun _ _ _ h => h) (Or.inl ⟨by rfl, ?_⟩) hS ?_; rotate_left; focus (intro w hw; clear hw; go_simp; try with_reducible rfl)
  refine wpAnyH_done (by kernel_rfl) ?_ _
  obtain ⟨z0, z1, z2, z3, z4, z5, z6, z7, z8, z9, jf, jg, z12⟩ := dw cO.out
  have zf := fun j => aj.frozen cO.out j
  go_wp2_with fail
  refine bodyPost_ret (v := .tuple #[.agg #[.int .i64 D.reg.lim, .int .i64 D.reg.top, .slice a1 D.reg.es.length p1, .int .i64 D.inr, .slice a2 D.inT.length p2, .int .i64 D.au, .slice a3 D.outT.length p3, .int .i64 D.get, .int .i64 D.give, .int .i64 D.first, .slice a4 D.flows.length p4, .bool D.away, .bool D.dead], .slice a5 M.length p5]) (by simp [results, Tryz.results7, go_sem, *]) rfl ?_
  rw [tK.out]
  exact ⟨_, _, rfl, ⟨_, _, _, _, jX, rfl, pG.out, fun b hb => by have := HSL.out b hb; omega, tX.out, fun q hq => (kU.out q hq).1⟩, HB2.out⟩
 have hD0 : D = d := by rw [dL.out, hok]; rfl
 subst hD0
 have kT : Hid (iU D id code = jG D id code) := by show _ = _; unfold iU; rw [if_neg (by rw [hok]; decide)]
 have HLEN := hide (rH hok)
 have gL := hide hok
 clear dL
 cases hde : D.dead
 rotate_left
 ·have tK : Hid (iU D id code = (D, M)) := by
   show _ = _
   rw [kT.out, J9 hok (.inl hde), pF.out]
  clear hde hok kT pF
  go_wp2_with fail
  obtain ⟨⟨Fg, Fh, Fj, Fp, Fq, jX, hrow, hcn, hfr, hsub, iT⟩, tL, tN, tO, tQ⟩ := jr.out
  obtain ⟨a1, p1, rfl, _, _⟩ := hcn.rd.e.form
  obtain ⟨a2, p2, rfl, _, _⟩ := hcn.rd.i.form
  obtain ⟨a3, p3, rfl, _, _⟩ := hcn.rd.o.form
  obtain ⟨a4, p4, rfl, _, _⟩ := hcn.rd.f.form
  obtain ⟨a5, p5, rfl, _, _⟩ := bW hfr
  have eD := hide hrow; have fH := hide hcn; have iJ := hide hfr
  have HSL : Hid (∀ b ∈ jX, w.heap.size + 2 ≤ b) := fun b hb => iG.out b (by simp [hsub b hb])
  have kU : Hid (∀ q, (Value.slice a5 M.length p5).ownBlock = some q → q ∉ jX ∧ w.heap.size + 2 ≤ q) := fun q hq => ⟨(iT q hq).2, iG.out q (by simp [(iT q hq).1])⟩
  have tT : Hid (w.heap.size + 2 ≤ g) := iG.out g (by simp)
  clear hrow hcn hfr hsub iT tL tN tO tQ jr
  go_upto_region 4 with fail
  have hD : Below wc.heap.size wc (World.drew wc) := (Below.refl _ _).drew
  replace eD := hide (eD.out.new hD)
  replace aZ := hide (aZ.out.new hD)
  replace fH := hide (fH.out.new hD)
  replace iJ := hide (aX iJ.out hD)
  replace HB := hide (ah HB.out hD)
  clear hD
  refine wp_region_held_drew (S := fun u => aj u g 61 [.int .i64 D.reg.lim, .int .i64 D.reg.top, .slice a1 D.reg.es.length p1, .int .i64 D.inr, .slice a2 D.inT.length p2, .int .i64 D.au, .slice a3 D.outT.length p3, .int .i64 D.get, .int .i64 D.give, .int .i64 D.first, .slice a4 D.flows.length p4, .bool D.away, .bool D.dead, .slice a5 M.length p5]) (by kernel_rfl) eD.out (fun hS => ?_)
  generalize World.drew wc = W9 at *
  refine wpAnyH_take (i := 0) (v := ?_) rfl (by kernel_rfl) (by kernel_rfl) (by kernel_rfl) (fun _ _ _ h => h) (Or.inl ⟨by rfl, ?_⟩) hS ?_; rotate_left; focus (intro w hw; clear hw; go_simp; try with_reducible rfl)
  refine wpAnyH_take (i := 1) (v := .agg #[.int .i64 D.reg.lim, .int .i64 D.reg.top, .slice a1 D.reg.es.length p1, .int .i64 D.inr, .slice a2 D.inT.length p2, .int .i64 D.au, .slice a3 D.outT.length p3, .int .i64 D.get, .int .i64 D.give, .int .i64 D.first, .slice a4 D.flows.length p4, .bool D.away, .bool D.dead]) rfl (by kernel_rfl) (by kernel_rfl) (by kernel_rfl) (fun _ _ _ h => h) (Or.inl ⟨by kernel_rfl, ?ld⟩) hS ?_
  case ld =>
   intro uu hu
   obtain ⟨z0, z1, z2, z3, z4, z5, z6, z7, z8, z9, jf, jg, z12⟩ := dw hu
   clear hu
   go_simp
  refine wpAnyH_take (i := 2) (v := ?_) rfl (by kernel_rfl) (by kernel_rfl) (by kernel_rfl) (fun _ _ _ h => h) (Or.inl ⟨by rfl, ?_⟩) hS ?_; rotate_left; focus (intro w hw; clear hw; go_simp; try with_reducible rfl)
  refine wpAnyH_take (i := 3) (v := .slice a5 M.length p5) rfl (by kernel_rfl) (by kernel_rfl) (by kernel_rfl) (fun _ _ _ h => h) (Or.inl ⟨by kernel_rfl, ?ld⟩) hS ?_; case ld => (intro uu hu; have z2 := ak 13 hu rfl; have z8 := hu.lt; clear hu; go_simp)
  refine wpAnyH_ready (rs := [4]) (by kernel_rfl) (by simp) ?_
  refine AllReadyH.cons rfl (fun K hK => ?_) AllReadyH.nil
  try simp only [Act.put, aI, aJ, aK, aL, aM, aN]
  rw [if_pos (by kernel_rfl)]
  refine wp_store_row 40 _ _ (by rfl) (w.heap.size + 1) #[.int .i64 D.reg.lim, .int .i64 D.reg.top, .slice a1 D.reg.es.length p1, .int .i64 D.inr, .slice a2 D.inT.length p2, .int .i64 D.au, .slice a3 D.outT.length p3, .int .i64 D.get, .int .i64 D.give, .int .i64 D.first, .slice a4 D.flows.length p4, .bool D.away, .bool D.dead] (by rfl) (by rfl) 40 #[.int .i64 0, .int .i64 0, .slice none 0 0, .int .i64 0, .slice none 0 0, .int .i64 0, .slice none 0 0, .int .i64 0, .int .i64 0, .int .i64 0, .slice none 0 0, .bool false, .bool false] aZ.out (by kernel_rfl) rfl (Array.all_eq_true_iff_forall_mem.2 (by intro u hu; simp at hu; rcases hu with rfl | rfl | rfl | rfl | rfl | rfl | rfl | rfl | rfl | rfl | rfl | rfl | rfl <;> rfl)) ?_
  have cO := hide (dW (cs' := [.int .i64 D.reg.lim, .int .i64 D.reg.top, .slice a1 D.reg.es.length p1, .int .i64 D.inr, .slice a2 D.inT.length p2, .int .i64 D.au, .slice a3 D.outT.length p3, .int .i64 D.get, .int .i64 D.give, .int .i64 D.first, .slice a4 D.flows.length p4, .bool D.away, .bool D.dead]) aZ.out)
  have HB2 := hide (below_setRow HB.out (show w.heap.size ≤ w.heap.size + 1 by omega) #[.int .i64 D.reg.lim, .int .i64 D.reg.top, .slice a1 D.reg.es.length p1, .int .i64 D.inr, .slice a2 D.inT.length p2, .int .i64 D.au, .slice a3 D.outT.length p3, .int .i64 D.get, .int .i64 D.give, .int .i64 D.first, .slice a4 D.flows.length p4, .bool D.away, .bool D.dead])
  have hkx : ∀ q, w.heap.size + 2 ≤ q → (W9.setRow (w.heap.size + 1) #[.int .i64 D.reg.lim, .int .i64 D.reg.top, .slice a1 D.reg.es.length p1, .int .i64 D.inr, .slice a2 D.inT.length p2, .int .i64 D.au, .slice a3 D.outT.length p3, .int .i64 D.get, .int .i64 D.give, .int .i64 D.first, .slice a4 D.flows.length p4, .bool D.away, .bool D.dead]).heap[q]? = W9.heap[q]? := fun q hq => setRow_other _ _ _ _ (by omega)
  have tV := hide (eD.out.kept (hkx g tT.out))
  have pG := hide (fH.out.keep (w' := W9.setRow (w.heap.size + 1) #[.int .i64 D.reg.lim, .int .i64 D.reg.top, .slice a1 D.reg.es.length p1, .int .i64 D.inr, .slice a2 D.inT.length p2, .int .i64 D.au, .slice a3 D.outT.length p3, .int .i64 D.get, .int .i64 D.give, .int .i64 D.first, .slice a4 D.flows.length p4, .bool D.away, .bool D.dead]) (by rw [setRow_size]; exact Nat.le_refl _) (fun b hb => hkx b (HSL.out b hb)))
  have tX := hide (gK iJ.out (w' := W9.setRow (w.heap.size + 1) #[.int .i64 D.reg.lim, .int .i64 D.reg.top, .slice a1 D.reg.es.length p1, .int .i64 D.inr, .slice a2 D.inT.length p2, .int .i64 D.au, .slice a3 D.outT.length p3, .int .i64 D.get, .int .i64 D.give, .int .i64 D.first, .slice a4 D.flows.length p4, .bool D.away, .bool D.dead]) (fun q hq _ => hkx q (kU.out q hq).2))
  refine hK.out _ _ tV.out (fun hS => ?_)
  clear hK K eD aZ HB fH iJ hkx
  try simp only [Act.put, aI, aJ, aK, aL, aM, aN]
  generalize W9.setRow (w.heap.size + 1) #[.int .i64 D.reg.lim, .int .i64 D.reg.top, .slice a1 D.reg.es.length p1, .int .i64 D.inr, .slice a2 D.inT.length p2, .int .i64 D.au, .slice a3 D.outT.length p3, .int .i64 D.get, .int .i64 D.give, .int .i64 D.first, .slice a4 D.flows.length p4, .bool D.away, .bool D.dead] = V2 at *
  refine wpAnyH_take (i := 5) (v := ?_) rfl (by kernel_rfl) (by kernel_rfl) (by kernel_rfl) (fun _ _ _ h => h) (Or.inl ⟨by rfl, ?_⟩) hS ?_; rotate_left; focus (intro w hw; clear hw; go_simp; try with_reducible rfl)
  refine wpAnyH_done (by kernel_rfl) ?_ _
  obtain ⟨z0, z1, z2, z3, z4, z5, z6, z7, z8, z9, jf, jg, z12⟩ := dw cO.out
  have zf := fun j => aj.frozen cO.out j
  go_wp2_with fail
  refine bodyPost_ret (v := .tuple #[.agg #[.int .i64 D.reg.lim, .int .i64 D.reg.top, .slice a1 D.reg.es.length p1, .int .i64 D.inr, .slice a2 D.inT.length p2, .int .i64 D.au, .slice a3 D.outT.length p3, .int .i64 D.get, .int .i64 D.give, .int .i64 D.first, .slice a4 D.flows.length p4, .bool D.away, .bool D.dead], .slice a5 M.length p5]) (by simp [results, Tryz.results7, go_sem, *]) rfl ?_
  rw [tK.out]
  exact ⟨_, _, rfl, ⟨_, _, _, _, jX, rfl, pG.out, fun b hb => by have := HSL.out b hb; omega, tX.out, fun q hq => (kU.out q hq).1⟩, HB2.out⟩
 have zH := hide hde
 have Fu := (jI.1 hok).1
 have hm := jr.out
 clear hde hok
 go_wp2_with fail
 refine (aa3 w.heap.size g D M bs id _ hm Fu).mono ?_; rintro e w2 ⟨rfl, hb2⟩
 replace jr := hide (jr.out.new hb2)
 replace aZ := hide (aZ.out.new hb2)
 replace HB := hide (ah HB.out hb2)
 clear hb2 hm
 cases hms : jM (jk D.reg id)
 ·have tK : Hid (iU D id code = (D, M)) := by
   show _ = _
   rw [kT.out, J9 gL.out (.inr (.inl hms)), pF.out]
  clear hms kT pF Fu
  go_wp2_with fail
  obtain ⟨⟨Fg, Fh, Fj, Fp, Fq, jX, hrow, hcn, hfr, hsub, iT⟩, tL, tN, tO, tQ⟩ := jr.out
  obtain ⟨a1, p1, rfl, _, _⟩ := hcn.rd.e.form
  obtain ⟨a2, p2, rfl, _, _⟩ := hcn.rd.i.form
  obtain ⟨a3, p3, rfl, _, _⟩ := hcn.rd.o.form
  obtain ⟨a4, p4, rfl, _, _⟩ := hcn.rd.f.form
  obtain ⟨a5, p5, rfl, _, _⟩ := bW hfr
  have eD := hide hrow; have fH := hide hcn; have iJ := hide hfr
  have HSL : Hid (∀ b ∈ jX, w.heap.size + 2 ≤ b) := fun b hb => iG.out b (by simp [hsub b hb])
  have kU : Hid (∀ q, (Value.slice a5 M.length p5).ownBlock = some q → q ∉ jX ∧ w.heap.size + 2 ≤ q) := fun q hq => ⟨(iT q hq).2, iG.out q (by simp [(iT q hq).1])⟩
  have tT : Hid (w.heap.size + 2 ≤ g) := iG.out g (by simp)
  clear hrow hcn hfr hsub iT tL tN tO tQ jr
  go_upto_region 4 with fail
  have hD : Below w2.heap.size w2 (World.drew w2) := (Below.refl _ _).drew
  replace eD := hide (eD.out.new hD)
  replace aZ := hide (aZ.out.new hD)
  replace fH := hide (fH.out.new hD)
  replace iJ := hide (aX iJ.out hD)
  replace HB := hide (ah HB.out hD)
  clear hD
  refine wp_region_held_drew (S := fun u => aj u g 61 [.int .i64 D.reg.lim, .int .i64 D.reg.top, .slice a1 D.reg.es.length p1, .int .i64 D.inr, .slice a2 D.inT.length p2, .int .i64 D.au, .slice a3 D.outT.length p3, .int .i64 D.get, .int .i64 D.give, .int .i64 D.first, .slice a4 D.flows.length p4, .bool D.away, .bool D.dead, .slice a5 M.length p5]) (by kernel_rfl) eD.out (fun hS => ?_)
  generalize World.drew w2 = W9 at *
  refine wpAnyH_take (i := 0) (v := ?_) rfl (by kernel_rfl) (by kernel_rfl) (by kernel_rfl) (fun _ _ _ h => h) (Or.inl ⟨by rfl, ?_⟩) hS ?_; rotate_left; focus (intro w hw; clear hw; go_simp; try with_reducible rfl)
  refine wpAnyH_take (i := 1) (v := .agg #[.int .i64 D.reg.lim, .int .i64 D.reg.top, .slice a1 D.reg.es.length p1, .int .i64 D.inr, .slice a2 D.inT.length p2, .int .i64 D.au, .slice a3 D.outT.length p3, .int .i64 D.get, .int .i64 D.give, .int .i64 D.first, .slice a4 D.flows.length p4, .bool D.away, .bool D.dead]) rfl (by kernel_rfl) (by kernel_rfl) (by kernel_rfl) (fun _ _ _ h => h) (Or.inl ⟨by kernel_rfl, ?ld⟩) hS ?_
  case ld =>
   intro uu hu
   obtain ⟨z0, z1, z2, z3, z4, z5, z6, z7, z8, z9, jf, jg, z12⟩ := dw hu
   clear hu
   go_simp
  refine wpAnyH_take (i := 2) (v := ?_) rfl (by kernel_rfl) (by kernel_rfl) (by kernel_rfl) (fun _ _ _ h => h) (Or.inl ⟨by rfl, ?_⟩) hS ?_; rotate_left; focus (intro w hw; clear hw; go_simp; try with_reducible rfl)
  refine wpAnyH_take (i := 3) (v := .slice a5 M.length p5) rfl (by kernel_rfl) (by kernel_rfl) (by kernel_rfl) (fun _ _ _ h => h) (Or.inl ⟨by kernel_rfl, ?ld⟩) hS ?_; case ld => (intro uu hu; have z2 := ak 13 hu rfl; have z8 := hu.lt; clear hu; go_simp)
  refine wpAnyH_ready (rs := [4]) (by kernel_rfl) (by simp) ?_
  refine AllReadyH.cons rfl (fun K hK => ?_) AllReadyH.nil
  try simp only [Act.put, aI, aJ, aK, aL, aM, aN]
  rw [if_pos (by kernel_rfl)]
  refine wp_store_row 40 _ _ (by rfl) (w.heap.size + 1) #[.int .i64 D.reg.lim, .int .i64 D.reg.top, .slice a1 D.reg.es.length p1, .int .i64 D.inr, .slice a2 D.inT.length p2, .int .i64 D.au, .slice a3 D.outT.length p3, .int .i64 D.get, .int .i64 D.give, .int .i64 D.first, .slice a4 D.flows.length p4, .bool D.away, .bool D.dead] (by rfl) (by rfl) 40 #[.int .i64 0, .int .i64 0, .slice none 0 0, .int .i64 0, .slice none 0 0, .int .i64 0, .slice none 0 0, .int .i64 0, .int .i64 0, .int .i64 0, .slice none 0 0, .bool false, .bool false] aZ.out (by kernel_rfl) rfl (Array.all_eq_true_iff_forall_mem.2 (by intro u hu; simp at hu; rcases hu with rfl | rfl | rfl | rfl | rfl | rfl | rfl | rfl | rfl | rfl | rfl | rfl | rfl <;> rfl)) ?_
  have cO := hide (dW (cs' := [.int .i64 D.reg.lim, .int .i64 D.reg.top, .slice a1 D.reg.es.length p1, .int .i64 D.inr, .slice a2 D.inT.length p2, .int .i64 D.au, .slice a3 D.outT.length p3, .int .i64 D.get, .int .i64 D.give, .int .i64 D.first, .slice a4 D.flows.length p4, .bool D.away, .bool D.dead]) aZ.out)
  have HB2 := hide (below_setRow HB.out (show w.heap.size ≤ w.heap.size + 1 by omega) #[.int .i64 D.reg.lim, .int .i64 D.reg.top, .slice a1 D.reg.es.length p1, .int .i64 D.inr, .slice a2 D.inT.length p2, .int .i64 D.au, .slice a3 D.outT.length p3, .int .i64 D.get, .int .i64 D.give, .int .i64 D.first, .slice a4 D.flows.length p4, .bool D.away, .bool D.dead])
  have hkx : ∀ q, w.heap.size + 2 ≤ q → (W9.setRow (w.heap.size + 1) #[.int .i64 D.reg.lim, .int .i64 D.reg.top, .slice a1 D.reg.es.length p1, .int .i64 D.inr, .slice a2 D.inT.length p2, .int .i64 D.au, .slice a3 D.outT.length p3, .int .i64 D.get, .int .i64 D.give, .int .i64 D.first, .slice a4 D.flows.length p4, .bool D.away, .bool D.dead]).heap[q]? = W9.heap[q]? := fun q hq => setRow_other _ _ _ _ (by omega)
  have tV := hide (eD.out.kept (hkx g tT.out))
  have pG := hide (fH.out.keep (w' := W9.setRow (w.heap.size + 1) #[.int .i64 D.reg.lim, .int .i64 D.reg.top, .slice a1 D.reg.es.length p1, .int .i64 D.inr, .slice a2 D.inT.length p2, .int .i64 D.au, .slice a3 D.outT.length p3, .int .i64 D.get, .int .i64 D.give, .int .i64 D.first, .slice a4 D.flows.length p4, .bool D.away, .bool D.dead]) (by rw [setRow_size]; exact Nat.le_refl _) (fun b hb => hkx b (HSL.out b hb)))
  have tX := hide (gK iJ.out (w' := W9.setRow (w.heap.size + 1) #[.int .i64 D.reg.lim, .int .i64 D.reg.top, .slice a1 D.reg.es.length p1, .int .i64 D.inr, .slice a2 D.inT.length p2, .int .i64 D.au, .slice a3 D.outT.length p3, .int .i64 D.get, .int .i64 D.give, .int .i64 D.first, .slice a4 D.flows.length p4, .bool D.away, .bool D.dead]) (fun q hq _ => hkx q (kU.out q hq).2))
  refine hK.out _ _ tV.out (fun hS => ?_)
  clear hK K eD aZ HB fH iJ hkx
  try simp only [Act.put, aI, aJ, aK, aL, aM, aN]
  generalize W9.setRow (w.heap.size + 1) #[.int .i64 D.reg.lim, .int .i64 D.reg.top, .slice a1 D.reg.es.length p1, .int .i64 D.inr, .slice a2 D.inT.length p2, .int .i64 D.au, .slice a3 D.outT.length p3, .int .i64 D.get, .int .i64 D.give, .int .i64 D.first, .slice a4 D.flows.length p4, .bool D.away, .bool D.dead] = V2 at *
  refine wpAnyH_take (i := 5) (v := ?_) rfl (by kernel_rfl) (by kernel_rfl) (by kernel_rfl) (fun _ _ _ h => h) (Or.inl ⟨by rfl, ?_⟩) hS ?_; rotate_left; focus (intro w hw; clear hw; go_simp; try with_reducible rfl)
  refine wpAnyH_done (by kernel_rfl) ?_ _
  obtain ⟨z0, z1, z2, z3, z4, z5, z6, z7, z8, z9, jf, jg, z12⟩ := dw cO.out
  have zf := fun j => aj.frozen cO.out j
  go_wp2_with fail
  refine bodyPost_ret (v := .tuple #[.agg #[.int .i64 D.reg.lim, .int .i64 D.reg.top, .slice a1 D.reg.es.length p1, .int .i64 D.inr, .slice a2 D.inT.length p2, .int .i64 D.au, .slice a3 D.outT.length p3, .int .i64 D.get, .int .i64 D.give, .int .i64 D.first, .slice a4 D.flows.length p4, .bool D.away, .bool D.dead], .slice a5 M.length p5]) (by simp [results, Tryz.results7, go_sem, *]) rfl ?_
  rw [tK.out]
  exact ⟨_, _, rfl, ⟨_, _, _, _, jX, rfl, pG.out, fun b hb => by have := HSL.out b hb; omega, tX.out, fun q hq => (kU.out q hq).1⟩, HB2.out⟩
 have Kc := hide hms
 clear hms
 go_wp2_with fail
 refine (iX code 100 999 _).mono ?_; rintro e w3 ⟨rfl, hsame⟩; obtain rfl := hsame.symm; clear hsame
 cases hin : aQ code 100 999
 ·have tK : Hid (iU D id code = (D, M)) := by
   show _ = _
   rw [kT.out, J9 gL.out (.inr (.inr hin)), pF.out]
  clear hin kT pF Fu
  go_wp2_with fail
  obtain ⟨⟨Fg, Fh, Fj, Fp, Fq, jX, hrow, hcn, hfr, hsub, iT⟩, tL, tN, tO, tQ⟩ := jr.out
  obtain ⟨a1, p1, rfl, _, _⟩ := hcn.rd.e.form
  obtain ⟨a2, p2, rfl, _, _⟩ := hcn.rd.i.form
  obtain ⟨a3, p3, rfl, _, _⟩ := hcn.rd.o.form
  obtain ⟨a4, p4, rfl, _, _⟩ := hcn.rd.f.form
  obtain ⟨a5, p5, rfl, _, _⟩ := bW hfr
  have eD := hide hrow; have fH := hide hcn; have iJ := hide hfr
  have HSL : Hid (∀ b ∈ jX, w.heap.size + 2 ≤ b) := fun b hb => iG.out b (by simp [hsub b hb])
  have kU : Hid (∀ q, (Value.slice a5 M.length p5).ownBlock = some q → q ∉ jX ∧ w.heap.size + 2 ≤ q) := fun q hq => ⟨(iT q hq).2, iG.out q (by simp [(iT q hq).1])⟩
  have tT : Hid (w.heap.size + 2 ≤ g) := iG.out g (by simp)
  clear hrow hcn hfr hsub iT tL tN tO tQ jr
  go_upto_region 4 with fail
  have hD : Below w2.heap.size w2 (World.drew w2) := (Below.refl _ _).drew
  replace eD := hide (eD.out.new hD)
  replace aZ := hide (aZ.out.new hD)
  replace fH := hide (fH.out.new hD)
  replace iJ := hide (aX iJ.out hD)
  replace HB := hide (ah HB.out hD)
  clear hD
  refine wp_region_held_drew (S := fun u => aj u g 61 [.int .i64 D.reg.lim, .int .i64 D.reg.top, .slice a1 D.reg.es.length p1, .int .i64 D.inr, .slice a2 D.inT.length p2, .int .i64 D.au, .slice a3 D.outT.length p3, .int .i64 D.get, .int .i64 D.give, .int .i64 D.first, .slice a4 D.flows.length p4, .bool D.away, .bool D.dead, .slice a5 M.length p5]) (by kernel_rfl) eD.out (fun hS => ?_)
  generalize World.drew w2 = W9 at *
  refine wpAnyH_take (i := 0) (v := ?_) rfl (by kernel_rfl) (by kernel_rfl) (by kernel_rfl) (fun _ _ _ h => h) (Or.inl ⟨by rfl, ?_⟩) hS ?_; rotate_left; focus (intro w hw; clear hw; go_simp; try with_reducible rfl)
  refine wpAnyH_take (i := 1) (v := .agg #[.int .i64 D.reg.lim, .int .i64 D.reg.top, .slice a1 D.reg.es.length p1, .int .i64 D.inr, .slice a2 D.inT.length p2, .int .i64 D.au, .slice a3 D.outT.length p3, .int .i64 D.get, .int .i64 D.give, .int .i64 D.first, .slice a4 D.flows.length p4, .bool D.away, .bool D.dead]) rfl (by kernel_rfl) (by kernel_rfl) (by kernel_rfl) (fun _ _ _ h => h) (Or.inl ⟨by kernel_rfl, ?ld⟩) hS ?_
  case ld =>
   intro uu hu
   obtain ⟨z0, z1, z2, z3, z4, z5, z6, z7, z8, z9, jf, jg, z12⟩ := dw hu
   clear hu
   go_simp
  refine wpAnyH_take (i := 2) (v := ?_) rfl (by kernel_rfl) (by kernel_rfl) (by kernel_rfl) (fun _ _ _ h => h) (Or.inl ⟨by rfl, ?_⟩) hS ?_; rotate_left; focus (intro w hw; clear hw; go_simp; try with_reducible rfl)
  refine wpAnyH_take (i := 3) (v := .slice a5 M.length p5) rfl (by kernel_rfl) (by kernel_rfl) (by kernel_rfl) (fun _ _ _ h => h) (Or.inl ⟨by kernel_rfl, ?ld⟩) hS ?_; case ld => (intro uu hu; have z2 := ak 13 hu rfl; have z8 := hu.lt; clear hu; go_simp)
  refine wpAnyH_ready (rs := [4]) (by kernel_rfl) (by simp) ?_
  refine AllReadyH.cons rfl (fun K hK => ?_) AllReadyH.nil
  try simp only [Act.put, aI, aJ, aK, aL, aM, aN]
  rw [if_pos (by kernel_rfl)]
  refine wp_store_row 40 _ _ (by rfl) (w.heap.size + 1) #[.int .i64 D.reg.lim, .int .i64 D.reg.top, .slice a1 D.reg.es.length p1, .int .i64 D.inr, .slice a2 D.inT.length p2, .int .i64 D.au, .slice a3 D.outT.length p3, .int .i64 D.get, .int .i64 D.give, .int .i64 D.first, .slice a4 D.flows.length p4, .bool D.away, .bool D.dead] (by rfl) (by rfl) 40 #[.int .i64 0, .int .i64 0, .slice none 0 0, .int .i64 0, .slice none 0 0, .int .i64 0, .slice none 0 0, .int .i64 0, .int .i64 0, .int .i64 0, .slice none 0 0, .bool false, .bool false] aZ.out (by kernel_rfl) rfl (Array.all_eq_true_iff_forall_mem.2 (by intro u hu; simp at hu; rcases hu with rfl | rfl | rfl | rfl | rfl | rfl | rfl | rfl | rfl | rfl | rfl | rfl | rfl <;> rfl)) ?_
  have cO := hide (dW (cs' := [.int .i64 D.reg.lim, .int .i64 D.reg.top, .slice a1 D.reg.es.length p1, .int .i64 D.inr, .slice a2 D.inT.length p2, .int .i64 D.au, .slice a3 D.outT.length p3, .int .i64 D.get, .int .i64 D.give, .int .i64 D.first, .slice a4 D.flows.length p4, .bool D.away, .bool D.dead]) aZ.out)
  have HB2 := hide (below_setRow HB.out (show w.heap.size ≤ w.heap.size + 1 by omega) #[.int .i64 D.reg.lim, .int .i64 D.reg.top, .slice a1 D.reg.es.length p1, .int .i64 D.inr, .slice a2 D.inT.length p2, .int .i64 D.au, .slice a3 D.outT.length p3, .int .i64 D.get, .int .i64 D.give, .int .i64 D.first, .slice a4 D.flows.length p4, .bool D.away, .bool D.dead])
  have hkx : ∀ q, w.heap.size + 2 ≤ q → (W9.setRow (w.heap.size + 1) #[.int .i64 D.reg.lim, .int .i64 D.reg.top, .slice a1 D.reg.es.length p1, .int .i64 D.inr, .slice a2 D.inT.length p2, .int .i64 D.au, .slice a3 D.outT.length p3, .int .i64 D.get, .int .i64 D.give, .int .i64 D.first, .slice a4 D.flows.length p4, .bool D.away, .bool D.dead]).heap[q]? = W9.heap[q]? := fun q hq => setRow_other _ _ _ _ (by omega)
  have tV := hide (eD.out.kept (hkx g tT.out))
  have pG := hide (fH.out.keep (w' := W9.setRow (w.heap.size + 1) #[.int .i64 D.reg.lim, .int .i64 D.reg.top, .slice a1 D.reg.es.length p1, .int .i64 D.inr, .slice a2 D.inT.length p2, .int .i64 D.au, .slice a3 D.outT.length p3, .int .i64 D.get, .int .i64 D.give, .int .i64 D.first, .slice a4 D.flows.length p4, .bool D.away, .bool D.dead]) (by rw [setRow_size]; exact Nat.le_refl _) (fun b hb => hkx b (HSL.out b hb)))
  have tX := hide (gK iJ.out (w' := W9.setRow (w.heap.size + 1) #[.int .i64 D.reg.lim, .int .i64 D.reg.top, .slice a1 D.reg.es.length p1, .int .i64 D.inr, .slice a2 D.inT.length p2, .int .i64 D.au, .slice a3 D.outT.length p3, .int .i64 D.get, .int .i64 D.give, .int .i64 D.first, .slice a4 D.flows.length p4, .bool D.away, .bool D.dead]) (fun q hq _ => hkx q (kU.out q hq).2))
  refine hK.out _ _ tV.out (fun hS => ?_)
  clear hK K eD aZ HB fH iJ hkx
  try simp only [Act.put, aI, aJ, aK, aL, aM, aN]
  generalize W9.setRow (w.heap.size + 1) #[.int .i64 D.reg.lim, .int .i64 D.reg.top, .slice a1 D.reg.es.length p1, .int .i64 D.inr, .slice a2 D.inT.length p2, .int .i64 D.au, .slice a3 D.outT.length p3, .int .i64 D.get, .int .i64 D.give, .int .i64 D.first, .slice a4 D.flows.length p4, .bool D.away, .bool D.dead] = V2 at *
  refine wpAnyH_take (i := 5) (v := ?_) rfl (by kernel_rfl) (by kernel_rfl) (by kernel_rfl) (fun _ _ _ h => h) (Or.inl ⟨by rfl, ?_⟩) hS ?_; rotate_left; focus (intro w hw; clear hw; go_simp; try with_reducible rfl)
  refine wpAnyH_done (by kernel_rfl) ?_ _
  obtain ⟨z0, z1, z2, z3, z4, z5, z6, z7, z8, z9, jf, jg, z12⟩ := dw cO.out
  have zf := fun j => aj.frozen cO.out j
  go_wp2_with fail
  refine bodyPost_ret (v := .tuple #[.agg #[.int .i64 D.reg.lim, .int .i64 D.reg.top, .slice a1 D.reg.es.length p1, .int .i64 D.inr, .slice a2 D.inT.length p2, .int .i64 D.au, .slice a3 D.outT.length p3, .int .i64 D.get, .int .i64 D.give, .int .i64 D.first, .slice a4 D.flows.length p4, .bool D.away, .bool D.dead], .slice a5 M.length p5]) (by simp [results, Tryz.results7, go_sem, *]) rfl ?_
  rw [tK.out]
  exact ⟨_, _, rfl, ⟨_, _, _, _, jX, rfl, pG.out, fun b hb => by have := HSL.out b hb; omega, tX.out, fun q hq => (kU.out q hq).1⟩, HB2.out⟩
 obtain ⟨k, ha⟩ := aa5 Kc.out
 have hk : k < D.reg.es.length := by obtain ⟨q, _, _⟩ := mH ha; exact q
 have pE : k < D.flows.length := by rw [HLEN.out.1]; exact hk
 have hcc := jm hin
 obtain ⟨c, hc⟩ : ∃ c : Nat, code = c := ⟨code.toNat, by omega⟩
 subst hc
 have hr : jG D id c = if (c : Int) = 200 then ({ D with outT := (bA D.au D.outT [bU c]).2 }, [⟨2, 0, id, (bA D.au D.outT [bU c]).1⟩]) else ({ oD { D with outT := (bA D.au D.outT [bU c]).2 } id 3 with flows := D.flows.set k (rJ D.flows[k]) }, [⟨2, 1, id, (bA D.au D.outT [bU c]).1⟩]) := by
  rw [zP ha pE hk]
  unfold rP
  rw [if_neg]
  rintro (e | e | e)
  ·rw [zH.out] at e; cases e
  ·rw [← QM ha hk, Kc.out] at e; cases e
  ·rw [hin] at e; cases e
 have HR := hide hr
 have hm := jr.out
 have HA := hide ha
 have QO := hide pE
 have Ke := hide hcc
 clear hr ha hk hin hcc Fu
 go_wp2_with fail
 refine (SH w.heap.size g D M bs id c k _ hm gL.out HA.out QO.out (by have := Ke.out; omega) (by have := Ke.out; omega) (by rw [pF.out]; simp) (Cb.out.new HB.out)).mono ?_; rintro e w4 ⟨rfl, D5, M5, bx, qN, heq⟩
 have Kg : Hid (iU D id c = (D5, M5)) := by show _ = _; rw [kT.out, HR.out, heq]
 clear heq hm HR pE HA QO Ke kT Kc zH gL HLEN
 have hzn : w.heap.size + 1 ∉ g :: bs := fun hx => by have := iG.out _ hx; omega
 have QS := hide (qN.box aZ.out hzn)
 have BF : Hid (∀ b ∈ g :: bx, w.heap.size + 2 ≤ b) := fun b hb => by
  rcases List.mem_cons.1 hb with e | e
  ·rw [e]; exact iG.out g (by simp)
  ·rcases qN.n b e with e | e
   ·exact iG.out b (by simp [e])
   ·have := aZ.out.lt; omega
 have HB3 := hide (aa9 HB.out qN.t (fun x hx => by have := iG.out x hx; omega) HB.out.size)
 have hlm := qN.m
 rw [pF.out, List.nil_append] at hlm
 have Kh := hide hlm
 clear qN hlm jr aZ HB iG hzn pF
 clear M
 obtain ⟨M, hM⟩ : ∃ M : List Fr, M5 = M := ⟨_, rfl⟩
 rw [hM] at Kh Kg
 have jr := hide Kh.out
 have aZ := hide QS.out
 have HB := hide HB3.out
 have iG := hide BF.out
 have tK := hide Kg.out
 clear Kh QS HB3 BF hM Kg
 obtain ⟨⟨Fg, Fh, Fj, Fp, Fq, jX, hrow, hcn, hfr, hsub, iT⟩, tL, tN, tO, tQ⟩ := jr.out
 obtain ⟨a1, p1, rfl, _, _⟩ := hcn.rd.e.form
 obtain ⟨a2, p2, rfl, _, _⟩ := hcn.rd.i.form
 obtain ⟨a3, p3, rfl, _, _⟩ := hcn.rd.o.form
 obtain ⟨a4, p4, rfl, _, _⟩ := hcn.rd.f.form
 obtain ⟨a5, p5, rfl, _, _⟩ := bW hfr
 have eD := hide hrow; have fH := hide hcn; have iJ := hide hfr
 have HSL : Hid (∀ b ∈ jX, w.heap.size + 2 ≤ b) := fun b hb => iG.out b (by simp [hsub b hb])
 have kU : Hid (∀ q, (Value.slice a5 M.length p5).ownBlock = some q → q ∉ jX ∧ w.heap.size + 2 ≤ q) := fun q hq => ⟨(iT q hq).2, iG.out q (by simp [(iT q hq).1])⟩
 have tT : Hid (w.heap.size + 2 ≤ g) := iG.out g (by simp)
 clear hrow hcn hfr hsub iT tL tN tO tQ jr
 go_upto_region 4 with fail
 have hD : Below w4.heap.size w4 (World.drew w4) := (Below.refl _ _).drew
 replace eD := hide (eD.out.new hD)
 replace aZ := hide (aZ.out.new hD)
 replace fH := hide (fH.out.new hD)
 replace iJ := hide (aX iJ.out hD)
 replace HB := hide (ah HB.out hD)
 clear hD
 refine wp_region_held_drew (S := fun u => aj u g 61 [.int .i64 D5.reg.lim, .int .i64 D5.reg.top, .slice a1 D5.reg.es.length p1, .int .i64 D5.inr, .slice a2 D5.inT.length p2, .int .i64 D5.au, .slice a3 D5.outT.length p3, .int .i64 D5.get, .int .i64 D5.give, .int .i64 D5.first, .slice a4 D5.flows.length p4, .bool D5.away, .bool D5.dead, .slice a5 M.length p5]) (by kernel_rfl) eD.out (fun hS => ?_)
 generalize World.drew w4 = W9 at *
 refine wpAnyH_take (i := 0) (v := ?_) rfl (by kernel_rfl) (by kernel_rfl) (by kernel_rfl) (fun _ _ _ h => h) (Or.inl ⟨by rfl, ?_⟩) hS ?_; rotate_left; focus (intro w hw; clear hw; go_simp; try with_reducible rfl)
 refine wpAnyH_take (i := 1) (v := .agg #[.int .i64 D5.reg.lim, .int .i64 D5.reg.top, .slice a1 D5.reg.es.length p1, .int .i64 D5.inr, .slice a2 D5.inT.length p2, .int .i64 D5.au, .slice a3 D5.outT.length p3, .int .i64 D5.get, .int .i64 D5.give, .int .i64 D5.first, .slice a4 D5.flows.length p4, .bool D5.away, .bool D5.dead]) rfl (by kernel_rfl) (by kernel_rfl) (by kernel_rfl) (fun _ _ _ h => h) (Or.inl ⟨by kernel_rfl, ?ld⟩) hS ?_
 case ld =>
  intro uu hu
  obtain ⟨z0, z1, z2, z3, z4, z5, z6, z7, z8, z9, jf, jg, z12⟩ := dw hu
  clear hu
  go_simp
 refine wpAnyH_take (i := 2) (v := ?_) rfl (by kernel_rfl) (by kernel_rfl) (by kernel_rfl) (fun _ _ _ h => h) (Or.inl ⟨by rfl, ?_⟩) hS ?_; rotate_left; focus (intro w hw; clear hw; go_simp; try with_reducible rfl)
 refine wpAnyH_take (i := 3) (v := .slice a5 M.length p5) rfl (by kernel_rfl) (by kernel_rfl) (by kernel_rfl) (fun _ _ _ h => h) (Or.inl ⟨by kernel_rfl, ?ld⟩) hS ?_; case ld => (intro uu hu; have z2 := ak 13 hu rfl; have z8 := hu.lt; clear hu; go_simp)
 refine wpAnyH_ready (rs := [4]) (by kernel_rfl) (by simp) ?_
 refine AllReadyH.cons rfl (fun K hK => ?_) AllReadyH.nil
 try simp only [Act.put, aI, aJ, aK, aL, aM, aN]
 rw [if_pos (by kernel_rfl)]
 refine wp_store_row 40 _ _ (by rfl) (w.heap.size + 1) #[.int .i64 D5.reg.lim, .int .i64 D5.reg.top, .slice a1 D5.reg.es.length p1, .int .i64 D5.inr, .slice a2 D5.inT.length p2, .int .i64 D5.au, .slice a3 D5.outT.length p3, .int .i64 D5.get, .int .i64 D5.give, .int .i64 D5.first, .slice a4 D5.flows.length p4, .bool D5.away, .bool D5.dead] (by rfl) (by rfl) 40 #[.int .i64 0, .int .i64 0, .slice none 0 0, .int .i64 0, .slice none 0 0, .int .i64 0, .slice none 0 0, .int .i64 0, .int .i64 0, .int .i64 0, .slice none 0 0, .bool false, .bool false] aZ.out (by kernel_rfl) rfl (Array.all_eq_true_iff_forall_mem.2 (by intro u hu; simp at hu; rcases hu with rfl | rfl | rfl | rfl | rfl | rfl | rfl | rfl | rfl | rfl | rfl | rfl | rfl <;> rfl)) ?_
 have cO := hide (dW (cs' := [.int .i64 D5.reg.lim, .int .i64 D5.reg.top, .slice a1 D5.reg.es.length p1, .int .i64 D5.inr, .slice a2 D5.inT.length p2, .int .i64 D5.au, .slice a3 D5.outT.length p3, .int .i64 D5.get, .int .i64 D5.give, .int .i64 D5.first, .slice a4 D5.flows.length p4, .bool D5.away, .bool D5.dead]) aZ.out)
 have HB2 := hide (below_setRow HB.out (show w.heap.size ≤ w.heap.size + 1 by omega) #[.int .i64 D5.reg.lim, .int .i64 D5.reg.top, .slice a1 D5.reg.es.length p1, .int .i64 D5.inr, .slice a2 D5.inT.length p2, .int .i64 D5.au, .slice a3 D5.outT.length p3, .int .i64 D5.get, .int .i64 D5.give, .int .i64 D5.first, .slice a4 D5.flows.length p4, .bool D5.away, .bool D5.dead])
 have hkx : ∀ q, w.heap.size + 2 ≤ q → (W9.setRow (w.heap.size + 1) #[.int .i64 D5.reg.lim, .int .i64 D5.reg.top, .slice a1 D5.reg.es.length p1, .int .i64 D5.inr, .slice a2 D5.inT.length p2, .int .i64 D5.au, .slice a3 D5.outT.length p3, .int .i64 D5.get, .int .i64 D5.give, .int .i64 D5.first, .slice a4 D5.flows.length p4, .bool D5.away, .bool D5.dead]).heap[q]? = W9.heap[q]? := fun q hq => setRow_other _ _ _ _ (by omega)
 have tV := hide (eD.out.kept (hkx g tT.out))
 have pG := hide (fH.out.keep (w' := W9.setRow (w.heap.size + 1) #[.int .i64 D5.reg.lim, .int .i64 D5.reg.top, .slice a1 D5.reg.es.length p1, .int .i64 D5.inr, .slice a2 D5.inT.length p2, .int .i64 D5.au, .slice a3 D5.outT.length p3, .int .i64 D5.get, .int .i64 D5.give, .int .i64 D5.first, .slice a4 D5.flows.length p4, .bool D5.away, .bool D5.dead]) (by rw [setRow_size]; exact Nat.le_refl _) (fun b hb => hkx b (HSL.out b hb)))
 have tX := hide (gK iJ.out (w' := W9.setRow (w.heap.size + 1) #[.int .i64 D5.reg.lim, .int .i64 D5.reg.top, .slice a1 D5.reg.es.length p1, .int .i64 D5.inr, .slice a2 D5.inT.length p2, .int .i64 D5.au, .slice a3 D5.outT.length p3, .int .i64 D5.get, .int .i64 D5.give, .int .i64 D5.first, .slice a4 D5.flows.length p4, .bool D5.away, .bool D5.dead]) (fun q hq _ => hkx q (kU.out q hq).2))
 refine hK.out _ _ tV.out (fun hS => ?_)
 clear hK K eD aZ HB fH iJ hkx
 try simp only [Act.put, aI, aJ, aK, aL, aM, aN]
 generalize W9.setRow (w.heap.size + 1) #[.int .i64 D5.reg.lim, .int .i64 D5.reg.top, .slice a1 D5.reg.es.length p1, .int .i64 D5.inr, .slice a2 D5.inT.length p2, .int .i64 D5.au, .slice a3 D5.outT.length p3, .int .i64 D5.get, .int .i64 D5.give, .int .i64 D5.first, .slice a4 D5.flows.length p4, .bool D5.away, .bool D5.dead] = V2 at *
 refine wpAnyH_take (i := 5) (v := ?_) rfl (by kernel_rfl) (by kernel_rfl) (by kernel_rfl) (fun _ _ _ h => h) (Or.inl ⟨by rfl, ?_⟩) hS ?_; rotate_left; focus (intro w hw; clear hw; go_simp; try with_reducible rfl)
 refine wpAnyH_done (by kernel_rfl) ?_ _
 obtain ⟨z0, z1, z2, z3, z4, z5, z6, z7, z8, z9, jf, jg, z12⟩ := dw cO.out
 have zf := fun j => aj.frozen cO.out j
 go_wp2_with fail
 refine bodyPost_ret (v := .tuple #[.agg #[.int .i64 D5.reg.lim, .int .i64 D5.reg.top, .slice a1 D5.reg.es.length p1, .int .i64 D5.inr, .slice a2 D5.inT.length p2, .int .i64 D5.au, .slice a3 D5.outT.length p3, .int .i64 D5.get, .int .i64 D5.give, .int .i64 D5.first, .slice a4 D5.flows.length p4, .bool D5.away, .bool D5.dead], .slice a5 M.length p5]) (by simp [results, Tryz.results7, go_sem, *]) rfl ?_
 rw [tK.out]
 exact ⟨_, _, rfl, ⟨_, _, _, _, jX, rfl, pG.out, fun b hb => by have := HSL.out b hb; omega, tX.out, fun q hq => (kU.out q hq).1⟩, HB2.out⟩
end Go.Proofs.YtlpbnkideaojeaaGreatDoor
