/- FnExactGot walked: the law returns true at every argument and leaves it as it was: impl.Got answers as its model, and its answer owns its memory. No condition. -/
import Derived.Test.YtllaeakeaabiaaaGreatQG38
import Derived.Test.YtllaeakeaabiaaaGreatQG39
import Derived.Test.YtllaeakeaabiaaaGreatQG37
import Derived.Test.YtllaeakeaabiaaaGreatQConnImpl
import Derived.Test.YtllaeakeaabiaaaGreatQG26
import Derived.Test.YtllaeakeaabiaaaGreatQG5
import Derived.WalkKit
import Derived.ProofKit
import Derived.OpenShut
import Derived.ShutString
import Derived.ChangeOld
import Derived.Below
import Derived.Lib.SmallJoins
import Derived.Deep.Cut
import Derived.Deep.DeepCutAuto
import Derived.Deep.RegionHeld3
namespace Go.Proofs.YtllaeakeaabiaaaGreat
open Go.RowKit
set_option maxRecDepth 100000
namespace exactGot
open Go.ChangeShapes Go.WideShapes Go.ChangeAt Go.RowKit Go.Joins
open Go.ChangeMaps (open_string shut_string)
set_option linter.unusedVariables false
set_option linter.unusedSimpArgs false

set_option maxHeartbeats 16000000 in
theorem walk (d : CnD) (ve vi vo vf : Value) (f : Fr) (w : World) (hv : CnRd w d ve vi vo vf) (hfb : f.b.size ≤ maxLen) :
    Calls Tryz.prog 3 #[cnv d ve vi vo vf, frv f] w fun x w' => x = .returned (.bool true) ∧ Below w.heap.size w w' := by
  dsimp only [cnv] at *
  have HV := hide hv
  clear hv
  obtain ⟨ea, ep, he0, _, _⟩ := HV.out.e.form
  subst he0
  obtain ⟨ia, ip, hi0, _, _⟩ := HV.out.i.form
  subst hi0
  obtain ⟨oa, op, ho0, _, _⟩ := HV.out.o.form
  subst ho0
  obtain ⟨fa, fp, hf0, _, _⟩ := HV.out.f.form
  subst hf0
  obtain ⟨⟨D, L⟩, hans⟩ : ∃ y, gotD d f = y := ⟨_, rfl⟩
  have Hspec : Hid (∀ (ve vi vo vf : Value) (u : World), CnRd u d ve vi vo vf → Calls Tryz.prog 7 #[cnv d ve vi vo vf, frv f] u fun x w' => ∃ v vfr, x = .returned (.tuple #[v, vfr]) ∧ FaceF u.heap.size (D, L) v vfr w' ∧ Below u.heap.size u w') := fun ve vi vo vf u hu => by have h := specGot d ve vi vo vf f u hu hfb; rw [hans] at h; exact h
  have Himpl : Hid (∀ (ve vi vo vf : Value) (u : World), CnRd u d ve vi vo vf → Calls Tryz.prog 10 #[cnv d ve vi vo vf, frv f] u fun x w' => ∃ v vfr, x = .returned (.tuple #[v, vfr]) ∧ FaceF u.heap.size (D, L) v vfr w' ∧ Below u.heap.size u w') := fun ve vi vo vf u hu => by have h := implGot d ve vi vo vf f u hu hfb; rw [hans] at h; exact h
  have hcn : 1 + cntConn D ≤ 1000000 := by have h := cnt_got d f; rw [hans] at h; dsimp only at h; omega
  have hfw : L.length ≤ 125000 := by have h := got_few d f; rw [hans] at h; dsimp only at h; omega
  clear hans
  obtain ⟨K1, hK1⟩ : ∃ K, 1 + cntConn D = K := ⟨_, rfl⟩
  obtain ⟨K2, hK2⟩ : ∃ K, K1 + L.length * 4 = K := ⟨_, rfl⟩
  have HK1 := hide hK1
  have HK2 := hide hK2
  have hk1 : K1 ≤ 1000000 := by omega
  have hk2 : K1 + L.length * 4 ≤ 1000000000 := by omega
  clear hcn hK1 hfw hK2
  obtain ⟨W, hW⟩ : ∃ W, w.alloc (.cells #[.int .i64 d.reg.lim, .int .i64 d.reg.top, .slice ea d.reg.es.length ep, .int .i64 d.inr, .slice ia d.inT.length ip, .int .i64 d.outr, .slice oa d.outT.length op, .int .i64 d.get, .int .i64 d.give, .int .i64 d.first, .slice fa d.flows.length fp, .bool d.away, .bool d.dead] 30) = W := ⟨_, rfl⟩
  have RX0 : RowIs W w.heap.size 30 [.int .i64 d.reg.lim, .int .i64 d.reg.top, .slice ea d.reg.es.length ep, .int .i64 d.inr, .slice ia d.inT.length ip, .int .i64 d.outr, .slice oa d.outT.length op, .int .i64 d.get, .int .i64 d.give, .int .i64 d.first, .slice fa d.flows.length fp, .bool d.away, .bool d.dead] := by rw [← hW]; exact rowIs_new w 30 [.int .i64 d.reg.lim, .int .i64 d.reg.top, .slice ea d.reg.es.length ep, .int .i64 d.inr, .slice ia d.inT.length ip, .int .i64 d.outr, .slice oa d.outT.length op, .int .i64 d.get, .int .i64 d.give, .int .i64 d.first, .slice fa d.flows.length fp, .bool d.away, .bool d.dead]
  have HB0 : Below w.heap.size w W := by rw [← hW]; exact (Below.refl _ _).alloc (Nat.le_refl _) _
  have hsW : W.heap.size = w.heap.size + 1 := by rw [← hW]; simp
  obtain ⟨V, hV⟩ : ∃ V, W.alloc (.cells #[.int .i64 f.k, .int .i64 f.fl, .int .i64 f.st, .string f.b] 32) = V := ⟨_, rfl⟩
  have hbF : Below W.heap.size W V := by rw [← hV]; exact (Below.refl _ _).alloc (Nat.le_refl _) _
  have RF0 : RowIs V (w.heap.size + 1) 32 [.int .i64 f.k, .int .i64 f.fl, .int .i64 f.st, .string f.b] := by rw [← hV, ← hsW]; exact rowIs_new W 32 [.int .i64 f.k, .int .i64 f.fl, .int .i64 f.st, .string f.b]
  have RX := hide (RX0.new hbF)
  have RF := hide RF0
  have HB := hide (bchain HB0 hbF)
  have HSW := hide hsW
  clear RX0 HB0 RF0 hbF hsW
  have hsn := szConn_nn d
  obtain ⟨left, hleft⟩ : ∃ left, (1048576 : Int) - szConn d = left := ⟨_, rfl⟩
  have hcall := fun w h => szConn1 d (.slice ea d.reg.es.length ep) (.slice ia d.inT.length ip) (.slice oa d.outT.length op) (.slice fa d.flows.length fp) 1048576 w h (by omega) (by omega)
  rw [hleft] at hcall
  go_enter Tryz.func3, Tryz.ntmps3
  go_wp2_with (refine wpList_load_row (by rfl) 30 _ (by rfl) w.heap.size (by rfl) [.int .i64 d.reg.lim, .int .i64 d.reg.top, .slice ea d.reg.es.length ep, .int .i64 d.inr, .slice ia d.inT.length ip, .int .i64 d.outr, .slice oa d.outT.length op, .int .i64 d.get, .int .i64 d.give, .int .i64 d.first, .slice fa d.flows.length fp, .bool d.away, .bool d.dead] _ 30 RX.out Tryz.underlying30 rfl (by kernel_rfl) ?_)
  rw [HSW.out]
  clear hW hV HSW W
  refine (show Calls _ _ #[cnv d _ _ _ _, _] _ _ from hcall _ (HV.out.new HB.out)).mono ?_; clear hcall
  rintro x w1 ⟨rfl | ⟨rfl, hp⟩, hb⟩
  · go_wp2_with fail
    go_ret
    exact ⟨rfl, bchain HB.out hb⟩
  have hs : szConn d ≤ 1048576 := by unfold szConn; unfold szConn at hleft; omega
  have hl0 : ¬ left < 0 := by omega
  have hl1 : left ≤ 1048576 := by unfold szConn at hleft; omega
  have HS9 := hide hs
  clear hleft hsn hs
  replace RX := hide (RX.out.new hb)
  replace HB := hide (bchain HB.out hb)
  replace RF := hide (RF.out.new hb)
  clear hb
  go_wp2_with (refine wpList_load_row (by rfl) 32 _ (by rfl) (w.heap.size + 1) (by rfl) [.int .i64 f.k, .int .i64 f.fl, .int .i64 f.st, .string f.b] _ 32 RF.out Tryz.underlying32 rfl (by kernel_rfl) ?_)
  refine (szFrame1 f.k f.fl f.st f.b left _ hfb (by omega) hl1).mono ?_; rintro x w2 ⟨rfl, hb⟩
  by_cases hlf : left - f.b.size < 0
  · rw [if_pos hlf]
    go_wp2_with fail
    go_ret
    exact ⟨rfl, bchain HB.out hb⟩
  rw [if_neg hlf]
  obtain ⟨left2, hl2⟩ : ∃ z, left - f.b.size = z := ⟨_, rfl⟩
  rw [hl2] at hlf ⊢
  clear hl2
  replace RX := hide (RX.out.new hb)
  replace HB := hide (bchain HB.out hb)
  replace RF := hide (RF.out.new hb)
  clear hb
  go_upto_region 8 with fail
  try simp only [Act.put, List.getElem_toArray, List.getElem_cons_succ, List.getElem_cons_zero, List.setIfInBounds_toArray, List.set_cons_zero, List.set_cons_succ]
  go_cut [6, 7] (fun p v wc => ∃ gx eaS epS iaS ipS oaS opS faS fpS fraS frpS bsS, p = .pointer (some ⟨gx, 0, none⟩) ∧ v = .slice fraS L.length frpS ∧ Hid (RowIs wc gx 43 [.int .i64 D.reg.lim, .int .i64 D.reg.top, .slice eaS D.reg.es.length epS, .int .i64 D.inr, .slice iaS D.inT.length ipS, .int .i64 D.outr, .slice oaS D.outT.length opS, .int .i64 D.get, .int .i64 D.give, .int .i64 D.first, .slice faS D.flows.length fpS, .bool D.away, .bool D.dead]) ∧ Hid (CnOw wc bsS D (.slice eaS D.reg.es.length epS) (.slice iaS D.inT.length ipS) (.slice oaS D.outT.length opS) (.slice faS D.flows.length fpS)) ∧ Hid (∀ b ∈ bsS, w2.heap.size ≤ b) ∧ Hid (wc.ownsRow w2.heap.size 48 4 (.slice fraS L.length frpS) L.length (fr L)) ∧ Hid (∀ q, (Value.slice fraS L.length frpS).ownBlock = some q → q ∉ bsS) ∧ Hid (gx ∉ bsS ∧ ∀ q, (Value.slice fraS L.length frpS).ownBlock = some q → q ≠ gx) ∧ Hid (w2.heap.size ≤ gx) ∧ Hid (Below w2.heap.size w2 wc))
  case first =>
    have HBQ := HB
    go_wp2_with fail
    refine wp_region_held_drew (S := (fun u => Below w2.heap.size w2 u)) (by kernel_rfl) ((Below.refl _ _).drew) (fun hS => ?_)
    generalize World.drew w2 = u0 at hS ⊢
    refine wpAnyH_take (i := 0) (v := .agg #[.int .i64 d.reg.lim, .int .i64 d.reg.top, .slice ea d.reg.es.length ep, .int .i64 d.inr, .slice ia d.inT.length ip, .int .i64 d.outr, .slice oa d.outT.length op, .int .i64 d.get, .int .i64 d.give, .int .i64 d.first, .slice fa d.flows.length fp, .bool d.away, .bool d.dead]) rfl (by kernel_rfl) (by kernel_rfl) (by kernel_rfl) (fun _ _ _ h => h) (Or.inl ⟨by kernel_rfl, ?ld⟩) hS ?_; case ld => (intro uu hu; have l0 := (RX.out.new hu).cell (j := 0) rfl; have l1 := (RX.out.new hu).cell (j := 1) rfl; have l2 := (RX.out.new hu).cell (j := 2) rfl; have l3 := (RX.out.new hu).cell (j := 3) rfl; have l4 := (RX.out.new hu).cell (j := 4) rfl; have l5 := (RX.out.new hu).cell (j := 5) rfl; have l6 := (RX.out.new hu).cell (j := 6) rfl; have l7 := (RX.out.new hu).cell (j := 7) rfl; have l8 := (RX.out.new hu).cell (j := 8) rfl; have l9 := (RX.out.new hu).cell (j := 9) rfl; have l10 := (RX.out.new hu).cell (j := 10) rfl; have l11 := (RX.out.new hu).cell (j := 11) rfl; have l12 := (RX.out.new hu).cell (j := 12) rfl; have ll := (RX.out.new hu).lt; clear hu; go_simp)
    try simp only [Act.put, List.getElem_toArray, List.getElem_cons_succ, List.getElem_cons_zero, List.setIfInBounds_toArray, List.set_cons_zero, List.set_cons_succ]
    refine wpAnyH_take (i := 2) (v := .agg #[.int .i64 f.k, .int .i64 f.fl, .int .i64 f.st, .string f.b]) rfl (by kernel_rfl) (by kernel_rfl) (by kernel_rfl) (fun _ _ _ h => h) (Or.inl ⟨by kernel_rfl, ?ld⟩) hS ?_; case ld => (intro uu hu; have l0 := (RF.out.new hu).cell (j := 0) rfl; have l1 := (RF.out.new hu).cell (j := 1) rfl; have l2 := (RF.out.new hu).cell (j := 2) rfl; have l3 := (RF.out.new hu).cell (j := 3) rfl; have ll := (RF.out.new hu).lt; clear hu; go_simp)
    try simp only [Act.put, List.getElem_toArray, List.getElem_cons_succ, List.getElem_cons_zero, List.setIfInBounds_toArray, List.set_cons_zero, List.set_cons_succ]
    refine wpAnyH_ready (rs := [1, 8]) (by kernel_rfl) (by simp) ?_
    refine (AllReadyH.cons rfl (fun K hK => ?_) (AllReadyH.cons rfl (fun K hK => ?_) AllReadyH.nil))
    · skip
      rw [if_pos (by kernel_rfl)]
      go_simp
      refine (show Calls _ _ #[cnv d _ _ _ _] _ _ from toConn1 d _ _ _ _ _ (HV.out.new (bchain HBQ.out hS)) HS9.out).mono ?_
      rintro x u1 ⟨ue, ui, uo, uf, bsSc, rfl, ho, hlo, hbu1⟩
      have OC := hide ho
      clear ho hlo
      obtain ⟨eaSc, epSc, heSc, _, _⟩ := OC.out.rd.e.form
      subst heSc
      obtain ⟨iaSc, ipSc, hiSc, _, _⟩ := OC.out.rd.i.form
      subst hiSc
      obtain ⟨oaSc, opSc, hoSc, _, _⟩ := OC.out.rd.o.form
      subst hoSc
      obtain ⟨faSc, fpSc, hfSc, _, _⟩ := OC.out.rd.f.form
      subst hfSc
      dsimp only [cnv]
      refine hK.out _ _ (bchain hS hbu1) (fun hS => ?_)
      clear hK K hbu1
      try simp only [Act.put, List.getElem_toArray, List.getElem_cons_succ, List.getElem_cons_zero, List.setIfInBounds_toArray, List.set_cons_zero, List.set_cons_succ]
      refine wpAnyH_ready (rs := [3, 8]) (by kernel_rfl) (by simp) ?_
      refine (AllReadyH.cons rfl (fun K hK => ?_) (AllReadyH.cons rfl (fun K hK => ?_) AllReadyH.nil))
      · skip
        rw [if_pos (by kernel_rfl)]
        go_simp
        refine (toFrame1 f.k f.fl f.st f.b _).mono ?_; rintro x u2 ⟨rfl, hbu2⟩
        replace OC := hide (OC.out.new hbu2)
        refine hK.out _ _ (bchain hS hbu2) (fun hS => ?_)
        clear hK K hbu2
        try simp only [Act.put, List.getElem_toArray, List.getElem_cons_succ, List.getElem_cons_zero, List.setIfInBounds_toArray, List.set_cons_zero, List.set_cons_succ]
        refine wpAnyH_ready (rs := [4, 8]) (by kernel_rfl) (by simp) ?_
        refine (AllReadyH.cons rfl (fun K hK => ?_) (AllReadyH.cons rfl (fun K hK => ?_) AllReadyH.nil))
        · skip
          rw [if_pos (by kernel_rfl)]
          go_simp
          refine (show Calls _ _ #[cnv d _ _ _ _, frv f] _ _ from Hspec.out _ _ _ _ _ OC.out.rd).mono ?_
          rintro x u3 ⟨v, vfr, rfl, ⟨ue, ui, uo, uf, bsS, hveq, ho, hlo, hfo, hfa⟩, hbu3⟩
          subst hveq
          obtain ⟨fraS, frpS, hfe, _, _⟩ := owns_form hfo
          subst hfe
          have hsz9 := hS.size
          have OS := hide ho
          have LOS : Hid (∀ b ∈ bsS, w2.heap.size ≤ b) := fun b hb => Nat.le_trans hsz9 (hlo b hb)
          have FS := hide (owns_base hfo (fun q hq => Nat.le_trans hsz9 (hfo.lt q hq).1))
          have FAS := hide hfa
          clear ho hlo hfo hfa hsz9
          clear OC
          obtain ⟨eaS, epS, heS, _, _⟩ := OS.out.rd.e.form
          subst heS
          obtain ⟨iaS, ipS, hiS, _, _⟩ := OS.out.rd.i.form
          subst hiS
          obtain ⟨oaS, opS, hoS, _, _⟩ := OS.out.rd.o.form
          subst hoS
          obtain ⟨faS, fpS, hfS, _, _⟩ := OS.out.rd.f.form
          subst hfS
          dsimp only [cnv]
          refine hK.out _ _ (bchain hS hbu3) (fun hS => ?_)
          clear hK K hbu3
          try simp only [Act.put, List.getElem_toArray, List.getElem_cons_succ, List.getElem_cons_zero, List.setIfInBounds_toArray, List.set_cons_zero, List.set_cons_succ]
          refine wpAnyH_take (i := 5) (v := ?_) rfl (by kernel_rfl) (by kernel_rfl) (by kernel_rfl) (fun _ _ _ h => h) (Or.inl ⟨by kernel_rfl, ?_⟩) hS ?_; rotate_left; focus (intro uu hu; clear hu; go_simp; try with_reducible rfl)
          try simp only [Act.put, List.getElem_toArray, List.getElem_cons_succ, List.getElem_cons_zero, List.setIfInBounds_toArray, List.set_cons_zero, List.set_cons_succ]
          refine wpAnyH_take (i := 6) (v := ?_) rfl (by kernel_rfl) (by kernel_rfl) (by kernel_rfl) (fun _ _ _ h => h) (Or.inl ⟨by kernel_rfl, ?_⟩) hS ?_; rotate_left; focus (intro uu hu; clear hu; go_simp; try with_reducible rfl)
          try simp only [Act.put, List.getElem_toArray, List.getElem_cons_succ, List.getElem_cons_zero, List.setIfInBounds_toArray, List.set_cons_zero, List.set_cons_succ]
          refine wpAnyH_take (i := 7) (v := ?_) rfl (by kernel_rfl) (by kernel_rfl) (by kernel_rfl) (fun _ _ _ h => h) (Or.inl ⟨by kernel_rfl, ?_⟩) hS ?_; rotate_left; focus (intro uu hu; clear hu; go_simp; try with_reducible rfl)
          try simp only [Act.put, List.getElem_toArray, List.getElem_cons_succ, List.getElem_cons_zero, List.setIfInBounds_toArray, List.set_cons_zero, List.set_cons_succ]
          refine wpAnyH_ready (rs := [8]) (by kernel_rfl) (by simp) ?_
          refine (AllReadyH.cons rfl (fun K hK => ?_) AllReadyH.nil)
          rw [if_pos (by kernel_rfl)]
          go_simp
          obtain ⟨u4, hu4⟩ : ∃ u, u3.alloc (.cells #[.int .i64 0, .int .i64 0, .slice none 0 0, .int .i64 0, .slice none 0 0, .int .i64 0, .slice none 0 0, .int .i64 0, .int .i64 0, .int .i64 0, .slice none 0 0, .bool false, .bool false] 43) = u := ⟨_, rfl⟩
          have hbu4 : Below u3.heap.size u3 u4 := by rw [← hu4]; exact (Below.refl _ _).alloc (Nat.le_refl _) _
          obtain ⟨gx, hgx⟩ : ∃ q, q = u3.heap.size := ⟨_, rfl⟩
          have HBX : Hid (RowIs u4 gx 43 [.int .i64 0, .int .i64 0, .slice none 0 0, .int .i64 0, .slice none 0 0, .int .i64 0, .slice none 0 0, .int .i64 0, .int .i64 0, .int .i64 0, .slice none 0 0, .bool false, .bool false]) := by show _; rw [← hu4, hgx]; exact rowIs_new _ _ _
          have HGX : Hid (w2.heap.size ≤ gx) := by show _ ≤ _; have := hS.size; omega
          have GOS : Hid (gx ∉ bsS ∧ ∀ q, (Value.slice fraS L.length frpS).ownBlock = some q → q ≠ gx) := ⟨fun hx => by have h1 := OS.out.lt gx hx; omega, fun q hq e => by have h1 := (FS.out.lt q hq).2; omega⟩
          replace OS := hide (OS.out.new hbu4)
          replace FS := hide (owns_new FS.out hbu4)
          rw [hu4, ← hgx]
          refine hK.out _ _ (bchain hS hbu4) (fun hS => ?_)
          clear hu4 hgx hbu4 hK K
          try simp only [Act.put, List.getElem_toArray, List.getElem_cons_succ, List.getElem_cons_zero, List.setIfInBounds_toArray, List.set_cons_zero, List.set_cons_succ]
          refine wpAnyH_ready (rs := [9]) (by kernel_rfl) (by simp) ?_
          refine (AllReadyH.cons rfl (fun K hK => ?_) AllReadyH.nil)
          rw [if_pos (by kernel_rfl)]
          refine wp_store_row 43 (.tmp 6) (.tmp 32) rfl gx #[.int .i64 D.reg.lim, .int .i64 D.reg.top, .slice eaS D.reg.es.length epS, .int .i64 D.inr, .slice iaS D.inT.length ipS, .int .i64 D.outr, .slice oaS D.outT.length opS, .int .i64 D.get, .int .i64 D.give, .int .i64 D.first, .slice faS D.flows.length fpS, .bool D.away, .bool D.dead] rfl rfl 43 #[.int .i64 0, .int .i64 0, .slice none 0 0, .int .i64 0, .slice none 0 0, .int .i64 0, .slice none 0 0, .int .i64 0, .int .i64 0, .int .i64 0, .slice none 0 0, .bool false, .bool false] HBX.out (by kernel_rfl) rfl (by simp [Value.oneCell']) ?_
          have HB5 := hide (rowIs_setRow (cs' := [.int .i64 D.reg.lim, .int .i64 D.reg.top, .slice eaS D.reg.es.length epS, .int .i64 D.inr, .slice iaS D.inT.length ipS, .int .i64 D.outr, .slice oaS D.outT.length opS, .int .i64 D.get, .int .i64 D.give, .int .i64 D.first, .slice faS D.flows.length fpS, .bool D.away, .bool D.dead]) HBX.out)
          have hS5 := below_setRow hS HGX.out #[.int .i64 D.reg.lim, .int .i64 D.reg.top, .slice eaS D.reg.es.length epS, .int .i64 D.inr, .slice iaS D.inT.length ipS, .int .i64 D.outr, .slice oaS D.outT.length opS, .int .i64 D.get, .int .i64 D.give, .int .i64 D.first, .slice faS D.flows.length fpS, .bool D.away, .bool D.dead]
          replace OS := hide (OS.out.keep (by rw [setRow_size]; exact Nat.le_refl _) (fun b hb => setRow_other u4 gx #[.int .i64 D.reg.lim, .int .i64 D.reg.top, .slice eaS D.reg.es.length epS, .int .i64 D.inr, .slice iaS D.inT.length ipS, .int .i64 D.outr, .slice oaS D.outT.length opS, .int .i64 D.get, .int .i64 D.give, .int .i64 D.first, .slice faS D.flows.length fpS, .bool D.away, .bool D.dead] b (fun e => GOS.out.1 (e ▸ hb))))
          replace FS := hide (owns_kept FS.out (fun q hq hl => setRow_other u4 gx #[.int .i64 D.reg.lim, .int .i64 D.reg.top, .slice eaS D.reg.es.length epS, .int .i64 D.inr, .slice iaS D.inT.length ipS, .int .i64 D.outr, .slice oaS D.outT.length opS, .int .i64 D.get, .int .i64 D.give, .int .i64 D.first, .slice faS D.flows.length fpS, .bool D.away, .bool D.dead] q (GOS.out.2 q hq)))
          clear HBX
          have HBX := HB5
          clear HB5
          generalize u4.setRow gx #[.int .i64 D.reg.lim, .int .i64 D.reg.top, .slice eaS D.reg.es.length epS, .int .i64 D.inr, .slice iaS D.inT.length ipS, .int .i64 D.outr, .slice oaS D.outT.length opS, .int .i64 D.get, .int .i64 D.give, .int .i64 D.first, .slice faS D.flows.length fpS, .bool D.away, .bool D.dead] = u5 at *
          refine hK.out _ _ hS5 (fun hS => ?_)
          clear hK K hS5
          try simp only [Act.put, List.getElem_toArray, List.getElem_cons_succ, List.getElem_cons_zero, List.setIfInBounds_toArray, List.set_cons_zero, List.set_cons_succ]
          refine wpAnyH_take (i := 10) (v := ?_) rfl (by kernel_rfl) (by kernel_rfl) (by kernel_rfl) (fun _ _ _ h => h) (Or.inl ⟨by kernel_rfl, ?_⟩) hS ?_; rotate_left; focus (intro uu hu; clear hu; go_simp; try with_reducible rfl)
          try simp only [Act.put, List.getElem_toArray, List.getElem_cons_succ, List.getElem_cons_zero, List.setIfInBounds_toArray, List.set_cons_zero, List.set_cons_succ]
          refine wpAnyH_done (by kernel_rfl) ?_ _
          go_wp2_with fail
          go_meet
          exact ⟨gx, _, _, _, _, _, _, _, _, _, _, bsS, rfl, rfl, HBX, OS, LOS, FS, FAS, GOS, HGX, hS⟩
        · skip
          rw [if_pos (by kernel_rfl)]
          go_simp
          obtain ⟨u6, hu6⟩ : ∃ u, u2.alloc (.cells #[.int .i64 0, .int .i64 0, .slice none 0 0, .int .i64 0, .slice none 0 0, .int .i64 0, .slice none 0 0, .int .i64 0, .int .i64 0, .int .i64 0, .slice none 0 0, .bool false, .bool false] 43) = u := ⟨_, rfl⟩
          have hbu6 : Below u2.heap.size u2 u6 := by rw [← hu6]; exact (Below.refl _ _).alloc (Nat.le_refl _) _
          obtain ⟨gx, hgx⟩ : ∃ q, q = u2.heap.size := ⟨_, rfl⟩
          have HBX : Hid (RowIs u6 gx 43 [.int .i64 0, .int .i64 0, .slice none 0 0, .int .i64 0, .slice none 0 0, .int .i64 0, .slice none 0 0, .int .i64 0, .int .i64 0, .int .i64 0, .slice none 0 0, .bool false, .bool false]) := by show _; rw [← hu6, hgx]; exact rowIs_new _ _ _
          have HGX : Hid (w2.heap.size ≤ gx) := by show _ ≤ _; have := hS.size; omega
          replace OC := hide (OC.out.new hbu6)
          rw [hu6, ← hgx]
          refine hK.out _ _ (bchain hS hbu6) (fun hS => ?_)
          clear hu6 hgx hbu6 hK K
          try simp only [Act.put, List.getElem_toArray, List.getElem_cons_succ, List.getElem_cons_zero, List.setIfInBounds_toArray, List.set_cons_zero, List.set_cons_succ]
          refine wpAnyH_ready (rs := [4]) (by kernel_rfl) (by simp) ?_
          refine (AllReadyH.cons rfl (fun K hK => ?_) AllReadyH.nil)
          rw [if_pos (by kernel_rfl)]
          go_simp
          refine (show Calls _ _ #[cnv d _ _ _ _, frv f] _ _ from Hspec.out _ _ _ _ _ OC.out.rd).mono ?_
          rintro x u7 ⟨v, vfr, rfl, ⟨ue, ui, uo, uf, bsS, hveq, ho, hlo, hfo, hfa⟩, hbu7⟩
          subst hveq
          obtain ⟨fraS, frpS, hfe, _, _⟩ := owns_form hfo
          subst hfe
          have hsz9 := hS.size
          have OS := hide ho
          have LOS : Hid (∀ b ∈ bsS, w2.heap.size ≤ b) := fun b hb => Nat.le_trans hsz9 (hlo b hb)
          have FS := hide (owns_base hfo (fun q hq => Nat.le_trans hsz9 (hfo.lt q hq).1))
          have FAS := hide hfa
          have GOS : Hid (gx ∉ bsS ∧ ∀ q, (Value.slice fraS L.length frpS).ownBlock = some q → q ≠ gx) := ⟨fun hx => by have h1 := hlo gx hx; have := HBX.out.lt; omega, fun q hq e => by have h1 := (hfo.lt q hq).1; have := HBX.out.lt; omega⟩
          clear ho hlo hfo hfa hsz9
          clear OC
          replace HBX := hide (HBX.out.new hbu7)
          obtain ⟨eaS, epS, heS, _, _⟩ := OS.out.rd.e.form
          subst heS
          obtain ⟨iaS, ipS, hiS, _, _⟩ := OS.out.rd.i.form
          subst hiS
          obtain ⟨oaS, opS, hoS, _, _⟩ := OS.out.rd.o.form
          subst hoS
          obtain ⟨faS, fpS, hfS, _, _⟩ := OS.out.rd.f.form
          subst hfS
          dsimp only [cnv]
          refine hK.out _ _ (bchain hS hbu7) (fun hS => ?_)
          clear hK K hbu7
          try simp only [Act.put, List.getElem_toArray, List.getElem_cons_succ, List.getElem_cons_zero, List.setIfInBounds_toArray, List.set_cons_zero, List.set_cons_succ]
          refine wpAnyH_take (i := 5) (v := ?_) rfl (by kernel_rfl) (by kernel_rfl) (by kernel_rfl) (fun _ _ _ h => h) (Or.inl ⟨by kernel_rfl, ?_⟩) hS ?_; rotate_left; focus (intro uu hu; clear hu; go_simp; try with_reducible rfl)
          try simp only [Act.put, List.getElem_toArray, List.getElem_cons_succ, List.getElem_cons_zero, List.setIfInBounds_toArray, List.set_cons_zero, List.set_cons_succ]
          refine wpAnyH_take (i := 6) (v := ?_) rfl (by kernel_rfl) (by kernel_rfl) (by kernel_rfl) (fun _ _ _ h => h) (Or.inl ⟨by kernel_rfl, ?_⟩) hS ?_; rotate_left; focus (intro uu hu; clear hu; go_simp; try with_reducible rfl)
          try simp only [Act.put, List.getElem_toArray, List.getElem_cons_succ, List.getElem_cons_zero, List.setIfInBounds_toArray, List.set_cons_zero, List.set_cons_succ]
          refine wpAnyH_take (i := 7) (v := ?_) rfl (by kernel_rfl) (by kernel_rfl) (by kernel_rfl) (fun _ _ _ h => h) (Or.inl ⟨by kernel_rfl, ?_⟩) hS ?_; rotate_left; focus (intro uu hu; clear hu; go_simp; try with_reducible rfl)
          try simp only [Act.put, List.getElem_toArray, List.getElem_cons_succ, List.getElem_cons_zero, List.setIfInBounds_toArray, List.set_cons_zero, List.set_cons_succ]
          refine wpAnyH_ready (rs := [9]) (by kernel_rfl) (by simp) ?_
          refine (AllReadyH.cons rfl (fun K hK => ?_) AllReadyH.nil)
          rw [if_pos (by kernel_rfl)]
          refine wp_store_row 43 (.tmp 6) (.tmp 32) rfl gx #[.int .i64 D.reg.lim, .int .i64 D.reg.top, .slice eaS D.reg.es.length epS, .int .i64 D.inr, .slice iaS D.inT.length ipS, .int .i64 D.outr, .slice oaS D.outT.length opS, .int .i64 D.get, .int .i64 D.give, .int .i64 D.first, .slice faS D.flows.length fpS, .bool D.away, .bool D.dead] rfl rfl 43 #[.int .i64 0, .int .i64 0, .slice none 0 0, .int .i64 0, .slice none 0 0, .int .i64 0, .slice none 0 0, .int .i64 0, .int .i64 0, .int .i64 0, .slice none 0 0, .bool false, .bool false] HBX.out (by kernel_rfl) rfl (by simp [Value.oneCell']) ?_
          have HB5 := hide (rowIs_setRow (cs' := [.int .i64 D.reg.lim, .int .i64 D.reg.top, .slice eaS D.reg.es.length epS, .int .i64 D.inr, .slice iaS D.inT.length ipS, .int .i64 D.outr, .slice oaS D.outT.length opS, .int .i64 D.get, .int .i64 D.give, .int .i64 D.first, .slice faS D.flows.length fpS, .bool D.away, .bool D.dead]) HBX.out)
          have hS5 := below_setRow hS HGX.out #[.int .i64 D.reg.lim, .int .i64 D.reg.top, .slice eaS D.reg.es.length epS, .int .i64 D.inr, .slice iaS D.inT.length ipS, .int .i64 D.outr, .slice oaS D.outT.length opS, .int .i64 D.get, .int .i64 D.give, .int .i64 D.first, .slice faS D.flows.length fpS, .bool D.away, .bool D.dead]
          replace OS := hide (OS.out.keep (by rw [setRow_size]; exact Nat.le_refl _) (fun b hb => setRow_other u7 gx #[.int .i64 D.reg.lim, .int .i64 D.reg.top, .slice eaS D.reg.es.length epS, .int .i64 D.inr, .slice iaS D.inT.length ipS, .int .i64 D.outr, .slice oaS D.outT.length opS, .int .i64 D.get, .int .i64 D.give, .int .i64 D.first, .slice faS D.flows.length fpS, .bool D.away, .bool D.dead] b (fun e => GOS.out.1 (e ▸ hb))))
          replace FS := hide (owns_kept FS.out (fun q hq hl => setRow_other u7 gx #[.int .i64 D.reg.lim, .int .i64 D.reg.top, .slice eaS D.reg.es.length epS, .int .i64 D.inr, .slice iaS D.inT.length ipS, .int .i64 D.outr, .slice oaS D.outT.length opS, .int .i64 D.get, .int .i64 D.give, .int .i64 D.first, .slice faS D.flows.length fpS, .bool D.away, .bool D.dead] q (GOS.out.2 q hq)))
          clear HBX
          have HBX := HB5
          clear HB5
          generalize u7.setRow gx #[.int .i64 D.reg.lim, .int .i64 D.reg.top, .slice eaS D.reg.es.length epS, .int .i64 D.inr, .slice iaS D.inT.length ipS, .int .i64 D.outr, .slice oaS D.outT.length opS, .int .i64 D.get, .int .i64 D.give, .int .i64 D.first, .slice faS D.flows.length fpS, .bool D.away, .bool D.dead] = u8 at *
          refine hK.out _ _ hS5 (fun hS => ?_)
          clear hK K hS5
          try simp only [Act.put, List.getElem_toArray, List.getElem_cons_succ, List.getElem_cons_zero, List.setIfInBounds_toArray, List.set_cons_zero, List.set_cons_succ]
          refine wpAnyH_take (i := 10) (v := ?_) rfl (by kernel_rfl) (by kernel_rfl) (by kernel_rfl) (fun _ _ _ h => h) (Or.inl ⟨by kernel_rfl, ?_⟩) hS ?_; rotate_left; focus (intro uu hu; clear hu; go_simp; try with_reducible rfl)
          try simp only [Act.put, List.getElem_toArray, List.getElem_cons_succ, List.getElem_cons_zero, List.setIfInBounds_toArray, List.set_cons_zero, List.set_cons_succ]
          refine wpAnyH_done (by kernel_rfl) ?_ _
          go_wp2_with fail
          go_meet
          exact ⟨gx, _, _, _, _, _, _, _, _, _, _, bsS, rfl, rfl, HBX, OS, LOS, FS, FAS, GOS, HGX, hS⟩
      · skip
        rw [if_pos (by kernel_rfl)]
        go_simp
        obtain ⟨u9, hu9⟩ : ∃ u, u1.alloc (.cells #[.int .i64 0, .int .i64 0, .slice none 0 0, .int .i64 0, .slice none 0 0, .int .i64 0, .slice none 0 0, .int .i64 0, .int .i64 0, .int .i64 0, .slice none 0 0, .bool false, .bool false] 43) = u := ⟨_, rfl⟩
        have hbu9 : Below u1.heap.size u1 u9 := by rw [← hu9]; exact (Below.refl _ _).alloc (Nat.le_refl _) _
        obtain ⟨gx, hgx⟩ : ∃ q, q = u1.heap.size := ⟨_, rfl⟩
        have HBX : Hid (RowIs u9 gx 43 [.int .i64 0, .int .i64 0, .slice none 0 0, .int .i64 0, .slice none 0 0, .int .i64 0, .slice none 0 0, .int .i64 0, .int .i64 0, .int .i64 0, .slice none 0 0, .bool false, .bool false]) := by show _; rw [← hu9, hgx]; exact rowIs_new _ _ _
        have HGX : Hid (w2.heap.size ≤ gx) := by show _ ≤ _; have := hS.size; omega
        replace OC := hide (OC.out.new hbu9)
        rw [hu9, ← hgx]
        refine hK.out _ _ (bchain hS hbu9) (fun hS => ?_)
        clear hu9 hgx hbu9 hK K
        try simp only [Act.put, List.getElem_toArray, List.getElem_cons_succ, List.getElem_cons_zero, List.setIfInBounds_toArray, List.set_cons_zero, List.set_cons_succ]
        refine wpAnyH_ready (rs := [3]) (by kernel_rfl) (by simp) ?_
        refine (AllReadyH.cons rfl (fun K hK => ?_) AllReadyH.nil)
        rw [if_pos (by kernel_rfl)]
        go_simp
        refine (toFrame1 f.k f.fl f.st f.b _).mono ?_; rintro x u10 ⟨rfl, hbu10⟩
        replace OC := hide (OC.out.new hbu10)
        replace HBX := hide (HBX.out.new hbu10)
        refine hK.out _ _ (bchain hS hbu10) (fun hS => ?_)
        clear hK K hbu10
        try simp only [Act.put, List.getElem_toArray, List.getElem_cons_succ, List.getElem_cons_zero, List.setIfInBounds_toArray, List.set_cons_zero, List.set_cons_succ]
        refine wpAnyH_ready (rs := [4]) (by kernel_rfl) (by simp) ?_
        refine (AllReadyH.cons rfl (fun K hK => ?_) AllReadyH.nil)
        rw [if_pos (by kernel_rfl)]
        go_simp
        refine (show Calls _ _ #[cnv d _ _ _ _, frv f] _ _ from Hspec.out _ _ _ _ _ OC.out.rd).mono ?_
        rintro x u11 ⟨v, vfr, rfl, ⟨ue, ui, uo, uf, bsS, hveq, ho, hlo, hfo, hfa⟩, hbu11⟩
        subst hveq
        obtain ⟨fraS, frpS, hfe, _, _⟩ := owns_form hfo
        subst hfe
        have hsz9 := hS.size
        have OS := hide ho
        have LOS : Hid (∀ b ∈ bsS, w2.heap.size ≤ b) := fun b hb => Nat.le_trans hsz9 (hlo b hb)
        have FS := hide (owns_base hfo (fun q hq => Nat.le_trans hsz9 (hfo.lt q hq).1))
        have FAS := hide hfa
        have GOS : Hid (gx ∉ bsS ∧ ∀ q, (Value.slice fraS L.length frpS).ownBlock = some q → q ≠ gx) := ⟨fun hx => by have h1 := hlo gx hx; have := HBX.out.lt; omega, fun q hq e => by have h1 := (hfo.lt q hq).1; have := HBX.out.lt; omega⟩
        clear ho hlo hfo hfa hsz9
        clear OC
        replace HBX := hide (HBX.out.new hbu11)
        obtain ⟨eaS, epS, heS, _, _⟩ := OS.out.rd.e.form
        subst heS
        obtain ⟨iaS, ipS, hiS, _, _⟩ := OS.out.rd.i.form
        subst hiS
        obtain ⟨oaS, opS, hoS, _, _⟩ := OS.out.rd.o.form
        subst hoS
        obtain ⟨faS, fpS, hfS, _, _⟩ := OS.out.rd.f.form
        subst hfS
        dsimp only [cnv]
        refine hK.out _ _ (bchain hS hbu11) (fun hS => ?_)
        clear hK K hbu11
        try simp only [Act.put, List.getElem_toArray, List.getElem_cons_succ, List.getElem_cons_zero, List.setIfInBounds_toArray, List.set_cons_zero, List.set_cons_succ]
        refine wpAnyH_take (i := 5) (v := ?_) rfl (by kernel_rfl) (by kernel_rfl) (by kernel_rfl) (fun _ _ _ h => h) (Or.inl ⟨by kernel_rfl, ?_⟩) hS ?_; rotate_left; focus (intro uu hu; clear hu; go_simp; try with_reducible rfl)
        try simp only [Act.put, List.getElem_toArray, List.getElem_cons_succ, List.getElem_cons_zero, List.setIfInBounds_toArray, List.set_cons_zero, List.set_cons_succ]
        refine wpAnyH_take (i := 6) (v := ?_) rfl (by kernel_rfl) (by kernel_rfl) (by kernel_rfl) (fun _ _ _ h => h) (Or.inl ⟨by kernel_rfl, ?_⟩) hS ?_; rotate_left; focus (intro uu hu; clear hu; go_simp; try with_reducible rfl)
        try simp only [Act.put, List.getElem_toArray, List.getElem_cons_succ, List.getElem_cons_zero, List.setIfInBounds_toArray, List.set_cons_zero, List.set_cons_succ]
        refine wpAnyH_take (i := 7) (v := ?_) rfl (by kernel_rfl) (by kernel_rfl) (by kernel_rfl) (fun _ _ _ h => h) (Or.inl ⟨by kernel_rfl, ?_⟩) hS ?_; rotate_left; focus (intro uu hu; clear hu; go_simp; try with_reducible rfl)
        try simp only [Act.put, List.getElem_toArray, List.getElem_cons_succ, List.getElem_cons_zero, List.setIfInBounds_toArray, List.set_cons_zero, List.set_cons_succ]
        refine wpAnyH_ready (rs := [9]) (by kernel_rfl) (by simp) ?_
        refine (AllReadyH.cons rfl (fun K hK => ?_) AllReadyH.nil)
        rw [if_pos (by kernel_rfl)]
        refine wp_store_row 43 (.tmp 6) (.tmp 32) rfl gx #[.int .i64 D.reg.lim, .int .i64 D.reg.top, .slice eaS D.reg.es.length epS, .int .i64 D.inr, .slice iaS D.inT.length ipS, .int .i64 D.outr, .slice oaS D.outT.length opS, .int .i64 D.get, .int .i64 D.give, .int .i64 D.first, .slice faS D.flows.length fpS, .bool D.away, .bool D.dead] rfl rfl 43 #[.int .i64 0, .int .i64 0, .slice none 0 0, .int .i64 0, .slice none 0 0, .int .i64 0, .slice none 0 0, .int .i64 0, .int .i64 0, .int .i64 0, .slice none 0 0, .bool false, .bool false] HBX.out (by kernel_rfl) rfl (by simp [Value.oneCell']) ?_
        have HB5 := hide (rowIs_setRow (cs' := [.int .i64 D.reg.lim, .int .i64 D.reg.top, .slice eaS D.reg.es.length epS, .int .i64 D.inr, .slice iaS D.inT.length ipS, .int .i64 D.outr, .slice oaS D.outT.length opS, .int .i64 D.get, .int .i64 D.give, .int .i64 D.first, .slice faS D.flows.length fpS, .bool D.away, .bool D.dead]) HBX.out)
        have hS5 := below_setRow hS HGX.out #[.int .i64 D.reg.lim, .int .i64 D.reg.top, .slice eaS D.reg.es.length epS, .int .i64 D.inr, .slice iaS D.inT.length ipS, .int .i64 D.outr, .slice oaS D.outT.length opS, .int .i64 D.get, .int .i64 D.give, .int .i64 D.first, .slice faS D.flows.length fpS, .bool D.away, .bool D.dead]
        replace OS := hide (OS.out.keep (by rw [setRow_size]; exact Nat.le_refl _) (fun b hb => setRow_other u11 gx #[.int .i64 D.reg.lim, .int .i64 D.reg.top, .slice eaS D.reg.es.length epS, .int .i64 D.inr, .slice iaS D.inT.length ipS, .int .i64 D.outr, .slice oaS D.outT.length opS, .int .i64 D.get, .int .i64 D.give, .int .i64 D.first, .slice faS D.flows.length fpS, .bool D.away, .bool D.dead] b (fun e => GOS.out.1 (e ▸ hb))))
        replace FS := hide (owns_kept FS.out (fun q hq hl => setRow_other u11 gx #[.int .i64 D.reg.lim, .int .i64 D.reg.top, .slice eaS D.reg.es.length epS, .int .i64 D.inr, .slice iaS D.inT.length ipS, .int .i64 D.outr, .slice oaS D.outT.length opS, .int .i64 D.get, .int .i64 D.give, .int .i64 D.first, .slice faS D.flows.length fpS, .bool D.away, .bool D.dead] q (GOS.out.2 q hq)))
        clear HBX
        have HBX := HB5
        clear HB5
        generalize u11.setRow gx #[.int .i64 D.reg.lim, .int .i64 D.reg.top, .slice eaS D.reg.es.length epS, .int .i64 D.inr, .slice iaS D.inT.length ipS, .int .i64 D.outr, .slice oaS D.outT.length opS, .int .i64 D.get, .int .i64 D.give, .int .i64 D.first, .slice faS D.flows.length fpS, .bool D.away, .bool D.dead] = u12 at *
        refine hK.out _ _ hS5 (fun hS => ?_)
        clear hK K hS5
        try simp only [Act.put, List.getElem_toArray, List.getElem_cons_succ, List.getElem_cons_zero, List.setIfInBounds_toArray, List.set_cons_zero, List.set_cons_succ]
        refine wpAnyH_take (i := 10) (v := ?_) rfl (by kernel_rfl) (by kernel_rfl) (by kernel_rfl) (fun _ _ _ h => h) (Or.inl ⟨by kernel_rfl, ?_⟩) hS ?_; rotate_left; focus (intro uu hu; clear hu; go_simp; try with_reducible rfl)
        try simp only [Act.put, List.getElem_toArray, List.getElem_cons_succ, List.getElem_cons_zero, List.setIfInBounds_toArray, List.set_cons_zero, List.set_cons_succ]
        refine wpAnyH_done (by kernel_rfl) ?_ _
        go_wp2_with fail
        go_meet
        exact ⟨gx, _, _, _, _, _, _, _, _, _, _, bsS, rfl, rfl, HBX, OS, LOS, FS, FAS, GOS, HGX, hS⟩
    · skip
      rw [if_pos (by kernel_rfl)]
      go_simp
      obtain ⟨u13, hu13⟩ : ∃ u, u0.alloc (.cells #[.int .i64 0, .int .i64 0, .slice none 0 0, .int .i64 0, .slice none 0 0, .int .i64 0, .slice none 0 0, .int .i64 0, .int .i64 0, .int .i64 0, .slice none 0 0, .bool false, .bool false] 43) = u := ⟨_, rfl⟩
      have hbu13 : Below u0.heap.size u0 u13 := by rw [← hu13]; exact (Below.refl _ _).alloc (Nat.le_refl _) _
      obtain ⟨gx, hgx⟩ : ∃ q, q = u0.heap.size := ⟨_, rfl⟩
      have HBX : Hid (RowIs u13 gx 43 [.int .i64 0, .int .i64 0, .slice none 0 0, .int .i64 0, .slice none 0 0, .int .i64 0, .slice none 0 0, .int .i64 0, .int .i64 0, .int .i64 0, .slice none 0 0, .bool false, .bool false]) := by show _; rw [← hu13, hgx]; exact rowIs_new _ _ _
      have HGX : Hid (w2.heap.size ≤ gx) := by show _ ≤ _; have := hS.size; omega
      rw [hu13, ← hgx]
      refine hK.out _ _ (bchain hS hbu13) (fun hS => ?_)
      clear hu13 hgx hbu13 hK K
      try simp only [Act.put, List.getElem_toArray, List.getElem_cons_succ, List.getElem_cons_zero, List.setIfInBounds_toArray, List.set_cons_zero, List.set_cons_succ]
      refine wpAnyH_ready (rs := [1]) (by kernel_rfl) (by simp) ?_
      refine (AllReadyH.cons rfl (fun K hK => ?_) AllReadyH.nil)
      rw [if_pos (by kernel_rfl)]
      go_simp
      refine (show Calls _ _ #[cnv d _ _ _ _] _ _ from toConn1 d _ _ _ _ _ (HV.out.new (bchain HBQ.out hS)) HS9.out).mono ?_
      rintro x u14 ⟨ue, ui, uo, uf, bsSc, rfl, ho, hlo, hbu14⟩
      have OC := hide ho
      clear ho hlo
      replace HBX := hide (HBX.out.new hbu14)
      obtain ⟨eaSc, epSc, heSc, _, _⟩ := OC.out.rd.e.form
      subst heSc
      obtain ⟨iaSc, ipSc, hiSc, _, _⟩ := OC.out.rd.i.form
      subst hiSc
      obtain ⟨oaSc, opSc, hoSc, _, _⟩ := OC.out.rd.o.form
      subst hoSc
      obtain ⟨faSc, fpSc, hfSc, _, _⟩ := OC.out.rd.f.form
      subst hfSc
      dsimp only [cnv]
      refine hK.out _ _ (bchain hS hbu14) (fun hS => ?_)
      clear hK K hbu14
      try simp only [Act.put, List.getElem_toArray, List.getElem_cons_succ, List.getElem_cons_zero, List.setIfInBounds_toArray, List.set_cons_zero, List.set_cons_succ]
      refine wpAnyH_ready (rs := [3]) (by kernel_rfl) (by simp) ?_
      refine (AllReadyH.cons rfl (fun K hK => ?_) AllReadyH.nil)
      rw [if_pos (by kernel_rfl)]
      go_simp
      refine (toFrame1 f.k f.fl f.st f.b _).mono ?_; rintro x u15 ⟨rfl, hbu15⟩
      replace HBX := hide (HBX.out.new hbu15)
      replace OC := hide (OC.out.new hbu15)
      refine hK.out _ _ (bchain hS hbu15) (fun hS => ?_)
      clear hK K hbu15
      try simp only [Act.put, List.getElem_toArray, List.getElem_cons_succ, List.getElem_cons_zero, List.setIfInBounds_toArray, List.set_cons_zero, List.set_cons_succ]
      refine wpAnyH_ready (rs := [4]) (by kernel_rfl) (by simp) ?_
      refine (AllReadyH.cons rfl (fun K hK => ?_) AllReadyH.nil)
      rw [if_pos (by kernel_rfl)]
      go_simp
      refine (show Calls _ _ #[cnv d _ _ _ _, frv f] _ _ from Hspec.out _ _ _ _ _ OC.out.rd).mono ?_
      rintro x u16 ⟨v, vfr, rfl, ⟨ue, ui, uo, uf, bsS, hveq, ho, hlo, hfo, hfa⟩, hbu16⟩
      subst hveq
      obtain ⟨fraS, frpS, hfe, _, _⟩ := owns_form hfo
      subst hfe
      have hsz9 := hS.size
      have OS := hide ho
      have LOS : Hid (∀ b ∈ bsS, w2.heap.size ≤ b) := fun b hb => Nat.le_trans hsz9 (hlo b hb)
      have FS := hide (owns_base hfo (fun q hq => Nat.le_trans hsz9 (hfo.lt q hq).1))
      have FAS := hide hfa
      have GOS : Hid (gx ∉ bsS ∧ ∀ q, (Value.slice fraS L.length frpS).ownBlock = some q → q ≠ gx) := ⟨fun hx => by have h1 := hlo gx hx; have := HBX.out.lt; omega, fun q hq e => by have h1 := (hfo.lt q hq).1; have := HBX.out.lt; omega⟩
      clear ho hlo hfo hfa hsz9
      clear OC
      replace HBX := hide (HBX.out.new hbu16)
      obtain ⟨eaS, epS, heS, _, _⟩ := OS.out.rd.e.form
      subst heS
      obtain ⟨iaS, ipS, hiS, _, _⟩ := OS.out.rd.i.form
      subst hiS
      obtain ⟨oaS, opS, hoS, _, _⟩ := OS.out.rd.o.form
      subst hoS
      obtain ⟨faS, fpS, hfS, _, _⟩ := OS.out.rd.f.form
      subst hfS
      dsimp only [cnv]
      refine hK.out _ _ (bchain hS hbu16) (fun hS => ?_)
      clear hK K hbu16
      try simp only [Act.put, List.getElem_toArray, List.getElem_cons_succ, List.getElem_cons_zero, List.setIfInBounds_toArray, List.set_cons_zero, List.set_cons_succ]
      refine wpAnyH_take (i := 5) (v := ?_) rfl (by kernel_rfl) (by kernel_rfl) (by kernel_rfl) (fun _ _ _ h => h) (Or.inl ⟨by kernel_rfl, ?_⟩) hS ?_; rotate_left; focus (intro uu hu; clear hu; go_simp; try with_reducible rfl)
      try simp only [Act.put, List.getElem_toArray, List.getElem_cons_succ, List.getElem_cons_zero, List.setIfInBounds_toArray, List.set_cons_zero, List.set_cons_succ]
      refine wpAnyH_take (i := 6) (v := ?_) rfl (by kernel_rfl) (by kernel_rfl) (by kernel_rfl) (fun _ _ _ h => h) (Or.inl ⟨by kernel_rfl, ?_⟩) hS ?_; rotate_left; focus (intro uu hu; clear hu; go_simp; try with_reducible rfl)
      try simp only [Act.put, List.getElem_toArray, List.getElem_cons_succ, List.getElem_cons_zero, List.setIfInBounds_toArray, List.set_cons_zero, List.set_cons_succ]
      refine wpAnyH_take (i := 7) (v := ?_) rfl (by kernel_rfl) (by kernel_rfl) (by kernel_rfl) (fun _ _ _ h => h) (Or.inl ⟨by kernel_rfl, ?_⟩) hS ?_; rotate_left; focus (intro uu hu; clear hu; go_simp; try with_reducible rfl)
      try simp only [Act.put, List.getElem_toArray, List.getElem_cons_succ, List.getElem_cons_zero, List.setIfInBounds_toArray, List.set_cons_zero, List.set_cons_succ]
      refine wpAnyH_ready (rs := [9]) (by kernel_rfl) (by simp) ?_
      refine (AllReadyH.cons rfl (fun K hK => ?_) AllReadyH.nil)
      rw [if_pos (by kernel_rfl)]
      refine wp_store_row 43 (.tmp 6) (.tmp 32) rfl gx #[.int .i64 D.reg.lim, .int .i64 D.reg.top, .slice eaS D.reg.es.length epS, .int .i64 D.inr, .slice iaS D.inT.length ipS, .int .i64 D.outr, .slice oaS D.outT.length opS, .int .i64 D.get, .int .i64 D.give, .int .i64 D.first, .slice faS D.flows.length fpS, .bool D.away, .bool D.dead] rfl rfl 43 #[.int .i64 0, .int .i64 0, .slice none 0 0, .int .i64 0, .slice none 0 0, .int .i64 0, .slice none 0 0, .int .i64 0, .int .i64 0, .int .i64 0, .slice none 0 0, .bool false, .bool false] HBX.out (by kernel_rfl) rfl (by simp [Value.oneCell']) ?_
      have HB5 := hide (rowIs_setRow (cs' := [.int .i64 D.reg.lim, .int .i64 D.reg.top, .slice eaS D.reg.es.length epS, .int .i64 D.inr, .slice iaS D.inT.length ipS, .int .i64 D.outr, .slice oaS D.outT.length opS, .int .i64 D.get, .int .i64 D.give, .int .i64 D.first, .slice faS D.flows.length fpS, .bool D.away, .bool D.dead]) HBX.out)
      have hS5 := below_setRow hS HGX.out #[.int .i64 D.reg.lim, .int .i64 D.reg.top, .slice eaS D.reg.es.length epS, .int .i64 D.inr, .slice iaS D.inT.length ipS, .int .i64 D.outr, .slice oaS D.outT.length opS, .int .i64 D.get, .int .i64 D.give, .int .i64 D.first, .slice faS D.flows.length fpS, .bool D.away, .bool D.dead]
      replace OS := hide (OS.out.keep (by rw [setRow_size]; exact Nat.le_refl _) (fun b hb => setRow_other u16 gx #[.int .i64 D.reg.lim, .int .i64 D.reg.top, .slice eaS D.reg.es.length epS, .int .i64 D.inr, .slice iaS D.inT.length ipS, .int .i64 D.outr, .slice oaS D.outT.length opS, .int .i64 D.get, .int .i64 D.give, .int .i64 D.first, .slice faS D.flows.length fpS, .bool D.away, .bool D.dead] b (fun e => GOS.out.1 (e ▸ hb))))
      replace FS := hide (owns_kept FS.out (fun q hq hl => setRow_other u16 gx #[.int .i64 D.reg.lim, .int .i64 D.reg.top, .slice eaS D.reg.es.length epS, .int .i64 D.inr, .slice iaS D.inT.length ipS, .int .i64 D.outr, .slice oaS D.outT.length opS, .int .i64 D.get, .int .i64 D.give, .int .i64 D.first, .slice faS D.flows.length fpS, .bool D.away, .bool D.dead] q (GOS.out.2 q hq)))
      clear HBX
      have HBX := HB5
      clear HB5
      generalize u16.setRow gx #[.int .i64 D.reg.lim, .int .i64 D.reg.top, .slice eaS D.reg.es.length epS, .int .i64 D.inr, .slice iaS D.inT.length ipS, .int .i64 D.outr, .slice oaS D.outT.length opS, .int .i64 D.get, .int .i64 D.give, .int .i64 D.first, .slice faS D.flows.length fpS, .bool D.away, .bool D.dead] = u17 at *
      refine hK.out _ _ hS5 (fun hS => ?_)
      clear hK K hS5
      try simp only [Act.put, List.getElem_toArray, List.getElem_cons_succ, List.getElem_cons_zero, List.setIfInBounds_toArray, List.set_cons_zero, List.set_cons_succ]
      refine wpAnyH_take (i := 10) (v := ?_) rfl (by kernel_rfl) (by kernel_rfl) (by kernel_rfl) (fun _ _ _ h => h) (Or.inl ⟨by kernel_rfl, ?_⟩) hS ?_; rotate_left; focus (intro uu hu; clear hu; go_simp; try with_reducible rfl)
      try simp only [Act.put, List.getElem_toArray, List.getElem_cons_succ, List.getElem_cons_zero, List.setIfInBounds_toArray, List.set_cons_zero, List.set_cons_succ]
      refine wpAnyH_done (by kernel_rfl) ?_ _
      go_wp2_with fail
      go_meet
      exact ⟨gx, _, _, _, _, _, _, _, _, _, _, bsS, rfl, rfl, HBX, OS, LOS, FS, FAS, GOS, HGX, hS⟩
  obtain ⟨gS, eaS, epS, iaS, ipS, oaS, opS, faS, fpS, fraS, frpS, bsS, rfl, rfl, BS, OS, LOS, FS, FAS, GOS, GLS, hbc0⟩ := hcut
  have hb := hbc0.out
  clear hbc0
  generalize wc = w3 at *
  replace RX := hide (RX.out.new hb)
  replace HB := hide (bchain HB.out hb)
  replace RF := hide (RF.out.new hb)
  clear hb
  clear GOS GLS
  have CS := hide OS.out.rd
  clear OS LOS
  have RS := hide (reads_of_owns FS.out)
  clear FS FAS
  have HBS : Hid (Below w3.heap.size w3 w3) := Below.refl _ _
  have HBo := HB
  have RXo := RX
  have BSo := BS
  have CSo := CS
  have RSo := RS
  have RFo := RF
  clear HB RX BS CS RS RF
  have HB := hide (bchain HBo.out HBS.out)
  have RX := hide (RXo.out.new HBS.out)
  have BS := hide (BSo.out.new HBS.out)
  have CS := hide (CSo.out.new HBS.out)
  have RS := hide (RSo.out.new HBS.out)
  have RF := hide (RFo.out.new HBS.out)
  go_wp2_with (refine wpList_load_row (by rfl) 30 _ (by rfl) w.heap.size (by rfl) [.int .i64 d.reg.lim, .int .i64 d.reg.top, .slice ea d.reg.es.length ep, .int .i64 d.inr, .slice ia d.inT.length ip, .int .i64 d.outr, .slice oa d.outT.length op, .int .i64 d.get, .int .i64 d.give, .int .i64 d.first, .slice fa d.flows.length fp, .bool d.away, .bool d.dead] _ 30 RX.out Tryz.underlying30 rfl (by kernel_rfl) ?_)
  refine (show Calls _ _ #[cnv d _ _ _ _] _ _ from toConn1 d _ _ _ _ _ (HV.out.new HB.out) HS9.out).mono ?_
  rintro x w4 ⟨ue, ui, uo, uf, bs8, rfl, ho, hlo, hb⟩
  have O8 := hide ho
  have hz8 := HBS.out.size
  have LO8 : Hid (∀ b ∈ bs8, w3.heap.size ≤ b) := fun b hb => Nat.le_trans hz8 (hlo b hb)
  clear ho hlo hz8
  clear HB RX BS CS RS RF
  replace HBS := hide (bchain HBS.out hb)
  clear hb
  obtain ⟨ea8, ep8, he8, _, _⟩ := O8.out.rd.e.form
  subst he8
  obtain ⟨ia8, ip8, hi8, _, _⟩ := O8.out.rd.i.form
  subst hi8
  obtain ⟨oa8, op8, ho8, _, _⟩ := O8.out.rd.o.form
  subst ho8
  obtain ⟨fa8, fp8, hf8, _, _⟩ := O8.out.rd.f.form
  subst hf8
  dsimp only [cnv]
  have HT8 := hide O8.out.lt
  go_upto_region 10 with (refine wpList_store_row (by rfl) 43 _ _ (by rfl) w4.heap.size [.int .i64 d.reg.lim, .int .i64 d.reg.top, .slice ea8 d.reg.es.length ep8, .int .i64 d.inr, .slice ia8 d.inT.length ip8, .int .i64 d.outr, .slice oa8 d.outT.length op8, .int .i64 d.get, .int .i64 d.give, .int .i64 d.first, .slice fa8 d.flows.length fp8, .bool d.away, .bool d.dead] (by rfl) (by rfl) 43 [.int .i64 0, .int .i64 0, .slice none 0 0, .int .i64 0, .slice none 0 0, .int .i64 0, .slice none 0 0, .int .i64 0, .int .i64 0, .int .i64 0, .slice none 0 0, .bool false, .bool false] (rowIs_new w4 43 [.int .i64 0, .int .i64 0, .slice none 0 0, .int .i64 0, .slice none 0 0, .int .i64 0, .slice none 0 0, .int .i64 0, .int .i64 0, .int .i64 0, .slice none 0 0, .bool false, .bool false]) (by kernel_rfl) rfl (by intro u hu; simp at hu; rcases hu with rfl | rfl | rfl | rfl | rfl | rfl | rfl | rfl | rfl | rfl | rfl | rfl | rfl <;> rfl) ?_)
  have B80 : RowIs ((w4.alloc (.cells #[.int .i64 0, .int .i64 0, .slice none 0 0, .int .i64 0, .slice none 0 0, .int .i64 0, .slice none 0 0, .int .i64 0, .int .i64 0, .int .i64 0, .slice none 0 0, .bool false, .bool false] 43)).setRow w4.heap.size #[.int .i64 d.reg.lim, .int .i64 d.reg.top, .slice ea8 d.reg.es.length ep8, .int .i64 d.inr, .slice ia8 d.inT.length ip8, .int .i64 d.outr, .slice oa8 d.outT.length op8, .int .i64 d.get, .int .i64 d.give, .int .i64 d.first, .slice fa8 d.flows.length fp8, .bool d.away, .bool d.dead]) w4.heap.size 43 [.int .i64 d.reg.lim, .int .i64 d.reg.top, .slice ea8 d.reg.es.length ep8, .int .i64 d.inr, .slice ia8 d.inT.length ip8, .int .i64 d.outr, .slice oa8 d.outT.length op8, .int .i64 d.get, .int .i64 d.give, .int .i64 d.first, .slice fa8 d.flows.length fp8, .bool d.away, .bool d.dead] := rowIs_setRow (cs' := [.int .i64 d.reg.lim, .int .i64 d.reg.top, .slice ea8 d.reg.es.length ep8, .int .i64 d.inr, .slice ia8 d.inT.length ip8, .int .i64 d.outr, .slice oa8 d.outT.length op8, .int .i64 d.get, .int .i64 d.give, .int .i64 d.first, .slice fa8 d.flows.length fp8, .bool d.away, .bool d.dead]) (rowIs_new w4 43 [.int .i64 0, .int .i64 0, .slice none 0 0, .int .i64 0, .slice none 0 0, .int .i64 0, .slice none 0 0, .int .i64 0, .int .i64 0, .int .i64 0, .slice none 0 0, .bool false, .bool false])
  have hbV : Below w4.heap.size w4 ((w4.alloc (.cells #[.int .i64 0, .int .i64 0, .slice none 0 0, .int .i64 0, .slice none 0 0, .int .i64 0, .slice none 0 0, .int .i64 0, .int .i64 0, .int .i64 0, .slice none 0 0, .bool false, .bool false] 43)).setRow w4.heap.size #[.int .i64 d.reg.lim, .int .i64 d.reg.top, .slice ea8 d.reg.es.length ep8, .int .i64 d.inr, .slice ia8 d.inT.length ip8, .int .i64 d.outr, .slice oa8 d.outT.length op8, .int .i64 d.get, .int .i64 d.give, .int .i64 d.first, .slice fa8 d.flows.length fp8, .bool d.away, .bool d.dead]) := below_setRow ((Below.refl _ _).alloc (Nat.le_refl _) _) (Nat.le_refl _) #[.int .i64 d.reg.lim, .int .i64 d.reg.top, .slice ea8 d.reg.es.length ep8, .int .i64 d.inr, .slice ia8 d.inT.length ip8, .int .i64 d.outr, .slice oa8 d.outT.length op8, .int .i64 d.get, .int .i64 d.give, .int .i64 d.first, .slice fa8 d.flows.length fp8, .bool d.away, .bool d.dead]
  replace HBS := hide (bchain HBS.out hbV)
  replace O8 := hide (O8.out.new hbV)
  clear hbV
  have B8 := hide B80
  clear B80
  generalize hV : (w4.alloc (.cells #[.int .i64 0, .int .i64 0, .slice none 0 0, .int .i64 0, .slice none 0 0, .int .i64 0, .slice none 0 0, .int .i64 0, .int .i64 0, .int .i64 0, .slice none 0 0, .bool false, .bool false] 43)).setRow w4.heap.size #[.int .i64 d.reg.lim, .int .i64 d.reg.top, .slice ea8 d.reg.es.length ep8, .int .i64 d.inr, .slice ia8 d.inT.length ip8, .int .i64 d.outr, .slice oa8 d.outT.length op8, .int .i64 d.get, .int .i64 d.give, .int .i64 d.first, .slice fa8 d.flows.length fp8, .bool d.away, .bool d.dead] = w5 at *
  clear hV
  generalize w4.heap.size = g8 at *
  have N8 : Hid (∀ b ∈ bs8, b < g8) := HT8.out
  have HG8 := hide B8.out.lt
  have HGW := hide HBS.out.size
  clear HT8
  have HB := hide (bchain HBo.out HBS.out)
  have RX := hide (RXo.out.new HBS.out)
  have BS := hide (BSo.out.new HBS.out)
  have CS := hide (CSo.out.new HBS.out)
  have RS := hide (RSo.out.new HBS.out)
  have RF := hide (RFo.out.new HBS.out)
  go_upto_region 10 with fail
  try simp only [Act.put, List.getElem_toArray, List.getElem_cons_succ, List.getElem_cons_zero, List.setIfInBounds_toArray, List.set_cons_zero, List.set_cons_succ]
  go_cut [9, 10] (fun p v wc => ∃ gx eaI epI iaI ipI oaI opI faI fpI fraI frpI bsI, p = .pointer (some ⟨gx, 0, none⟩) ∧ v = .slice fraI L.length frpI ∧ Hid (RowIs wc gx 43 [.int .i64 D.reg.lim, .int .i64 D.reg.top, .slice eaI D.reg.es.length epI, .int .i64 D.inr, .slice iaI D.inT.length ipI, .int .i64 D.outr, .slice oaI D.outT.length opI, .int .i64 D.get, .int .i64 D.give, .int .i64 D.first, .slice faI D.flows.length fpI, .bool D.away, .bool D.dead]) ∧ Hid (CnOw wc bsI D (.slice eaI D.reg.es.length epI) (.slice iaI D.inT.length ipI) (.slice oaI D.outT.length opI) (.slice faI D.flows.length fpI)) ∧ Hid (∀ b ∈ bsI, w5.heap.size ≤ b) ∧ Hid (wc.ownsRow w5.heap.size 48 4 (.slice fraI L.length frpI) L.length (fr L)) ∧ Hid (∀ q, (Value.slice fraI L.length frpI).ownBlock = some q → q ∉ bsI) ∧ Hid (gx ∉ bsI ∧ ∀ q, (Value.slice fraI L.length frpI).ownBlock = some q → q ≠ gx) ∧ Hid (w5.heap.size ≤ gx) ∧ Hid (Below w5.heap.size w5 wc))
  case first =>
    have HBQ := HB
    go_wp2_with fail
    refine wp_region_held_drew (S := (fun u => Below w5.heap.size w5 u)) (by kernel_rfl) ((Below.refl _ _).drew) (fun hS => ?_)
    generalize World.drew w5 = u0 at hS ⊢
    refine wpAnyH_take (i := 0) (v := .agg #[.int .i64 d.reg.lim, .int .i64 d.reg.top, .slice ea8 d.reg.es.length ep8, .int .i64 d.inr, .slice ia8 d.inT.length ip8, .int .i64 d.outr, .slice oa8 d.outT.length op8, .int .i64 d.get, .int .i64 d.give, .int .i64 d.first, .slice fa8 d.flows.length fp8, .bool d.away, .bool d.dead]) rfl (by kernel_rfl) (by kernel_rfl) (by kernel_rfl) (fun _ _ _ h => h) (Or.inl ⟨by kernel_rfl, ?ld⟩) hS ?_; case ld => (intro uu hu; have l0 := (B8.out.new hu).cell (j := 0) rfl; have l1 := (B8.out.new hu).cell (j := 1) rfl; have l2 := (B8.out.new hu).cell (j := 2) rfl; have l3 := (B8.out.new hu).cell (j := 3) rfl; have l4 := (B8.out.new hu).cell (j := 4) rfl; have l5 := (B8.out.new hu).cell (j := 5) rfl; have l6 := (B8.out.new hu).cell (j := 6) rfl; have l7 := (B8.out.new hu).cell (j := 7) rfl; have l8 := (B8.out.new hu).cell (j := 8) rfl; have l9 := (B8.out.new hu).cell (j := 9) rfl; have l10 := (B8.out.new hu).cell (j := 10) rfl; have l11 := (B8.out.new hu).cell (j := 11) rfl; have l12 := (B8.out.new hu).cell (j := 12) rfl; have ll := (B8.out.new hu).lt; clear hu; go_simp)
    try simp only [Act.put, List.getElem_toArray, List.getElem_cons_succ, List.getElem_cons_zero, List.setIfInBounds_toArray, List.set_cons_zero, List.set_cons_succ]
    refine wpAnyH_take (i := 1) (v := .agg #[.int .i64 f.k, .int .i64 f.fl, .int .i64 f.st, .string f.b]) rfl (by kernel_rfl) (by kernel_rfl) (by kernel_rfl) (fun _ _ _ h => h) (Or.inl ⟨by kernel_rfl, ?ld⟩) hS ?_; case ld => (intro uu hu; have l0 := (RF.out.new hu).cell (j := 0) rfl; have l1 := (RF.out.new hu).cell (j := 1) rfl; have l2 := (RF.out.new hu).cell (j := 2) rfl; have l3 := (RF.out.new hu).cell (j := 3) rfl; have ll := (RF.out.new hu).lt; clear hu; go_simp)
    try simp only [Act.put, List.getElem_toArray, List.getElem_cons_succ, List.getElem_cons_zero, List.setIfInBounds_toArray, List.set_cons_zero, List.set_cons_succ]
    refine wpAnyH_ready (rs := [2, 7]) (by kernel_rfl) (by simp) ?_
    refine (AllReadyH.cons rfl (fun K hK => ?_) (AllReadyH.cons rfl (fun K hK => ?_) AllReadyH.nil))
    · skip
      rw [if_pos (by kernel_rfl)]
      go_simp
      refine (toFrame1 f.k f.fl f.st f.b _).mono ?_; rintro x u1 ⟨rfl, hbu1⟩
      refine hK.out _ _ (bchain hS hbu1) (fun hS => ?_)
      clear hK K hbu1
      try simp only [Act.put, List.getElem_toArray, List.getElem_cons_succ, List.getElem_cons_zero, List.setIfInBounds_toArray, List.set_cons_zero, List.set_cons_succ]
      refine wpAnyH_ready (rs := [3, 7]) (by kernel_rfl) (by simp) ?_
      refine (AllReadyH.cons rfl (fun K hK => ?_) (AllReadyH.cons rfl (fun K hK => ?_) AllReadyH.nil))
      · skip
        rw [if_pos (by kernel_rfl)]
        go_simp
        refine (show Calls _ _ #[cnv d _ _ _ _, frv f] _ _ from Himpl.out _ _ _ _ _ (O8.out.new hS).rd).mono ?_
        rintro x u2 ⟨v, vfr, rfl, ⟨ue, ui, uo, uf, bsI, hveq, ho, hlo, hfo, hfa⟩, hbu2⟩
        subst hveq
        obtain ⟨fraI, frpI, hfe, _, _⟩ := owns_form hfo
        subst hfe
        have hsz9 := hS.size
        have OI := hide ho
        have LOI : Hid (∀ b ∈ bsI, w5.heap.size ≤ b) := fun b hb => Nat.le_trans hsz9 (hlo b hb)
        have FI := hide (owns_base hfo (fun q hq => Nat.le_trans hsz9 (hfo.lt q hq).1))
        have FAI := hide hfa
        clear ho hlo hfo hfa hsz9
        obtain ⟨eaI, epI, heI, _, _⟩ := OI.out.rd.e.form
        subst heI
        obtain ⟨iaI, ipI, hiI, _, _⟩ := OI.out.rd.i.form
        subst hiI
        obtain ⟨oaI, opI, hoI, _, _⟩ := OI.out.rd.o.form
        subst hoI
        obtain ⟨faI, fpI, hfI, _, _⟩ := OI.out.rd.f.form
        subst hfI
        dsimp only [cnv]
        refine hK.out _ _ (bchain hS hbu2) (fun hS => ?_)
        clear hK K hbu2
        try simp only [Act.put, List.getElem_toArray, List.getElem_cons_succ, List.getElem_cons_zero, List.setIfInBounds_toArray, List.set_cons_zero, List.set_cons_succ]
        refine wpAnyH_take (i := 4) (v := ?_) rfl (by kernel_rfl) (by kernel_rfl) (by kernel_rfl) (fun _ _ _ h => h) (Or.inl ⟨by kernel_rfl, ?_⟩) hS ?_; rotate_left; focus (intro uu hu; clear hu; go_simp; try with_reducible rfl)
        try simp only [Act.put, List.getElem_toArray, List.getElem_cons_succ, List.getElem_cons_zero, List.setIfInBounds_toArray, List.set_cons_zero, List.set_cons_succ]
        refine wpAnyH_take (i := 5) (v := ?_) rfl (by kernel_rfl) (by kernel_rfl) (by kernel_rfl) (fun _ _ _ h => h) (Or.inl ⟨by kernel_rfl, ?_⟩) hS ?_; rotate_left; focus (intro uu hu; clear hu; go_simp; try with_reducible rfl)
        try simp only [Act.put, List.getElem_toArray, List.getElem_cons_succ, List.getElem_cons_zero, List.setIfInBounds_toArray, List.set_cons_zero, List.set_cons_succ]
        refine wpAnyH_take (i := 6) (v := ?_) rfl (by kernel_rfl) (by kernel_rfl) (by kernel_rfl) (fun _ _ _ h => h) (Or.inl ⟨by kernel_rfl, ?_⟩) hS ?_; rotate_left; focus (intro uu hu; clear hu; go_simp; try with_reducible rfl)
        try simp only [Act.put, List.getElem_toArray, List.getElem_cons_succ, List.getElem_cons_zero, List.setIfInBounds_toArray, List.set_cons_zero, List.set_cons_succ]
        refine wpAnyH_ready (rs := [7]) (by kernel_rfl) (by simp) ?_
        refine (AllReadyH.cons rfl (fun K hK => ?_) AllReadyH.nil)
        rw [if_pos (by kernel_rfl)]
        go_simp
        obtain ⟨u3, hu3⟩ : ∃ u, u2.alloc (.cells #[.int .i64 0, .int .i64 0, .slice none 0 0, .int .i64 0, .slice none 0 0, .int .i64 0, .slice none 0 0, .int .i64 0, .int .i64 0, .int .i64 0, .slice none 0 0, .bool false, .bool false] 43) = u := ⟨_, rfl⟩
        have hbu3 : Below u2.heap.size u2 u3 := by rw [← hu3]; exact (Below.refl _ _).alloc (Nat.le_refl _) _
        obtain ⟨gx, hgx⟩ : ∃ q, q = u2.heap.size := ⟨_, rfl⟩
        have HBX : Hid (RowIs u3 gx 43 [.int .i64 0, .int .i64 0, .slice none 0 0, .int .i64 0, .slice none 0 0, .int .i64 0, .slice none 0 0, .int .i64 0, .int .i64 0, .int .i64 0, .slice none 0 0, .bool false, .bool false]) := by show _; rw [← hu3, hgx]; exact rowIs_new _ _ _
        have HGX : Hid (w5.heap.size ≤ gx) := by show _ ≤ _; have := hS.size; omega
        have GOI : Hid (gx ∉ bsI ∧ ∀ q, (Value.slice fraI L.length frpI).ownBlock = some q → q ≠ gx) := ⟨fun hx => by have h1 := OI.out.lt gx hx; omega, fun q hq e => by have h1 := (FI.out.lt q hq).2; omega⟩
        replace OI := hide (OI.out.new hbu3)
        replace FI := hide (owns_new FI.out hbu3)
        rw [hu3, ← hgx]
        refine hK.out _ _ (bchain hS hbu3) (fun hS => ?_)
        clear hu3 hgx hbu3 hK K
        try simp only [Act.put, List.getElem_toArray, List.getElem_cons_succ, List.getElem_cons_zero, List.setIfInBounds_toArray, List.set_cons_zero, List.set_cons_succ]
        refine wpAnyH_ready (rs := [8]) (by kernel_rfl) (by simp) ?_
        refine (AllReadyH.cons rfl (fun K hK => ?_) AllReadyH.nil)
        rw [if_pos (by kernel_rfl)]
        refine wp_store_row 43 (.tmp 9) (.tmp 41) rfl gx #[.int .i64 D.reg.lim, .int .i64 D.reg.top, .slice eaI D.reg.es.length epI, .int .i64 D.inr, .slice iaI D.inT.length ipI, .int .i64 D.outr, .slice oaI D.outT.length opI, .int .i64 D.get, .int .i64 D.give, .int .i64 D.first, .slice faI D.flows.length fpI, .bool D.away, .bool D.dead] rfl rfl 43 #[.int .i64 0, .int .i64 0, .slice none 0 0, .int .i64 0, .slice none 0 0, .int .i64 0, .slice none 0 0, .int .i64 0, .int .i64 0, .int .i64 0, .slice none 0 0, .bool false, .bool false] HBX.out (by kernel_rfl) rfl (by simp [Value.oneCell']) ?_
        have HB5 := hide (rowIs_setRow (cs' := [.int .i64 D.reg.lim, .int .i64 D.reg.top, .slice eaI D.reg.es.length epI, .int .i64 D.inr, .slice iaI D.inT.length ipI, .int .i64 D.outr, .slice oaI D.outT.length opI, .int .i64 D.get, .int .i64 D.give, .int .i64 D.first, .slice faI D.flows.length fpI, .bool D.away, .bool D.dead]) HBX.out)
        have hS5 := below_setRow hS HGX.out #[.int .i64 D.reg.lim, .int .i64 D.reg.top, .slice eaI D.reg.es.length epI, .int .i64 D.inr, .slice iaI D.inT.length ipI, .int .i64 D.outr, .slice oaI D.outT.length opI, .int .i64 D.get, .int .i64 D.give, .int .i64 D.first, .slice faI D.flows.length fpI, .bool D.away, .bool D.dead]
        replace OI := hide (OI.out.keep (by rw [setRow_size]; exact Nat.le_refl _) (fun b hb => setRow_other u3 gx #[.int .i64 D.reg.lim, .int .i64 D.reg.top, .slice eaI D.reg.es.length epI, .int .i64 D.inr, .slice iaI D.inT.length ipI, .int .i64 D.outr, .slice oaI D.outT.length opI, .int .i64 D.get, .int .i64 D.give, .int .i64 D.first, .slice faI D.flows.length fpI, .bool D.away, .bool D.dead] b (fun e => GOI.out.1 (e ▸ hb))))
        replace FI := hide (owns_kept FI.out (fun q hq hl => setRow_other u3 gx #[.int .i64 D.reg.lim, .int .i64 D.reg.top, .slice eaI D.reg.es.length epI, .int .i64 D.inr, .slice iaI D.inT.length ipI, .int .i64 D.outr, .slice oaI D.outT.length opI, .int .i64 D.get, .int .i64 D.give, .int .i64 D.first, .slice faI D.flows.length fpI, .bool D.away, .bool D.dead] q (GOI.out.2 q hq)))
        clear HBX
        have HBX := HB5
        clear HB5
        generalize u3.setRow gx #[.int .i64 D.reg.lim, .int .i64 D.reg.top, .slice eaI D.reg.es.length epI, .int .i64 D.inr, .slice iaI D.inT.length ipI, .int .i64 D.outr, .slice oaI D.outT.length opI, .int .i64 D.get, .int .i64 D.give, .int .i64 D.first, .slice faI D.flows.length fpI, .bool D.away, .bool D.dead] = u4 at *
        refine hK.out _ _ hS5 (fun hS => ?_)
        clear hK K hS5
        try simp only [Act.put, List.getElem_toArray, List.getElem_cons_succ, List.getElem_cons_zero, List.setIfInBounds_toArray, List.set_cons_zero, List.set_cons_succ]
        refine wpAnyH_take (i := 9) (v := ?_) rfl (by kernel_rfl) (by kernel_rfl) (by kernel_rfl) (fun _ _ _ h => h) (Or.inl ⟨by kernel_rfl, ?_⟩) hS ?_; rotate_left; focus (intro uu hu; clear hu; go_simp; try with_reducible rfl)
        try simp only [Act.put, List.getElem_toArray, List.getElem_cons_succ, List.getElem_cons_zero, List.setIfInBounds_toArray, List.set_cons_zero, List.set_cons_succ]
        refine wpAnyH_done (by kernel_rfl) ?_ _
        go_wp2_with fail
        go_meet
        exact ⟨gx, _, _, _, _, _, _, _, _, _, _, bsI, rfl, rfl, HBX, OI, LOI, FI, FAI, GOI, HGX, hS⟩
      · skip
        rw [if_pos (by kernel_rfl)]
        go_simp
        obtain ⟨u5, hu5⟩ : ∃ u, u1.alloc (.cells #[.int .i64 0, .int .i64 0, .slice none 0 0, .int .i64 0, .slice none 0 0, .int .i64 0, .slice none 0 0, .int .i64 0, .int .i64 0, .int .i64 0, .slice none 0 0, .bool false, .bool false] 43) = u := ⟨_, rfl⟩
        have hbu5 : Below u1.heap.size u1 u5 := by rw [← hu5]; exact (Below.refl _ _).alloc (Nat.le_refl _) _
        obtain ⟨gx, hgx⟩ : ∃ q, q = u1.heap.size := ⟨_, rfl⟩
        have HBX : Hid (RowIs u5 gx 43 [.int .i64 0, .int .i64 0, .slice none 0 0, .int .i64 0, .slice none 0 0, .int .i64 0, .slice none 0 0, .int .i64 0, .int .i64 0, .int .i64 0, .slice none 0 0, .bool false, .bool false]) := by show _; rw [← hu5, hgx]; exact rowIs_new _ _ _
        have HGX : Hid (w5.heap.size ≤ gx) := by show _ ≤ _; have := hS.size; omega
        rw [hu5, ← hgx]
        refine hK.out _ _ (bchain hS hbu5) (fun hS => ?_)
        clear hu5 hgx hbu5 hK K
        try simp only [Act.put, List.getElem_toArray, List.getElem_cons_succ, List.getElem_cons_zero, List.setIfInBounds_toArray, List.set_cons_zero, List.set_cons_succ]
        refine wpAnyH_ready (rs := [3]) (by kernel_rfl) (by simp) ?_
        refine (AllReadyH.cons rfl (fun K hK => ?_) AllReadyH.nil)
        rw [if_pos (by kernel_rfl)]
        go_simp
        refine (show Calls _ _ #[cnv d _ _ _ _, frv f] _ _ from Himpl.out _ _ _ _ _ (O8.out.new hS).rd).mono ?_
        rintro x u6 ⟨v, vfr, rfl, ⟨ue, ui, uo, uf, bsI, hveq, ho, hlo, hfo, hfa⟩, hbu6⟩
        subst hveq
        obtain ⟨fraI, frpI, hfe, _, _⟩ := owns_form hfo
        subst hfe
        have hsz9 := hS.size
        have OI := hide ho
        have LOI : Hid (∀ b ∈ bsI, w5.heap.size ≤ b) := fun b hb => Nat.le_trans hsz9 (hlo b hb)
        have FI := hide (owns_base hfo (fun q hq => Nat.le_trans hsz9 (hfo.lt q hq).1))
        have FAI := hide hfa
        have GOI : Hid (gx ∉ bsI ∧ ∀ q, (Value.slice fraI L.length frpI).ownBlock = some q → q ≠ gx) := ⟨fun hx => by have h1 := hlo gx hx; have := HBX.out.lt; omega, fun q hq e => by have h1 := (hfo.lt q hq).1; have := HBX.out.lt; omega⟩
        clear ho hlo hfo hfa hsz9
        replace HBX := hide (HBX.out.new hbu6)
        obtain ⟨eaI, epI, heI, _, _⟩ := OI.out.rd.e.form
        subst heI
        obtain ⟨iaI, ipI, hiI, _, _⟩ := OI.out.rd.i.form
        subst hiI
        obtain ⟨oaI, opI, hoI, _, _⟩ := OI.out.rd.o.form
        subst hoI
        obtain ⟨faI, fpI, hfI, _, _⟩ := OI.out.rd.f.form
        subst hfI
        dsimp only [cnv]
        refine hK.out _ _ (bchain hS hbu6) (fun hS => ?_)
        clear hK K hbu6
        try simp only [Act.put, List.getElem_toArray, List.getElem_cons_succ, List.getElem_cons_zero, List.setIfInBounds_toArray, List.set_cons_zero, List.set_cons_succ]
        refine wpAnyH_take (i := 4) (v := ?_) rfl (by kernel_rfl) (by kernel_rfl) (by kernel_rfl) (fun _ _ _ h => h) (Or.inl ⟨by kernel_rfl, ?_⟩) hS ?_; rotate_left; focus (intro uu hu; clear hu; go_simp; try with_reducible rfl)
        try simp only [Act.put, List.getElem_toArray, List.getElem_cons_succ, List.getElem_cons_zero, List.setIfInBounds_toArray, List.set_cons_zero, List.set_cons_succ]
        refine wpAnyH_take (i := 5) (v := ?_) rfl (by kernel_rfl) (by kernel_rfl) (by kernel_rfl) (fun _ _ _ h => h) (Or.inl ⟨by kernel_rfl, ?_⟩) hS ?_; rotate_left; focus (intro uu hu; clear hu; go_simp; try with_reducible rfl)
        try simp only [Act.put, List.getElem_toArray, List.getElem_cons_succ, List.getElem_cons_zero, List.setIfInBounds_toArray, List.set_cons_zero, List.set_cons_succ]
        refine wpAnyH_take (i := 6) (v := ?_) rfl (by kernel_rfl) (by kernel_rfl) (by kernel_rfl) (fun _ _ _ h => h) (Or.inl ⟨by kernel_rfl, ?_⟩) hS ?_; rotate_left; focus (intro uu hu; clear hu; go_simp; try with_reducible rfl)
        try simp only [Act.put, List.getElem_toArray, List.getElem_cons_succ, List.getElem_cons_zero, List.setIfInBounds_toArray, List.set_cons_zero, List.set_cons_succ]
        refine wpAnyH_ready (rs := [8]) (by kernel_rfl) (by simp) ?_
        refine (AllReadyH.cons rfl (fun K hK => ?_) AllReadyH.nil)
        rw [if_pos (by kernel_rfl)]
        refine wp_store_row 43 (.tmp 9) (.tmp 41) rfl gx #[.int .i64 D.reg.lim, .int .i64 D.reg.top, .slice eaI D.reg.es.length epI, .int .i64 D.inr, .slice iaI D.inT.length ipI, .int .i64 D.outr, .slice oaI D.outT.length opI, .int .i64 D.get, .int .i64 D.give, .int .i64 D.first, .slice faI D.flows.length fpI, .bool D.away, .bool D.dead] rfl rfl 43 #[.int .i64 0, .int .i64 0, .slice none 0 0, .int .i64 0, .slice none 0 0, .int .i64 0, .slice none 0 0, .int .i64 0, .int .i64 0, .int .i64 0, .slice none 0 0, .bool false, .bool false] HBX.out (by kernel_rfl) rfl (by simp [Value.oneCell']) ?_
        have HB5 := hide (rowIs_setRow (cs' := [.int .i64 D.reg.lim, .int .i64 D.reg.top, .slice eaI D.reg.es.length epI, .int .i64 D.inr, .slice iaI D.inT.length ipI, .int .i64 D.outr, .slice oaI D.outT.length opI, .int .i64 D.get, .int .i64 D.give, .int .i64 D.first, .slice faI D.flows.length fpI, .bool D.away, .bool D.dead]) HBX.out)
        have hS5 := below_setRow hS HGX.out #[.int .i64 D.reg.lim, .int .i64 D.reg.top, .slice eaI D.reg.es.length epI, .int .i64 D.inr, .slice iaI D.inT.length ipI, .int .i64 D.outr, .slice oaI D.outT.length opI, .int .i64 D.get, .int .i64 D.give, .int .i64 D.first, .slice faI D.flows.length fpI, .bool D.away, .bool D.dead]
        replace OI := hide (OI.out.keep (by rw [setRow_size]; exact Nat.le_refl _) (fun b hb => setRow_other u6 gx #[.int .i64 D.reg.lim, .int .i64 D.reg.top, .slice eaI D.reg.es.length epI, .int .i64 D.inr, .slice iaI D.inT.length ipI, .int .i64 D.outr, .slice oaI D.outT.length opI, .int .i64 D.get, .int .i64 D.give, .int .i64 D.first, .slice faI D.flows.length fpI, .bool D.away, .bool D.dead] b (fun e => GOI.out.1 (e ▸ hb))))
        replace FI := hide (owns_kept FI.out (fun q hq hl => setRow_other u6 gx #[.int .i64 D.reg.lim, .int .i64 D.reg.top, .slice eaI D.reg.es.length epI, .int .i64 D.inr, .slice iaI D.inT.length ipI, .int .i64 D.outr, .slice oaI D.outT.length opI, .int .i64 D.get, .int .i64 D.give, .int .i64 D.first, .slice faI D.flows.length fpI, .bool D.away, .bool D.dead] q (GOI.out.2 q hq)))
        clear HBX
        have HBX := HB5
        clear HB5
        generalize u6.setRow gx #[.int .i64 D.reg.lim, .int .i64 D.reg.top, .slice eaI D.reg.es.length epI, .int .i64 D.inr, .slice iaI D.inT.length ipI, .int .i64 D.outr, .slice oaI D.outT.length opI, .int .i64 D.get, .int .i64 D.give, .int .i64 D.first, .slice faI D.flows.length fpI, .bool D.away, .bool D.dead] = u7 at *
        refine hK.out _ _ hS5 (fun hS => ?_)
        clear hK K hS5
        try simp only [Act.put, List.getElem_toArray, List.getElem_cons_succ, List.getElem_cons_zero, List.setIfInBounds_toArray, List.set_cons_zero, List.set_cons_succ]
        refine wpAnyH_take (i := 9) (v := ?_) rfl (by kernel_rfl) (by kernel_rfl) (by kernel_rfl) (fun _ _ _ h => h) (Or.inl ⟨by kernel_rfl, ?_⟩) hS ?_; rotate_left; focus (intro uu hu; clear hu; go_simp; try with_reducible rfl)
        try simp only [Act.put, List.getElem_toArray, List.getElem_cons_succ, List.getElem_cons_zero, List.setIfInBounds_toArray, List.set_cons_zero, List.set_cons_succ]
        refine wpAnyH_done (by kernel_rfl) ?_ _
        go_wp2_with fail
        go_meet
        exact ⟨gx, _, _, _, _, _, _, _, _, _, _, bsI, rfl, rfl, HBX, OI, LOI, FI, FAI, GOI, HGX, hS⟩
    · skip
      rw [if_pos (by kernel_rfl)]
      go_simp
      obtain ⟨u8, hu8⟩ : ∃ u, u0.alloc (.cells #[.int .i64 0, .int .i64 0, .slice none 0 0, .int .i64 0, .slice none 0 0, .int .i64 0, .slice none 0 0, .int .i64 0, .int .i64 0, .int .i64 0, .slice none 0 0, .bool false, .bool false] 43) = u := ⟨_, rfl⟩
      have hbu8 : Below u0.heap.size u0 u8 := by rw [← hu8]; exact (Below.refl _ _).alloc (Nat.le_refl _) _
      obtain ⟨gx, hgx⟩ : ∃ q, q = u0.heap.size := ⟨_, rfl⟩
      have HBX : Hid (RowIs u8 gx 43 [.int .i64 0, .int .i64 0, .slice none 0 0, .int .i64 0, .slice none 0 0, .int .i64 0, .slice none 0 0, .int .i64 0, .int .i64 0, .int .i64 0, .slice none 0 0, .bool false, .bool false]) := by show _; rw [← hu8, hgx]; exact rowIs_new _ _ _
      have HGX : Hid (w5.heap.size ≤ gx) := by show _ ≤ _; have := hS.size; omega
      rw [hu8, ← hgx]
      refine hK.out _ _ (bchain hS hbu8) (fun hS => ?_)
      clear hu8 hgx hbu8 hK K
      try simp only [Act.put, List.getElem_toArray, List.getElem_cons_succ, List.getElem_cons_zero, List.setIfInBounds_toArray, List.set_cons_zero, List.set_cons_succ]
      refine wpAnyH_ready (rs := [2]) (by kernel_rfl) (by simp) ?_
      refine (AllReadyH.cons rfl (fun K hK => ?_) AllReadyH.nil)
      rw [if_pos (by kernel_rfl)]
      go_simp
      refine (toFrame1 f.k f.fl f.st f.b _).mono ?_; rintro x u9 ⟨rfl, hbu9⟩
      replace HBX := hide (HBX.out.new hbu9)
      refine hK.out _ _ (bchain hS hbu9) (fun hS => ?_)
      clear hK K hbu9
      try simp only [Act.put, List.getElem_toArray, List.getElem_cons_succ, List.getElem_cons_zero, List.setIfInBounds_toArray, List.set_cons_zero, List.set_cons_succ]
      refine wpAnyH_ready (rs := [3]) (by kernel_rfl) (by simp) ?_
      refine (AllReadyH.cons rfl (fun K hK => ?_) AllReadyH.nil)
      rw [if_pos (by kernel_rfl)]
      go_simp
      refine (show Calls _ _ #[cnv d _ _ _ _, frv f] _ _ from Himpl.out _ _ _ _ _ (O8.out.new hS).rd).mono ?_
      rintro x u10 ⟨v, vfr, rfl, ⟨ue, ui, uo, uf, bsI, hveq, ho, hlo, hfo, hfa⟩, hbu10⟩
      subst hveq
      obtain ⟨fraI, frpI, hfe, _, _⟩ := owns_form hfo
      subst hfe
      have hsz9 := hS.size
      have OI := hide ho
      have LOI : Hid (∀ b ∈ bsI, w5.heap.size ≤ b) := fun b hb => Nat.le_trans hsz9 (hlo b hb)
      have FI := hide (owns_base hfo (fun q hq => Nat.le_trans hsz9 (hfo.lt q hq).1))
      have FAI := hide hfa
      have GOI : Hid (gx ∉ bsI ∧ ∀ q, (Value.slice fraI L.length frpI).ownBlock = some q → q ≠ gx) := ⟨fun hx => by have h1 := hlo gx hx; have := HBX.out.lt; omega, fun q hq e => by have h1 := (hfo.lt q hq).1; have := HBX.out.lt; omega⟩
      clear ho hlo hfo hfa hsz9
      replace HBX := hide (HBX.out.new hbu10)
      obtain ⟨eaI, epI, heI, _, _⟩ := OI.out.rd.e.form
      subst heI
      obtain ⟨iaI, ipI, hiI, _, _⟩ := OI.out.rd.i.form
      subst hiI
      obtain ⟨oaI, opI, hoI, _, _⟩ := OI.out.rd.o.form
      subst hoI
      obtain ⟨faI, fpI, hfI, _, _⟩ := OI.out.rd.f.form
      subst hfI
      dsimp only [cnv]
      refine hK.out _ _ (bchain hS hbu10) (fun hS => ?_)
      clear hK K hbu10
      try simp only [Act.put, List.getElem_toArray, List.getElem_cons_succ, List.getElem_cons_zero, List.setIfInBounds_toArray, List.set_cons_zero, List.set_cons_succ]
      refine wpAnyH_take (i := 4) (v := ?_) rfl (by kernel_rfl) (by kernel_rfl) (by kernel_rfl) (fun _ _ _ h => h) (Or.inl ⟨by kernel_rfl, ?_⟩) hS ?_; rotate_left; focus (intro uu hu; clear hu; go_simp; try with_reducible rfl)
      try simp only [Act.put, List.getElem_toArray, List.getElem_cons_succ, List.getElem_cons_zero, List.setIfInBounds_toArray, List.set_cons_zero, List.set_cons_succ]
      refine wpAnyH_take (i := 5) (v := ?_) rfl (by kernel_rfl) (by kernel_rfl) (by kernel_rfl) (fun _ _ _ h => h) (Or.inl ⟨by kernel_rfl, ?_⟩) hS ?_; rotate_left; focus (intro uu hu; clear hu; go_simp; try with_reducible rfl)
      try simp only [Act.put, List.getElem_toArray, List.getElem_cons_succ, List.getElem_cons_zero, List.setIfInBounds_toArray, List.set_cons_zero, List.set_cons_succ]
      refine wpAnyH_take (i := 6) (v := ?_) rfl (by kernel_rfl) (by kernel_rfl) (by kernel_rfl) (fun _ _ _ h => h) (Or.inl ⟨by kernel_rfl, ?_⟩) hS ?_; rotate_left; focus (intro uu hu; clear hu; go_simp; try with_reducible rfl)
      try simp only [Act.put, List.getElem_toArray, List.getElem_cons_succ, List.getElem_cons_zero, List.setIfInBounds_toArray, List.set_cons_zero, List.set_cons_succ]
      refine wpAnyH_ready (rs := [8]) (by kernel_rfl) (by simp) ?_
      refine (AllReadyH.cons rfl (fun K hK => ?_) AllReadyH.nil)
      rw [if_pos (by kernel_rfl)]
      refine wp_store_row 43 (.tmp 9) (.tmp 41) rfl gx #[.int .i64 D.reg.lim, .int .i64 D.reg.top, .slice eaI D.reg.es.length epI, .int .i64 D.inr, .slice iaI D.inT.length ipI, .int .i64 D.outr, .slice oaI D.outT.length opI, .int .i64 D.get, .int .i64 D.give, .int .i64 D.first, .slice faI D.flows.length fpI, .bool D.away, .bool D.dead] rfl rfl 43 #[.int .i64 0, .int .i64 0, .slice none 0 0, .int .i64 0, .slice none 0 0, .int .i64 0, .slice none 0 0, .int .i64 0, .int .i64 0, .int .i64 0, .slice none 0 0, .bool false, .bool false] HBX.out (by kernel_rfl) rfl (by simp [Value.oneCell']) ?_
      have HB5 := hide (rowIs_setRow (cs' := [.int .i64 D.reg.lim, .int .i64 D.reg.top, .slice eaI D.reg.es.length epI, .int .i64 D.inr, .slice iaI D.inT.length ipI, .int .i64 D.outr, .slice oaI D.outT.length opI, .int .i64 D.get, .int .i64 D.give, .int .i64 D.first, .slice faI D.flows.length fpI, .bool D.away, .bool D.dead]) HBX.out)
      have hS5 := below_setRow hS HGX.out #[.int .i64 D.reg.lim, .int .i64 D.reg.top, .slice eaI D.reg.es.length epI, .int .i64 D.inr, .slice iaI D.inT.length ipI, .int .i64 D.outr, .slice oaI D.outT.length opI, .int .i64 D.get, .int .i64 D.give, .int .i64 D.first, .slice faI D.flows.length fpI, .bool D.away, .bool D.dead]
      replace OI := hide (OI.out.keep (by rw [setRow_size]; exact Nat.le_refl _) (fun b hb => setRow_other u10 gx #[.int .i64 D.reg.lim, .int .i64 D.reg.top, .slice eaI D.reg.es.length epI, .int .i64 D.inr, .slice iaI D.inT.length ipI, .int .i64 D.outr, .slice oaI D.outT.length opI, .int .i64 D.get, .int .i64 D.give, .int .i64 D.first, .slice faI D.flows.length fpI, .bool D.away, .bool D.dead] b (fun e => GOI.out.1 (e ▸ hb))))
      replace FI := hide (owns_kept FI.out (fun q hq hl => setRow_other u10 gx #[.int .i64 D.reg.lim, .int .i64 D.reg.top, .slice eaI D.reg.es.length epI, .int .i64 D.inr, .slice iaI D.inT.length ipI, .int .i64 D.outr, .slice oaI D.outT.length opI, .int .i64 D.get, .int .i64 D.give, .int .i64 D.first, .slice faI D.flows.length fpI, .bool D.away, .bool D.dead] q (GOI.out.2 q hq)))
      clear HBX
      have HBX := HB5
      clear HB5
      generalize u10.setRow gx #[.int .i64 D.reg.lim, .int .i64 D.reg.top, .slice eaI D.reg.es.length epI, .int .i64 D.inr, .slice iaI D.inT.length ipI, .int .i64 D.outr, .slice oaI D.outT.length opI, .int .i64 D.get, .int .i64 D.give, .int .i64 D.first, .slice faI D.flows.length fpI, .bool D.away, .bool D.dead] = u11 at *
      refine hK.out _ _ hS5 (fun hS => ?_)
      clear hK K hS5
      try simp only [Act.put, List.getElem_toArray, List.getElem_cons_succ, List.getElem_cons_zero, List.setIfInBounds_toArray, List.set_cons_zero, List.set_cons_succ]
      refine wpAnyH_take (i := 9) (v := ?_) rfl (by kernel_rfl) (by kernel_rfl) (by kernel_rfl) (fun _ _ _ h => h) (Or.inl ⟨by kernel_rfl, ?_⟩) hS ?_; rotate_left; focus (intro uu hu; clear hu; go_simp; try with_reducible rfl)
      try simp only [Act.put, List.getElem_toArray, List.getElem_cons_succ, List.getElem_cons_zero, List.setIfInBounds_toArray, List.set_cons_zero, List.set_cons_succ]
      refine wpAnyH_done (by kernel_rfl) ?_ _
      go_wp2_with fail
      go_meet
      exact ⟨gx, _, _, _, _, _, _, _, _, _, _, bsI, rfl, rfl, HBX, OI, LOI, FI, FAI, GOI, HGX, hS⟩
  obtain ⟨gI, eaI, epI, iaI, ipI, oaI, opI, faI, fpI, fraI, frpI, bsI, rfl, rfl, BI, OI, LOI, FI, FAI, GOI, GLI, hbc0⟩ := hcut
  have hb := hbc0.out
  clear hbc0
  generalize wc = w6 at *
  clear HB RX BS CS RS RF
  replace HBS := hide (bchain HBS.out hb)
  replace O8 := hide (O8.out.new hb)
  replace B8 := hide (B8.out.new hb)
  clear hb
  have NI : Hid (gI ∉ bsI) := GOI.out.1
  have MI : Hid (∀ b ∈ bsI, b ∉ bs8) := fun b hb hx => by have h1 := LOI.out b hb; have h2 := N8.out b hx; have h4 := HG8.out; omega
  have PI : Hid (gI ∉ bs8) := fun hx => by have h2 := N8.out gI hx; have h4 := HG8.out; have h5 := GLI.out; omega
  have QI : Hid (∀ q, (Value.slice fraI L.length frpI).ownBlock = some q → q ∉ bs8 ∧ q ∉ bsI ∧ q ≠ gI) := fun q hq => ⟨fun hx => by have h1 := (FI.out.lt q hq).1; have h2 := N8.out q hx; have h4 := HG8.out; omega, FAI.out q hq, GOI.out.2 q hq⟩
  have HB := hide (bchain HBo.out HBS.out)
  have RX := hide (RXo.out.new HBS.out)
  have BS := hide (BSo.out.new HBS.out)
  have CS := hide (CSo.out.new HBS.out)
  have RS := hide (RSo.out.new HBS.out)
  have RF := hide (RFo.out.new HBS.out)
  have t0 := RowIs.cell (j := 0) BI.out rfl
  have t1 := RowIs.cell (j := 1) BI.out rfl
  have t2 := RowIs.cell (j := 2) BI.out rfl
  have t3 := RowIs.cell (j := 3) BI.out rfl
  have t4 := RowIs.cell (j := 4) BI.out rfl
  have t5 := RowIs.cell (j := 5) BI.out rfl
  have t6 := RowIs.cell (j := 6) BI.out rfl
  have t7 := RowIs.cell (j := 7) BI.out rfl
  have t8 := RowIs.cell (j := 8) BI.out rfl
  have t9 := RowIs.cell (j := 9) BI.out rfl
  have t10 := RowIs.cell (j := 10) BI.out rfl
  have t11 := RowIs.cell (j := 11) BI.out rfl
  have t12 := RowIs.cell (j := 12) BI.out rfl
  have tl := BI.out.lt
  have s0 := RowIs.cell (j := 0) BS.out rfl
  have s1 := RowIs.cell (j := 1) BS.out rfl
  have s2 := RowIs.cell (j := 2) BS.out rfl
  have s3 := RowIs.cell (j := 3) BS.out rfl
  have s4 := RowIs.cell (j := 4) BS.out rfl
  have s5 := RowIs.cell (j := 5) BS.out rfl
  have s6 := RowIs.cell (j := 6) BS.out rfl
  have s7 := RowIs.cell (j := 7) BS.out rfl
  have s8 := RowIs.cell (j := 8) BS.out rfl
  have s9 := RowIs.cell (j := 9) BS.out rfl
  have s10 := RowIs.cell (j := 10) BS.out rfl
  have s11 := RowIs.cell (j := 11) BS.out rfl
  have s12 := RowIs.cell (j := 12) BS.out rfl
  have sl := BS.out.lt
  go_wp2_with fail
  refine (show Calls _ _ #[cnv D _ _ _ _, cnv D _ _ _ _] _ _ from eqConn1 D _ _ _ _ _ _ _ _ _ OI.out.rd CS.out).mono ?_; rintro x w7 ⟨rfl, hb⟩
  clear t0 t1 t2 t3 t4 t5 t6 t7 t8 t9 t10 t11 t12 tl
  clear s0 s1 s2 s3 s4 s5 s6 s7 s8 s9 s10 s11 s12 sl
  clear HB RX BS CS RS RF
  replace HBS := hide (bchain HBS.out hb)
  replace O8 := hide (O8.out.new hb)
  replace B8 := hide (B8.out.new hb)
  replace OI := hide (OI.out.new hb)
  replace FI := hide (owns_new FI.out hb)
  replace BI := hide (BI.out.new hb)
  clear hb
  have RS := hide (RSo.out.new HBS.out)
  go_wp2_with fail
  refine (eqFrames L _ _ _ (reads_of_owns FI.out) RS.out).mono ?_; rintro x w8 ⟨rfl, hb⟩
  clear RS
  replace HBS := hide (bchain HBS.out hb)
  replace O8 := hide (O8.out.new hb)
  replace B8 := hide (B8.out.new hb)
  replace OI := hide (OI.out.new hb)
  replace FI := hide (owns_new FI.out hb)
  replace BI := hide (BI.out.new hb)
  clear hb
  have HB := hide (bchain HBo.out HBS.out)
  have RX := hide (RXo.out.new HBS.out)
  have BS := hide (BSo.out.new HBS.out)
  have CS := hide (CSo.out.new HBS.out)
  have RS := hide (RSo.out.new HBS.out)
  have RF := hide (RFo.out.new HBS.out)
  go_upto_region 13 with fail
  obtain ⟨S, HS0, HNEW, HLB⟩ : ∃ S : World → Prop, Hid (S w8) ∧ Hid (∀ u u1, S u → Below u.heap.size u u1 → S u1) ∧ Hid (∀ u, S u → Below w8.heap.size w8 u) := ⟨fun u => Below w8.heap.size w8 u, hide (Below.refl _ _), hide (fun u u1 h h1 => bchain h h1), hide (fun u h => h)⟩
  have hS : S (World.drew w8) := HNEW.out _ _ HS0.out (Below.refl _ _).drew
  go_wp2_with fail
  refine wp_region_held (S := S) (by kernel_rfl) ?_
  change wpAnyH _ _ _ _ _ _ _ _ (World.drew _)
  refine wpAnyH_take (i := 0) (v := .agg #[.int .i64 d.reg.lim, .int .i64 d.reg.top, .slice ea8 d.reg.es.length ep8, .int .i64 d.inr, .slice ia8 d.inT.length ip8, .int .i64 d.outr, .slice oa8 d.outT.length op8, .int .i64 d.get, .int .i64 d.give, .int .i64 d.first, .slice fa8 d.flows.length fp8, .bool d.away, .bool d.dead]) rfl (by kernel_rfl) (by kernel_rfl) (by kernel_rfl) (fun _ _ _ h => h) (Or.inl ⟨by kernel_rfl, ?ld⟩) hS ?_; case ld => (intro uu hu; have l0 := (B8.out.new (HLB.out _ hu)).cell (j := 0) rfl; have l1 := (B8.out.new (HLB.out _ hu)).cell (j := 1) rfl; have l2 := (B8.out.new (HLB.out _ hu)).cell (j := 2) rfl; have l3 := (B8.out.new (HLB.out _ hu)).cell (j := 3) rfl; have l4 := (B8.out.new (HLB.out _ hu)).cell (j := 4) rfl; have l5 := (B8.out.new (HLB.out _ hu)).cell (j := 5) rfl; have l6 := (B8.out.new (HLB.out _ hu)).cell (j := 6) rfl; have l7 := (B8.out.new (HLB.out _ hu)).cell (j := 7) rfl; have l8 := (B8.out.new (HLB.out _ hu)).cell (j := 8) rfl; have l9 := (B8.out.new (HLB.out _ hu)).cell (j := 9) rfl; have l10 := (B8.out.new (HLB.out _ hu)).cell (j := 10) rfl; have l11 := (B8.out.new (HLB.out _ hu)).cell (j := 11) rfl; have l12 := (B8.out.new (HLB.out _ hu)).cell (j := 12) rfl; have ll := (B8.out.new (HLB.out _ hu)).lt; clear hu; go_simp)
  try simp only [Act.put, List.getElem_toArray, List.getElem_cons_succ, List.getElem_cons_zero, List.setIfInBounds_toArray, List.set_cons_zero, List.set_cons_succ]
  refine wpAnyH_take (i := 1) (v := .agg #[.int .i64 d.reg.lim, .int .i64 d.reg.top, .slice ea d.reg.es.length ep, .int .i64 d.inr, .slice ia d.inT.length ip, .int .i64 d.outr, .slice oa d.outT.length op, .int .i64 d.get, .int .i64 d.give, .int .i64 d.first, .slice fa d.flows.length fp, .bool d.away, .bool d.dead]) rfl (by kernel_rfl) (by kernel_rfl) (by kernel_rfl) (fun _ _ _ h => h) (Or.inl ⟨by kernel_rfl, ?ld⟩) hS ?_; case ld => (intro uu hu; have l0 := (RX.out.new (HLB.out _ hu)).cell (j := 0) rfl; have l1 := (RX.out.new (HLB.out _ hu)).cell (j := 1) rfl; have l2 := (RX.out.new (HLB.out _ hu)).cell (j := 2) rfl; have l3 := (RX.out.new (HLB.out _ hu)).cell (j := 3) rfl; have l4 := (RX.out.new (HLB.out _ hu)).cell (j := 4) rfl; have l5 := (RX.out.new (HLB.out _ hu)).cell (j := 5) rfl; have l6 := (RX.out.new (HLB.out _ hu)).cell (j := 6) rfl; have l7 := (RX.out.new (HLB.out _ hu)).cell (j := 7) rfl; have l8 := (RX.out.new (HLB.out _ hu)).cell (j := 8) rfl; have l9 := (RX.out.new (HLB.out _ hu)).cell (j := 9) rfl; have l10 := (RX.out.new (HLB.out _ hu)).cell (j := 10) rfl; have l11 := (RX.out.new (HLB.out _ hu)).cell (j := 11) rfl; have l12 := (RX.out.new (HLB.out _ hu)).cell (j := 12) rfl; have ll := (RX.out.new (HLB.out _ hu)).lt; clear hu; go_simp)
  try simp only [Act.put, List.getElem_toArray, List.getElem_cons_succ, List.getElem_cons_zero, List.setIfInBounds_toArray, List.set_cons_zero, List.set_cons_succ]
  refine wpAnyH_ready (rs := [2]) (by kernel_rfl) (by simp) ?_; refine AllReadyH.cons rfl (fun K hK => ?_) AllReadyH.nil; rw [if_pos (by kernel_rfl)]; go_simp
  refine (show Calls _ _ #[cnv d _ _ _ _] _ _ from toConn1 d _ _ _ _ _ (HV.out.new (bchain HB.out (HLB.out _ hS))) HS9.out).mono ?_
  rintro x x1 ⟨ue, ui, uo, uf, bs3, rfl, ho, hlo, hx1⟩
  have O3 := hide ho
  clear ho hlo
  obtain ⟨ea3, ep3, he3, _, _⟩ := O3.out.rd.e.form
  subst he3
  obtain ⟨ia3, ip3, hi3, _, _⟩ := O3.out.rd.i.form
  subst hi3
  obtain ⟨oa3, op3, ho3, _, _⟩ := O3.out.rd.o.form
  subst ho3
  obtain ⟨fa3, fp3, hf3, _, _⟩ := O3.out.rd.f.form
  subst hf3
  refine hK.out _ _ (HNEW.out _ _ hS hx1) (fun hS => ?_)
  clear hK K hx1
  dsimp only [cnv]
  try simp only [Act.put, List.getElem_toArray, List.getElem_cons_succ, List.getElem_cons_zero, List.setIfInBounds_toArray, List.set_cons_zero, List.set_cons_succ]
  refine wpAnyH_ready (rs := [3]) (by kernel_rfl) (by simp) ?_; refine AllReadyH.cons rfl (fun K hK => ?_) AllReadyH.nil; rw [if_pos (by kernel_rfl)]; go_simp
  refine (show Calls _ _ #[cnv d _ _ _ _, cnv d _ _ _ _] _ _ from eqConn1 d _ _ _ _ _ _ _ _ _ (O8.out.rd.new (HLB.out _ hS)) O3.out.rd).mono ?_
  rintro x x2 ⟨rfl, hx2⟩
  refine hK.out _ _ (HNEW.out _ _ hS hx2) (fun hS => ?_)
  clear hK K hx2 O3
  try simp only [Act.put, List.getElem_toArray, List.getElem_cons_succ, List.getElem_cons_zero, List.setIfInBounds_toArray, List.set_cons_zero, List.set_cons_succ]
  refine wpAnyH_take (i := 4) (v := .bool false) rfl (by kernel_rfl) (by kernel_rfl) (by kernel_rfl) (fun _ _ _ h => h) (Or.inl ⟨by kernel_rfl, fun uu hu => (by kernel_rfl)⟩) hS ?_
  try simp only [Act.put, List.getElem_toArray, List.getElem_cons_succ, List.getElem_cons_zero, List.setIfInBounds_toArray, List.set_cons_zero, List.set_cons_succ]
  refine wpAnyH_done (by kernel_rfl) ?_ _
  have hb := HLB.out _ hS
  clear hS HNEW HLB HS0
  clear HB RX BS CS RS RF
  generalize x2 = w9 at *
  replace HBS := hide (bchain HBS.out hb)
  replace O8 := hide (O8.out.new hb)
  replace B8 := hide (B8.out.new hb)
  replace OI := hide (OI.out.new hb)
  replace FI := hide (owns_new FI.out hb)
  replace BI := hide (BI.out.new hb)
  clear hb
  have t0 := RowIs.cell (j := 0) B8.out rfl
  have t1 := RowIs.cell (j := 1) B8.out rfl
  have t2 := RowIs.cell (j := 2) B8.out rfl
  have t3 := RowIs.cell (j := 3) B8.out rfl
  have t4 := RowIs.cell (j := 4) B8.out rfl
  have t5 := RowIs.cell (j := 5) B8.out rfl
  have t6 := RowIs.cell (j := 6) B8.out rfl
  have t7 := RowIs.cell (j := 7) B8.out rfl
  have t8 := RowIs.cell (j := 8) B8.out rfl
  have t9 := RowIs.cell (j := 9) B8.out rfl
  have t10 := RowIs.cell (j := 10) B8.out rfl
  have t11 := RowIs.cell (j := 11) B8.out rfl
  have t12 := RowIs.cell (j := 12) B8.out rfl
  have tl := B8.out.lt
  go_wp2_with fail
  obtain ⟨K8, hK8⟩ : ∃ K, 1 + cntConn d = K := ⟨_, rfl⟩
  have hmk := markConn1 d (.slice ea8 d.reg.es.length ep8) (.slice ia8 d.inT.length ip8) (.slice oa8 d.outT.length op8) (.slice fa8 d.flows.length fp8) 1 bs8 w9 O8.out (cnt_conn d HS9.out)
  rw [hK8] at hmk
  have hk80 : ¬ ((K8 : Nat) : Int) < 0 := by omega
  clear hK8
  refine (show Calls _ _ #[cnv d _ _ _ _, _] _ _ from hmk).mono ?_; clear hmk; rintro x w10 ⟨rfl, _, ht⟩
  clear t0 t1 t2 t3 t4 t5 t6 t7 t8 t9 t10 t11 t12 tl
  replace HBS := hide (HBS.out.trans (⟨ht.os, ht.tape, ht.output, ht.size, fun k hk => ht.block k (by have := HBS.out.size; omega) (fun hx => by have := LO8.out k hx; omega)⟩ : Below w3.heap.size _ _))
  replace OI := hide (OI.out.turn ht MI.out)
  replace BI := hide (BI.out.kept (ht.block _ BI.out.lt PI.out))
  replace FI := hide (owns_kept FI.out (fun k hk hl => ht.block k hl (QI.out k hk).1))
  clear ht B8 O8
  have HB := hide (bchain HBo.out HBS.out)
  have RX := hide (RXo.out.new HBS.out)
  have BS := hide (BSo.out.new HBS.out)
  have CS := hide (CSo.out.new HBS.out)
  have RS := hide (RSo.out.new HBS.out)
  have RF := hide (RFo.out.new HBS.out)
  have t0 := RowIs.cell (j := 0) BI.out rfl
  have t1 := RowIs.cell (j := 1) BI.out rfl
  have t2 := RowIs.cell (j := 2) BI.out rfl
  have t3 := RowIs.cell (j := 3) BI.out rfl
  have t4 := RowIs.cell (j := 4) BI.out rfl
  have t5 := RowIs.cell (j := 5) BI.out rfl
  have t6 := RowIs.cell (j := 6) BI.out rfl
  have t7 := RowIs.cell (j := 7) BI.out rfl
  have t8 := RowIs.cell (j := 8) BI.out rfl
  have t9 := RowIs.cell (j := 9) BI.out rfl
  have t10 := RowIs.cell (j := 10) BI.out rfl
  have t11 := RowIs.cell (j := 11) BI.out rfl
  have t12 := RowIs.cell (j := 12) BI.out rfl
  have tl := BI.out.lt
  have s0 := RowIs.cell (j := 0) BS.out rfl
  have s1 := RowIs.cell (j := 1) BS.out rfl
  have s2 := RowIs.cell (j := 2) BS.out rfl
  have s3 := RowIs.cell (j := 3) BS.out rfl
  have s4 := RowIs.cell (j := 4) BS.out rfl
  have s5 := RowIs.cell (j := 5) BS.out rfl
  have s6 := RowIs.cell (j := 6) BS.out rfl
  have s7 := RowIs.cell (j := 7) BS.out rfl
  have s8 := RowIs.cell (j := 8) BS.out rfl
  have s9 := RowIs.cell (j := 9) BS.out rfl
  have s10 := RowIs.cell (j := 10) BS.out rfl
  have s11 := RowIs.cell (j := 11) BS.out rfl
  have s12 := RowIs.cell (j := 12) BS.out rfl
  have sl := BS.out.lt
  go_wp2_with fail
  refine (show Calls _ _ #[cnv D _ _ _ _, cnv D _ _ _ _] _ _ from eqConn1 D _ _ _ _ _ _ _ _ _ OI.out.rd CS.out).mono ?_; rintro x w11 ⟨rfl, hb⟩
  clear t0 t1 t2 t3 t4 t5 t6 t7 t8 t9 t10 t11 t12 tl
  clear s0 s1 s2 s3 s4 s5 s6 s7 s8 s9 s10 s11 s12 sl
  clear HB RX BS CS RS RF
  replace HBS := hide (bchain HBS.out hb)
  replace OI := hide (OI.out.new hb)
  replace FI := hide (owns_new FI.out hb)
  replace BI := hide (BI.out.new hb)
  clear hb
  have RS := hide (RSo.out.new HBS.out)
  go_wp2_with fail
  refine (eqFrames L _ _ _ (reads_of_owns FI.out) RS.out).mono ?_; rintro x w12 ⟨rfl, hb⟩
  clear RS
  replace HBS := hide (bchain HBS.out hb)
  replace OI := hide (OI.out.new hb)
  replace FI := hide (owns_new FI.out hb)
  replace BI := hide (BI.out.new hb)
  clear hb
  have t0 := RowIs.cell (j := 0) BI.out rfl
  have t1 := RowIs.cell (j := 1) BI.out rfl
  have t2 := RowIs.cell (j := 2) BI.out rfl
  have t3 := RowIs.cell (j := 3) BI.out rfl
  have t4 := RowIs.cell (j := 4) BI.out rfl
  have t5 := RowIs.cell (j := 5) BI.out rfl
  have t6 := RowIs.cell (j := 6) BI.out rfl
  have t7 := RowIs.cell (j := 7) BI.out rfl
  have t8 := RowIs.cell (j := 8) BI.out rfl
  have t9 := RowIs.cell (j := 9) BI.out rfl
  have t10 := RowIs.cell (j := 10) BI.out rfl
  have t11 := RowIs.cell (j := 11) BI.out rfl
  have t12 := RowIs.cell (j := 12) BI.out rfl
  have tl := BI.out.lt
  go_wp2_with fail
  have hmk := markConn1 D (.slice eaI D.reg.es.length epI) (.slice iaI D.inT.length ipI) (.slice oaI D.outT.length opI) (.slice faI D.flows.length fpI) 1 bsI w12 OI.out (by rw [HK1.out]; omega)
  rw [HK1.out] at hmk
  refine (show Calls _ _ #[cnv D _ _ _ _, _] _ _ from hmk).mono ?_; clear hmk; rintro x w13 ⟨rfl, hom, ht⟩
  clear t0 t1 t2 t3 t4 t5 t6 t7 t8 t9 t10 t11 t12 tl
  replace HBS := hide (HBS.out.trans (⟨ht.os, ht.tape, ht.output, ht.size, fun k hk => ht.block k (by have := HBS.out.size; omega) (fun hx => by have := LOI.out k hx; have := HG8.out; have := HGW.out; omega)⟩ : Below w3.heap.size _ _))
  replace BI := hide (BI.out.kept (ht.block _ BI.out.lt NI.out))
  have OM := hide hom
  replace FI := hide (owns_kept FI.out (fun k hk hl => ht.block k hl (QI.out k hk).2.1))
  clear ht OI hom
  go_wp2_with fail
  have hmk := markFrames L.length K1 (.slice fraI L.length frpI) (fr L) _ w13 FI.out hk2
  rw [HK2.out] at hmk
  refine hmk.mono ?_; clear hmk; rintro x w14 ⟨rfl, hom, hg⟩
  replace HBS := hide (HBS.out.trans (⟨hg.os, hg.tape, hg.output, hg.size, fun k hk => hg.block k (by have := HBS.out.size; omega) (fun e => by have := (FI.out.lt k e.symm).1; have := HG8.out; have := HGW.out; omega)⟩ : Below w3.heap.size _ _))
  replace BI := hide (BI.out.kept (hg.block _ BI.out.lt (fun e => (QI.out _ e.symm).2.2 rfl)))
  replace OM := hide (OM.out.keep hg.size (fun b hb => hg.block b (OM.out.lt b hb) (fun e => (QI.out b e.symm).2.1 hb)))
  have FM := hide (reads_of_owns hom)
  clear hg hom FI
  have t0 := RowIs.cell (j := 0) BI.out rfl
  have t1 := RowIs.cell (j := 1) BI.out rfl
  have t2 := RowIs.cell (j := 2) BI.out rfl
  have t3 := RowIs.cell (j := 3) BI.out rfl
  have t4 := RowIs.cell (j := 4) BI.out rfl
  have t5 := RowIs.cell (j := 5) BI.out rfl
  have t6 := RowIs.cell (j := 6) BI.out rfl
  have t7 := RowIs.cell (j := 7) BI.out rfl
  have t8 := RowIs.cell (j := 8) BI.out rfl
  have t9 := RowIs.cell (j := 9) BI.out rfl
  have t10 := RowIs.cell (j := 10) BI.out rfl
  have t11 := RowIs.cell (j := 11) BI.out rfl
  have t12 := RowIs.cell (j := 12) BI.out rfl
  have tl := BI.out.lt
  go_wp2_with fail
  have hhd := heldConn1 D D (.slice eaI D.reg.es.length epI) (.slice iaI D.inT.length ipI) (.slice oaI D.outT.length opI) (.slice faI D.flows.length fpI) 1 w14 OM.out.rd (by rw [HK1.out]; omega)
  rw [HK1.out] at hhd
  refine (show Calls _ _ #[cnv D _ _ _ _, _] _ _ from hhd).mono ?_; clear hhd; rintro x w15 ⟨rfl, hb⟩
  have hk10 : ¬ ((K1 : Nat) : Int) < 0 := by omega
  clear t0 t1 t2 t3 t4 t5 t6 t7 t8 t9 t10 t11 t12 tl
  replace HBS := hide (bchain HBS.out hb)
  replace BI := hide (BI.out.new hb)
  replace OM := hide (OM.out.new hb)
  replace FM := hide (FM.out.new hb)
  clear hb
  go_wp2_with fail
  have hhd := heldFrames L.length K1 (.slice fraI L.length frpI) w15 FM.out hk2
  rw [HK2.out] at hhd
  refine hhd.mono ?_; clear hhd; rintro x w16 ⟨rfl, hb⟩
  have hk20 : ¬ ((K2 : Nat) : Int) < 0 := by omega
  replace HBS := hide (bchain HBS.out hb)
  replace BI := hide (BI.out.new hb)
  replace OM := hide (OM.out.new hb)
  replace FM := hide (FM.out.new hb)
  clear hb
  have HB := hide (bchain HBo.out HBS.out)
  have RX := hide (RXo.out.new HBS.out)
  have BS := hide (BSo.out.new HBS.out)
  have CS := hide (CSo.out.new HBS.out)
  have RS := hide (RSo.out.new HBS.out)
  have RF := hide (RFo.out.new HBS.out)
  go_upto_region 31 with fail
  try simp only [Act.put, List.getElem_toArray, List.getElem_cons_succ, List.getElem_cons_zero, List.setIfInBounds_toArray, List.set_cons_zero, List.set_cons_succ]
  go_cut [14, 15] (fun p v wc => ∃ gx eaJ epJ iaJ ipJ oaJ opJ faJ fpJ fraJ frpJ bsJ, p = .pointer (some ⟨gx, 0, none⟩) ∧ v = .slice fraJ L.length frpJ ∧ Hid (RowIs wc gx 43 [.int .i64 D.reg.lim, .int .i64 D.reg.top, .slice eaJ D.reg.es.length epJ, .int .i64 D.inr, .slice iaJ D.inT.length ipJ, .int .i64 D.outr, .slice oaJ D.outT.length opJ, .int .i64 D.get, .int .i64 D.give, .int .i64 D.first, .slice faJ D.flows.length fpJ, .bool D.away, .bool D.dead]) ∧ Hid (CnOw wc bsJ D (.slice eaJ D.reg.es.length epJ) (.slice iaJ D.inT.length ipJ) (.slice oaJ D.outT.length opJ) (.slice faJ D.flows.length fpJ)) ∧ Hid (∀ b ∈ bsJ, w16.heap.size ≤ b) ∧ Hid (wc.ownsRow w16.heap.size 48 4 (.slice fraJ L.length frpJ) L.length (fr L)) ∧ Hid (∀ q, (Value.slice fraJ L.length frpJ).ownBlock = some q → q ∉ bsJ) ∧ Hid (gx ∉ bsJ ∧ ∀ q, (Value.slice fraJ L.length frpJ).ownBlock = some q → q ≠ gx) ∧ Hid (w16.heap.size ≤ gx) ∧ Hid (Below w16.heap.size w16 wc))
  case first =>
    have HBQ := HB
    go_wp2_with fail
    refine wp_region_held_drew (S := (fun u => Below w16.heap.size w16 u)) (by kernel_rfl) ((Below.refl _ _).drew) (fun hS => ?_)
    generalize World.drew w16 = u0 at hS ⊢
    refine wpAnyH_take (i := 0) (v := .agg #[.int .i64 d.reg.lim, .int .i64 d.reg.top, .slice ea d.reg.es.length ep, .int .i64 d.inr, .slice ia d.inT.length ip, .int .i64 d.outr, .slice oa d.outT.length op, .int .i64 d.get, .int .i64 d.give, .int .i64 d.first, .slice fa d.flows.length fp, .bool d.away, .bool d.dead]) rfl (by kernel_rfl) (by kernel_rfl) (by kernel_rfl) (fun _ _ _ h => h) (Or.inl ⟨by kernel_rfl, ?ld⟩) hS ?_; case ld => (intro uu hu; have l0 := (RX.out.new hu).cell (j := 0) rfl; have l1 := (RX.out.new hu).cell (j := 1) rfl; have l2 := (RX.out.new hu).cell (j := 2) rfl; have l3 := (RX.out.new hu).cell (j := 3) rfl; have l4 := (RX.out.new hu).cell (j := 4) rfl; have l5 := (RX.out.new hu).cell (j := 5) rfl; have l6 := (RX.out.new hu).cell (j := 6) rfl; have l7 := (RX.out.new hu).cell (j := 7) rfl; have l8 := (RX.out.new hu).cell (j := 8) rfl; have l9 := (RX.out.new hu).cell (j := 9) rfl; have l10 := (RX.out.new hu).cell (j := 10) rfl; have l11 := (RX.out.new hu).cell (j := 11) rfl; have l12 := (RX.out.new hu).cell (j := 12) rfl; have ll := (RX.out.new hu).lt; clear hu; go_simp)
    try simp only [Act.put, List.getElem_toArray, List.getElem_cons_succ, List.getElem_cons_zero, List.setIfInBounds_toArray, List.set_cons_zero, List.set_cons_succ]
    refine wpAnyH_take (i := 2) (v := .agg #[.int .i64 f.k, .int .i64 f.fl, .int .i64 f.st, .string f.b]) rfl (by kernel_rfl) (by kernel_rfl) (by kernel_rfl) (fun _ _ _ h => h) (Or.inl ⟨by kernel_rfl, ?ld⟩) hS ?_; case ld => (intro uu hu; have l0 := (RF.out.new hu).cell (j := 0) rfl; have l1 := (RF.out.new hu).cell (j := 1) rfl; have l2 := (RF.out.new hu).cell (j := 2) rfl; have l3 := (RF.out.new hu).cell (j := 3) rfl; have ll := (RF.out.new hu).lt; clear hu; go_simp)
    try simp only [Act.put, List.getElem_toArray, List.getElem_cons_succ, List.getElem_cons_zero, List.setIfInBounds_toArray, List.set_cons_zero, List.set_cons_succ]
    refine wpAnyH_ready (rs := [1, 8]) (by kernel_rfl) (by simp) ?_
    refine (AllReadyH.cons rfl (fun K hK => ?_) (AllReadyH.cons rfl (fun K hK => ?_) AllReadyH.nil))
    · skip
      rw [if_pos (by kernel_rfl)]
      go_simp
      refine (show Calls _ _ #[cnv d _ _ _ _] _ _ from toConn1 d _ _ _ _ _ (HV.out.new (bchain HBQ.out hS)) HS9.out).mono ?_
      rintro x u1 ⟨ue, ui, uo, uf, bsJc, rfl, ho, hlo, hbu1⟩
      have OC := hide ho
      clear ho hlo
      obtain ⟨eaJc, epJc, heJc, _, _⟩ := OC.out.rd.e.form
      subst heJc
      obtain ⟨iaJc, ipJc, hiJc, _, _⟩ := OC.out.rd.i.form
      subst hiJc
      obtain ⟨oaJc, opJc, hoJc, _, _⟩ := OC.out.rd.o.form
      subst hoJc
      obtain ⟨faJc, fpJc, hfJc, _, _⟩ := OC.out.rd.f.form
      subst hfJc
      dsimp only [cnv]
      refine hK.out _ _ (bchain hS hbu1) (fun hS => ?_)
      clear hK K hbu1
      try simp only [Act.put, List.getElem_toArray, List.getElem_cons_succ, List.getElem_cons_zero, List.setIfInBounds_toArray, List.set_cons_zero, List.set_cons_succ]
      refine wpAnyH_ready (rs := [3, 8]) (by kernel_rfl) (by simp) ?_
      refine (AllReadyH.cons rfl (fun K hK => ?_) (AllReadyH.cons rfl (fun K hK => ?_) AllReadyH.nil))
      · skip
        rw [if_pos (by kernel_rfl)]
        go_simp
        refine (toFrame1 f.k f.fl f.st f.b _).mono ?_; rintro x u2 ⟨rfl, hbu2⟩
        replace OC := hide (OC.out.new hbu2)
        refine hK.out _ _ (bchain hS hbu2) (fun hS => ?_)
        clear hK K hbu2
        try simp only [Act.put, List.getElem_toArray, List.getElem_cons_succ, List.getElem_cons_zero, List.setIfInBounds_toArray, List.set_cons_zero, List.set_cons_succ]
        refine wpAnyH_ready (rs := [4, 8]) (by kernel_rfl) (by simp) ?_
        refine (AllReadyH.cons rfl (fun K hK => ?_) (AllReadyH.cons rfl (fun K hK => ?_) AllReadyH.nil))
        · skip
          rw [if_pos (by kernel_rfl)]
          go_simp
          refine (show Calls _ _ #[cnv d _ _ _ _, frv f] _ _ from Himpl.out _ _ _ _ _ OC.out.rd).mono ?_
          rintro x u3 ⟨v, vfr, rfl, ⟨ue, ui, uo, uf, bsJ, hveq, ho, hlo, hfo, hfa⟩, hbu3⟩
          subst hveq
          obtain ⟨fraJ, frpJ, hfe, _, _⟩ := owns_form hfo
          subst hfe
          have hsz9 := hS.size
          have OJ := hide ho
          have LOJ : Hid (∀ b ∈ bsJ, w16.heap.size ≤ b) := fun b hb => Nat.le_trans hsz9 (hlo b hb)
          have FJ := hide (owns_base hfo (fun q hq => Nat.le_trans hsz9 (hfo.lt q hq).1))
          have FAJ := hide hfa
          clear ho hlo hfo hfa hsz9
          clear OC
          obtain ⟨eaJ, epJ, heJ, _, _⟩ := OJ.out.rd.e.form
          subst heJ
          obtain ⟨iaJ, ipJ, hiJ, _, _⟩ := OJ.out.rd.i.form
          subst hiJ
          obtain ⟨oaJ, opJ, hoJ, _, _⟩ := OJ.out.rd.o.form
          subst hoJ
          obtain ⟨faJ, fpJ, hfJ, _, _⟩ := OJ.out.rd.f.form
          subst hfJ
          dsimp only [cnv]
          refine hK.out _ _ (bchain hS hbu3) (fun hS => ?_)
          clear hK K hbu3
          try simp only [Act.put, List.getElem_toArray, List.getElem_cons_succ, List.getElem_cons_zero, List.setIfInBounds_toArray, List.set_cons_zero, List.set_cons_succ]
          refine wpAnyH_take (i := 5) (v := ?_) rfl (by kernel_rfl) (by kernel_rfl) (by kernel_rfl) (fun _ _ _ h => h) (Or.inl ⟨by kernel_rfl, ?_⟩) hS ?_; rotate_left; focus (intro uu hu; clear hu; go_simp; try with_reducible rfl)
          try simp only [Act.put, List.getElem_toArray, List.getElem_cons_succ, List.getElem_cons_zero, List.setIfInBounds_toArray, List.set_cons_zero, List.set_cons_succ]
          refine wpAnyH_take (i := 6) (v := ?_) rfl (by kernel_rfl) (by kernel_rfl) (by kernel_rfl) (fun _ _ _ h => h) (Or.inl ⟨by kernel_rfl, ?_⟩) hS ?_; rotate_left; focus (intro uu hu; clear hu; go_simp; try with_reducible rfl)
          try simp only [Act.put, List.getElem_toArray, List.getElem_cons_succ, List.getElem_cons_zero, List.setIfInBounds_toArray, List.set_cons_zero, List.set_cons_succ]
          refine wpAnyH_take (i := 7) (v := ?_) rfl (by kernel_rfl) (by kernel_rfl) (by kernel_rfl) (fun _ _ _ h => h) (Or.inl ⟨by kernel_rfl, ?_⟩) hS ?_; rotate_left; focus (intro uu hu; clear hu; go_simp; try with_reducible rfl)
          try simp only [Act.put, List.getElem_toArray, List.getElem_cons_succ, List.getElem_cons_zero, List.setIfInBounds_toArray, List.set_cons_zero, List.set_cons_succ]
          refine wpAnyH_ready (rs := [8]) (by kernel_rfl) (by simp) ?_
          refine (AllReadyH.cons rfl (fun K hK => ?_) AllReadyH.nil)
          rw [if_pos (by kernel_rfl)]
          go_simp
          obtain ⟨u4, hu4⟩ : ∃ u, u3.alloc (.cells #[.int .i64 0, .int .i64 0, .slice none 0 0, .int .i64 0, .slice none 0 0, .int .i64 0, .slice none 0 0, .int .i64 0, .int .i64 0, .int .i64 0, .slice none 0 0, .bool false, .bool false] 43) = u := ⟨_, rfl⟩
          have hbu4 : Below u3.heap.size u3 u4 := by rw [← hu4]; exact (Below.refl _ _).alloc (Nat.le_refl _) _
          obtain ⟨gx, hgx⟩ : ∃ q, q = u3.heap.size := ⟨_, rfl⟩
          have HBX : Hid (RowIs u4 gx 43 [.int .i64 0, .int .i64 0, .slice none 0 0, .int .i64 0, .slice none 0 0, .int .i64 0, .slice none 0 0, .int .i64 0, .int .i64 0, .int .i64 0, .slice none 0 0, .bool false, .bool false]) := by show _; rw [← hu4, hgx]; exact rowIs_new _ _ _
          have HGX : Hid (w16.heap.size ≤ gx) := by show _ ≤ _; have := hS.size; omega
          have GOJ : Hid (gx ∉ bsJ ∧ ∀ q, (Value.slice fraJ L.length frpJ).ownBlock = some q → q ≠ gx) := ⟨fun hx => by have h1 := OJ.out.lt gx hx; omega, fun q hq e => by have h1 := (FJ.out.lt q hq).2; omega⟩
          replace OJ := hide (OJ.out.new hbu4)
          replace FJ := hide (owns_new FJ.out hbu4)
          rw [hu4, ← hgx]
          refine hK.out _ _ (bchain hS hbu4) (fun hS => ?_)
          clear hu4 hgx hbu4 hK K
          try simp only [Act.put, List.getElem_toArray, List.getElem_cons_succ, List.getElem_cons_zero, List.setIfInBounds_toArray, List.set_cons_zero, List.set_cons_succ]
          refine wpAnyH_ready (rs := [9]) (by kernel_rfl) (by simp) ?_
          refine (AllReadyH.cons rfl (fun K hK => ?_) AllReadyH.nil)
          rw [if_pos (by kernel_rfl)]
          refine wp_store_row 43 (.tmp 14) (.tmp 100) rfl gx #[.int .i64 D.reg.lim, .int .i64 D.reg.top, .slice eaJ D.reg.es.length epJ, .int .i64 D.inr, .slice iaJ D.inT.length ipJ, .int .i64 D.outr, .slice oaJ D.outT.length opJ, .int .i64 D.get, .int .i64 D.give, .int .i64 D.first, .slice faJ D.flows.length fpJ, .bool D.away, .bool D.dead] rfl rfl 43 #[.int .i64 0, .int .i64 0, .slice none 0 0, .int .i64 0, .slice none 0 0, .int .i64 0, .slice none 0 0, .int .i64 0, .int .i64 0, .int .i64 0, .slice none 0 0, .bool false, .bool false] HBX.out (by kernel_rfl) rfl (by simp [Value.oneCell']) ?_
          have HB5 := hide (rowIs_setRow (cs' := [.int .i64 D.reg.lim, .int .i64 D.reg.top, .slice eaJ D.reg.es.length epJ, .int .i64 D.inr, .slice iaJ D.inT.length ipJ, .int .i64 D.outr, .slice oaJ D.outT.length opJ, .int .i64 D.get, .int .i64 D.give, .int .i64 D.first, .slice faJ D.flows.length fpJ, .bool D.away, .bool D.dead]) HBX.out)
          have hS5 := below_setRow hS HGX.out #[.int .i64 D.reg.lim, .int .i64 D.reg.top, .slice eaJ D.reg.es.length epJ, .int .i64 D.inr, .slice iaJ D.inT.length ipJ, .int .i64 D.outr, .slice oaJ D.outT.length opJ, .int .i64 D.get, .int .i64 D.give, .int .i64 D.first, .slice faJ D.flows.length fpJ, .bool D.away, .bool D.dead]
          replace OJ := hide (OJ.out.keep (by rw [setRow_size]; exact Nat.le_refl _) (fun b hb => setRow_other u4 gx #[.int .i64 D.reg.lim, .int .i64 D.reg.top, .slice eaJ D.reg.es.length epJ, .int .i64 D.inr, .slice iaJ D.inT.length ipJ, .int .i64 D.outr, .slice oaJ D.outT.length opJ, .int .i64 D.get, .int .i64 D.give, .int .i64 D.first, .slice faJ D.flows.length fpJ, .bool D.away, .bool D.dead] b (fun e => GOJ.out.1 (e ▸ hb))))
          replace FJ := hide (owns_kept FJ.out (fun q hq hl => setRow_other u4 gx #[.int .i64 D.reg.lim, .int .i64 D.reg.top, .slice eaJ D.reg.es.length epJ, .int .i64 D.inr, .slice iaJ D.inT.length ipJ, .int .i64 D.outr, .slice oaJ D.outT.length opJ, .int .i64 D.get, .int .i64 D.give, .int .i64 D.first, .slice faJ D.flows.length fpJ, .bool D.away, .bool D.dead] q (GOJ.out.2 q hq)))
          clear HBX
          have HBX := HB5
          clear HB5
          generalize u4.setRow gx #[.int .i64 D.reg.lim, .int .i64 D.reg.top, .slice eaJ D.reg.es.length epJ, .int .i64 D.inr, .slice iaJ D.inT.length ipJ, .int .i64 D.outr, .slice oaJ D.outT.length opJ, .int .i64 D.get, .int .i64 D.give, .int .i64 D.first, .slice faJ D.flows.length fpJ, .bool D.away, .bool D.dead] = u5 at *
          refine hK.out _ _ hS5 (fun hS => ?_)
          clear hK K hS5
          try simp only [Act.put, List.getElem_toArray, List.getElem_cons_succ, List.getElem_cons_zero, List.setIfInBounds_toArray, List.set_cons_zero, List.set_cons_succ]
          refine wpAnyH_take (i := 10) (v := ?_) rfl (by kernel_rfl) (by kernel_rfl) (by kernel_rfl) (fun _ _ _ h => h) (Or.inl ⟨by kernel_rfl, ?_⟩) hS ?_; rotate_left; focus (intro uu hu; clear hu; go_simp; try with_reducible rfl)
          try simp only [Act.put, List.getElem_toArray, List.getElem_cons_succ, List.getElem_cons_zero, List.setIfInBounds_toArray, List.set_cons_zero, List.set_cons_succ]
          refine wpAnyH_done (by kernel_rfl) ?_ _
          go_wp2_with fail
          go_meet
          exact ⟨gx, _, _, _, _, _, _, _, _, _, _, bsJ, rfl, rfl, HBX, OJ, LOJ, FJ, FAJ, GOJ, HGX, hS⟩
        · skip
          rw [if_pos (by kernel_rfl)]
          go_simp
          obtain ⟨u6, hu6⟩ : ∃ u, u2.alloc (.cells #[.int .i64 0, .int .i64 0, .slice none 0 0, .int .i64 0, .slice none 0 0, .int .i64 0, .slice none 0 0, .int .i64 0, .int .i64 0, .int .i64 0, .slice none 0 0, .bool false, .bool false] 43) = u := ⟨_, rfl⟩
          have hbu6 : Below u2.heap.size u2 u6 := by rw [← hu6]; exact (Below.refl _ _).alloc (Nat.le_refl _) _
          obtain ⟨gx, hgx⟩ : ∃ q, q = u2.heap.size := ⟨_, rfl⟩
          have HBX : Hid (RowIs u6 gx 43 [.int .i64 0, .int .i64 0, .slice none 0 0, .int .i64 0, .slice none 0 0, .int .i64 0, .slice none 0 0, .int .i64 0, .int .i64 0, .int .i64 0, .slice none 0 0, .bool false, .bool false]) := by show _; rw [← hu6, hgx]; exact rowIs_new _ _ _
          have HGX : Hid (w16.heap.size ≤ gx) := by show _ ≤ _; have := hS.size; omega
          replace OC := hide (OC.out.new hbu6)
          rw [hu6, ← hgx]
          refine hK.out _ _ (bchain hS hbu6) (fun hS => ?_)
          clear hu6 hgx hbu6 hK K
          try simp only [Act.put, List.getElem_toArray, List.getElem_cons_succ, List.getElem_cons_zero, List.setIfInBounds_toArray, List.set_cons_zero, List.set_cons_succ]
          refine wpAnyH_ready (rs := [4]) (by kernel_rfl) (by simp) ?_
          refine (AllReadyH.cons rfl (fun K hK => ?_) AllReadyH.nil)
          rw [if_pos (by kernel_rfl)]
          go_simp
          refine (show Calls _ _ #[cnv d _ _ _ _, frv f] _ _ from Himpl.out _ _ _ _ _ OC.out.rd).mono ?_
          rintro x u7 ⟨v, vfr, rfl, ⟨ue, ui, uo, uf, bsJ, hveq, ho, hlo, hfo, hfa⟩, hbu7⟩
          subst hveq
          obtain ⟨fraJ, frpJ, hfe, _, _⟩ := owns_form hfo
          subst hfe
          have hsz9 := hS.size
          have OJ := hide ho
          have LOJ : Hid (∀ b ∈ bsJ, w16.heap.size ≤ b) := fun b hb => Nat.le_trans hsz9 (hlo b hb)
          have FJ := hide (owns_base hfo (fun q hq => Nat.le_trans hsz9 (hfo.lt q hq).1))
          have FAJ := hide hfa
          have GOJ : Hid (gx ∉ bsJ ∧ ∀ q, (Value.slice fraJ L.length frpJ).ownBlock = some q → q ≠ gx) := ⟨fun hx => by have h1 := hlo gx hx; have := HBX.out.lt; omega, fun q hq e => by have h1 := (hfo.lt q hq).1; have := HBX.out.lt; omega⟩
          clear ho hlo hfo hfa hsz9
          clear OC
          replace HBX := hide (HBX.out.new hbu7)
          obtain ⟨eaJ, epJ, heJ, _, _⟩ := OJ.out.rd.e.form
          subst heJ
          obtain ⟨iaJ, ipJ, hiJ, _, _⟩ := OJ.out.rd.i.form
          subst hiJ
          obtain ⟨oaJ, opJ, hoJ, _, _⟩ := OJ.out.rd.o.form
          subst hoJ
          obtain ⟨faJ, fpJ, hfJ, _, _⟩ := OJ.out.rd.f.form
          subst hfJ
          dsimp only [cnv]
          refine hK.out _ _ (bchain hS hbu7) (fun hS => ?_)
          clear hK K hbu7
          try simp only [Act.put, List.getElem_toArray, List.getElem_cons_succ, List.getElem_cons_zero, List.setIfInBounds_toArray, List.set_cons_zero, List.set_cons_succ]
          refine wpAnyH_take (i := 5) (v := ?_) rfl (by kernel_rfl) (by kernel_rfl) (by kernel_rfl) (fun _ _ _ h => h) (Or.inl ⟨by kernel_rfl, ?_⟩) hS ?_; rotate_left; focus (intro uu hu; clear hu; go_simp; try with_reducible rfl)
          try simp only [Act.put, List.getElem_toArray, List.getElem_cons_succ, List.getElem_cons_zero, List.setIfInBounds_toArray, List.set_cons_zero, List.set_cons_succ]
          refine wpAnyH_take (i := 6) (v := ?_) rfl (by kernel_rfl) (by kernel_rfl) (by kernel_rfl) (fun _ _ _ h => h) (Or.inl ⟨by kernel_rfl, ?_⟩) hS ?_; rotate_left; focus (intro uu hu; clear hu; go_simp; try with_reducible rfl)
          try simp only [Act.put, List.getElem_toArray, List.getElem_cons_succ, List.getElem_cons_zero, List.setIfInBounds_toArray, List.set_cons_zero, List.set_cons_succ]
          refine wpAnyH_take (i := 7) (v := ?_) rfl (by kernel_rfl) (by kernel_rfl) (by kernel_rfl) (fun _ _ _ h => h) (Or.inl ⟨by kernel_rfl, ?_⟩) hS ?_; rotate_left; focus (intro uu hu; clear hu; go_simp; try with_reducible rfl)
          try simp only [Act.put, List.getElem_toArray, List.getElem_cons_succ, List.getElem_cons_zero, List.setIfInBounds_toArray, List.set_cons_zero, List.set_cons_succ]
          refine wpAnyH_ready (rs := [9]) (by kernel_rfl) (by simp) ?_
          refine (AllReadyH.cons rfl (fun K hK => ?_) AllReadyH.nil)
          rw [if_pos (by kernel_rfl)]
          refine wp_store_row 43 (.tmp 14) (.tmp 100) rfl gx #[.int .i64 D.reg.lim, .int .i64 D.reg.top, .slice eaJ D.reg.es.length epJ, .int .i64 D.inr, .slice iaJ D.inT.length ipJ, .int .i64 D.outr, .slice oaJ D.outT.length opJ, .int .i64 D.get, .int .i64 D.give, .int .i64 D.first, .slice faJ D.flows.length fpJ, .bool D.away, .bool D.dead] rfl rfl 43 #[.int .i64 0, .int .i64 0, .slice none 0 0, .int .i64 0, .slice none 0 0, .int .i64 0, .slice none 0 0, .int .i64 0, .int .i64 0, .int .i64 0, .slice none 0 0, .bool false, .bool false] HBX.out (by kernel_rfl) rfl (by simp [Value.oneCell']) ?_
          have HB5 := hide (rowIs_setRow (cs' := [.int .i64 D.reg.lim, .int .i64 D.reg.top, .slice eaJ D.reg.es.length epJ, .int .i64 D.inr, .slice iaJ D.inT.length ipJ, .int .i64 D.outr, .slice oaJ D.outT.length opJ, .int .i64 D.get, .int .i64 D.give, .int .i64 D.first, .slice faJ D.flows.length fpJ, .bool D.away, .bool D.dead]) HBX.out)
          have hS5 := below_setRow hS HGX.out #[.int .i64 D.reg.lim, .int .i64 D.reg.top, .slice eaJ D.reg.es.length epJ, .int .i64 D.inr, .slice iaJ D.inT.length ipJ, .int .i64 D.outr, .slice oaJ D.outT.length opJ, .int .i64 D.get, .int .i64 D.give, .int .i64 D.first, .slice faJ D.flows.length fpJ, .bool D.away, .bool D.dead]
          replace OJ := hide (OJ.out.keep (by rw [setRow_size]; exact Nat.le_refl _) (fun b hb => setRow_other u7 gx #[.int .i64 D.reg.lim, .int .i64 D.reg.top, .slice eaJ D.reg.es.length epJ, .int .i64 D.inr, .slice iaJ D.inT.length ipJ, .int .i64 D.outr, .slice oaJ D.outT.length opJ, .int .i64 D.get, .int .i64 D.give, .int .i64 D.first, .slice faJ D.flows.length fpJ, .bool D.away, .bool D.dead] b (fun e => GOJ.out.1 (e ▸ hb))))
          replace FJ := hide (owns_kept FJ.out (fun q hq hl => setRow_other u7 gx #[.int .i64 D.reg.lim, .int .i64 D.reg.top, .slice eaJ D.reg.es.length epJ, .int .i64 D.inr, .slice iaJ D.inT.length ipJ, .int .i64 D.outr, .slice oaJ D.outT.length opJ, .int .i64 D.get, .int .i64 D.give, .int .i64 D.first, .slice faJ D.flows.length fpJ, .bool D.away, .bool D.dead] q (GOJ.out.2 q hq)))
          clear HBX
          have HBX := HB5
          clear HB5
          generalize u7.setRow gx #[.int .i64 D.reg.lim, .int .i64 D.reg.top, .slice eaJ D.reg.es.length epJ, .int .i64 D.inr, .slice iaJ D.inT.length ipJ, .int .i64 D.outr, .slice oaJ D.outT.length opJ, .int .i64 D.get, .int .i64 D.give, .int .i64 D.first, .slice faJ D.flows.length fpJ, .bool D.away, .bool D.dead] = u8 at *
          refine hK.out _ _ hS5 (fun hS => ?_)
          clear hK K hS5
          try simp only [Act.put, List.getElem_toArray, List.getElem_cons_succ, List.getElem_cons_zero, List.setIfInBounds_toArray, List.set_cons_zero, List.set_cons_succ]
          refine wpAnyH_take (i := 10) (v := ?_) rfl (by kernel_rfl) (by kernel_rfl) (by kernel_rfl) (fun _ _ _ h => h) (Or.inl ⟨by kernel_rfl, ?_⟩) hS ?_; rotate_left; focus (intro uu hu; clear hu; go_simp; try with_reducible rfl)
          try simp only [Act.put, List.getElem_toArray, List.getElem_cons_succ, List.getElem_cons_zero, List.setIfInBounds_toArray, List.set_cons_zero, List.set_cons_succ]
          refine wpAnyH_done (by kernel_rfl) ?_ _
          go_wp2_with fail
          go_meet
          exact ⟨gx, _, _, _, _, _, _, _, _, _, _, bsJ, rfl, rfl, HBX, OJ, LOJ, FJ, FAJ, GOJ, HGX, hS⟩
      · skip
        rw [if_pos (by kernel_rfl)]
        go_simp
        obtain ⟨u9, hu9⟩ : ∃ u, u1.alloc (.cells #[.int .i64 0, .int .i64 0, .slice none 0 0, .int .i64 0, .slice none 0 0, .int .i64 0, .slice none 0 0, .int .i64 0, .int .i64 0, .int .i64 0, .slice none 0 0, .bool false, .bool false] 43) = u := ⟨_, rfl⟩
        have hbu9 : Below u1.heap.size u1 u9 := by rw [← hu9]; exact (Below.refl _ _).alloc (Nat.le_refl _) _
        obtain ⟨gx, hgx⟩ : ∃ q, q = u1.heap.size := ⟨_, rfl⟩
        have HBX : Hid (RowIs u9 gx 43 [.int .i64 0, .int .i64 0, .slice none 0 0, .int .i64 0, .slice none 0 0, .int .i64 0, .slice none 0 0, .int .i64 0, .int .i64 0, .int .i64 0, .slice none 0 0, .bool false, .bool false]) := by show _; rw [← hu9, hgx]; exact rowIs_new _ _ _
        have HGX : Hid (w16.heap.size ≤ gx) := by show _ ≤ _; have := hS.size; omega
        replace OC := hide (OC.out.new hbu9)
        rw [hu9, ← hgx]
        refine hK.out _ _ (bchain hS hbu9) (fun hS => ?_)
        clear hu9 hgx hbu9 hK K
        try simp only [Act.put, List.getElem_toArray, List.getElem_cons_succ, List.getElem_cons_zero, List.setIfInBounds_toArray, List.set_cons_zero, List.set_cons_succ]
        refine wpAnyH_ready (rs := [3]) (by kernel_rfl) (by simp) ?_
        refine (AllReadyH.cons rfl (fun K hK => ?_) AllReadyH.nil)
        rw [if_pos (by kernel_rfl)]
        go_simp
        refine (toFrame1 f.k f.fl f.st f.b _).mono ?_; rintro x u10 ⟨rfl, hbu10⟩
        replace OC := hide (OC.out.new hbu10)
        replace HBX := hide (HBX.out.new hbu10)
        refine hK.out _ _ (bchain hS hbu10) (fun hS => ?_)
        clear hK K hbu10
        try simp only [Act.put, List.getElem_toArray, List.getElem_cons_succ, List.getElem_cons_zero, List.setIfInBounds_toArray, List.set_cons_zero, List.set_cons_succ]
        refine wpAnyH_ready (rs := [4]) (by kernel_rfl) (by simp) ?_
        refine (AllReadyH.cons rfl (fun K hK => ?_) AllReadyH.nil)
        rw [if_pos (by kernel_rfl)]
        go_simp
        refine (show Calls _ _ #[cnv d _ _ _ _, frv f] _ _ from Himpl.out _ _ _ _ _ OC.out.rd).mono ?_
        rintro x u11 ⟨v, vfr, rfl, ⟨ue, ui, uo, uf, bsJ, hveq, ho, hlo, hfo, hfa⟩, hbu11⟩
        subst hveq
        obtain ⟨fraJ, frpJ, hfe, _, _⟩ := owns_form hfo
        subst hfe
        have hsz9 := hS.size
        have OJ := hide ho
        have LOJ : Hid (∀ b ∈ bsJ, w16.heap.size ≤ b) := fun b hb => Nat.le_trans hsz9 (hlo b hb)
        have FJ := hide (owns_base hfo (fun q hq => Nat.le_trans hsz9 (hfo.lt q hq).1))
        have FAJ := hide hfa
        have GOJ : Hid (gx ∉ bsJ ∧ ∀ q, (Value.slice fraJ L.length frpJ).ownBlock = some q → q ≠ gx) := ⟨fun hx => by have h1 := hlo gx hx; have := HBX.out.lt; omega, fun q hq e => by have h1 := (hfo.lt q hq).1; have := HBX.out.lt; omega⟩
        clear ho hlo hfo hfa hsz9
        clear OC
        replace HBX := hide (HBX.out.new hbu11)
        obtain ⟨eaJ, epJ, heJ, _, _⟩ := OJ.out.rd.e.form
        subst heJ
        obtain ⟨iaJ, ipJ, hiJ, _, _⟩ := OJ.out.rd.i.form
        subst hiJ
        obtain ⟨oaJ, opJ, hoJ, _, _⟩ := OJ.out.rd.o.form
        subst hoJ
        obtain ⟨faJ, fpJ, hfJ, _, _⟩ := OJ.out.rd.f.form
        subst hfJ
        dsimp only [cnv]
        refine hK.out _ _ (bchain hS hbu11) (fun hS => ?_)
        clear hK K hbu11
        try simp only [Act.put, List.getElem_toArray, List.getElem_cons_succ, List.getElem_cons_zero, List.setIfInBounds_toArray, List.set_cons_zero, List.set_cons_succ]
        refine wpAnyH_take (i := 5) (v := ?_) rfl (by kernel_rfl) (by kernel_rfl) (by kernel_rfl) (fun _ _ _ h => h) (Or.inl ⟨by kernel_rfl, ?_⟩) hS ?_; rotate_left; focus (intro uu hu; clear hu; go_simp; try with_reducible rfl)
        try simp only [Act.put, List.getElem_toArray, List.getElem_cons_succ, List.getElem_cons_zero, List.setIfInBounds_toArray, List.set_cons_zero, List.set_cons_succ]
        refine wpAnyH_take (i := 6) (v := ?_) rfl (by kernel_rfl) (by kernel_rfl) (by kernel_rfl) (fun _ _ _ h => h) (Or.inl ⟨by kernel_rfl, ?_⟩) hS ?_; rotate_left; focus (intro uu hu; clear hu; go_simp; try with_reducible rfl)
        try simp only [Act.put, List.getElem_toArray, List.getElem_cons_succ, List.getElem_cons_zero, List.setIfInBounds_toArray, List.set_cons_zero, List.set_cons_succ]
        refine wpAnyH_take (i := 7) (v := ?_) rfl (by kernel_rfl) (by kernel_rfl) (by kernel_rfl) (fun _ _ _ h => h) (Or.inl ⟨by kernel_rfl, ?_⟩) hS ?_; rotate_left; focus (intro uu hu; clear hu; go_simp; try with_reducible rfl)
        try simp only [Act.put, List.getElem_toArray, List.getElem_cons_succ, List.getElem_cons_zero, List.setIfInBounds_toArray, List.set_cons_zero, List.set_cons_succ]
        refine wpAnyH_ready (rs := [9]) (by kernel_rfl) (by simp) ?_
        refine (AllReadyH.cons rfl (fun K hK => ?_) AllReadyH.nil)
        rw [if_pos (by kernel_rfl)]
        refine wp_store_row 43 (.tmp 14) (.tmp 100) rfl gx #[.int .i64 D.reg.lim, .int .i64 D.reg.top, .slice eaJ D.reg.es.length epJ, .int .i64 D.inr, .slice iaJ D.inT.length ipJ, .int .i64 D.outr, .slice oaJ D.outT.length opJ, .int .i64 D.get, .int .i64 D.give, .int .i64 D.first, .slice faJ D.flows.length fpJ, .bool D.away, .bool D.dead] rfl rfl 43 #[.int .i64 0, .int .i64 0, .slice none 0 0, .int .i64 0, .slice none 0 0, .int .i64 0, .slice none 0 0, .int .i64 0, .int .i64 0, .int .i64 0, .slice none 0 0, .bool false, .bool false] HBX.out (by kernel_rfl) rfl (by simp [Value.oneCell']) ?_
        have HB5 := hide (rowIs_setRow (cs' := [.int .i64 D.reg.lim, .int .i64 D.reg.top, .slice eaJ D.reg.es.length epJ, .int .i64 D.inr, .slice iaJ D.inT.length ipJ, .int .i64 D.outr, .slice oaJ D.outT.length opJ, .int .i64 D.get, .int .i64 D.give, .int .i64 D.first, .slice faJ D.flows.length fpJ, .bool D.away, .bool D.dead]) HBX.out)
        have hS5 := below_setRow hS HGX.out #[.int .i64 D.reg.lim, .int .i64 D.reg.top, .slice eaJ D.reg.es.length epJ, .int .i64 D.inr, .slice iaJ D.inT.length ipJ, .int .i64 D.outr, .slice oaJ D.outT.length opJ, .int .i64 D.get, .int .i64 D.give, .int .i64 D.first, .slice faJ D.flows.length fpJ, .bool D.away, .bool D.dead]
        replace OJ := hide (OJ.out.keep (by rw [setRow_size]; exact Nat.le_refl _) (fun b hb => setRow_other u11 gx #[.int .i64 D.reg.lim, .int .i64 D.reg.top, .slice eaJ D.reg.es.length epJ, .int .i64 D.inr, .slice iaJ D.inT.length ipJ, .int .i64 D.outr, .slice oaJ D.outT.length opJ, .int .i64 D.get, .int .i64 D.give, .int .i64 D.first, .slice faJ D.flows.length fpJ, .bool D.away, .bool D.dead] b (fun e => GOJ.out.1 (e ▸ hb))))
        replace FJ := hide (owns_kept FJ.out (fun q hq hl => setRow_other u11 gx #[.int .i64 D.reg.lim, .int .i64 D.reg.top, .slice eaJ D.reg.es.length epJ, .int .i64 D.inr, .slice iaJ D.inT.length ipJ, .int .i64 D.outr, .slice oaJ D.outT.length opJ, .int .i64 D.get, .int .i64 D.give, .int .i64 D.first, .slice faJ D.flows.length fpJ, .bool D.away, .bool D.dead] q (GOJ.out.2 q hq)))
        clear HBX
        have HBX := HB5
        clear HB5
        generalize u11.setRow gx #[.int .i64 D.reg.lim, .int .i64 D.reg.top, .slice eaJ D.reg.es.length epJ, .int .i64 D.inr, .slice iaJ D.inT.length ipJ, .int .i64 D.outr, .slice oaJ D.outT.length opJ, .int .i64 D.get, .int .i64 D.give, .int .i64 D.first, .slice faJ D.flows.length fpJ, .bool D.away, .bool D.dead] = u12 at *
        refine hK.out _ _ hS5 (fun hS => ?_)
        clear hK K hS5
        try simp only [Act.put, List.getElem_toArray, List.getElem_cons_succ, List.getElem_cons_zero, List.setIfInBounds_toArray, List.set_cons_zero, List.set_cons_succ]
        refine wpAnyH_take (i := 10) (v := ?_) rfl (by kernel_rfl) (by kernel_rfl) (by kernel_rfl) (fun _ _ _ h => h) (Or.inl ⟨by kernel_rfl, ?_⟩) hS ?_; rotate_left; focus (intro uu hu; clear hu; go_simp; try with_reducible rfl)
        try simp only [Act.put, List.getElem_toArray, List.getElem_cons_succ, List.getElem_cons_zero, List.setIfInBounds_toArray, List.set_cons_zero, List.set_cons_succ]
        refine wpAnyH_done (by kernel_rfl) ?_ _
        go_wp2_with fail
        go_meet
        exact ⟨gx, _, _, _, _, _, _, _, _, _, _, bsJ, rfl, rfl, HBX, OJ, LOJ, FJ, FAJ, GOJ, HGX, hS⟩
    · skip
      rw [if_pos (by kernel_rfl)]
      go_simp
      obtain ⟨u13, hu13⟩ : ∃ u, u0.alloc (.cells #[.int .i64 0, .int .i64 0, .slice none 0 0, .int .i64 0, .slice none 0 0, .int .i64 0, .slice none 0 0, .int .i64 0, .int .i64 0, .int .i64 0, .slice none 0 0, .bool false, .bool false] 43) = u := ⟨_, rfl⟩
      have hbu13 : Below u0.heap.size u0 u13 := by rw [← hu13]; exact (Below.refl _ _).alloc (Nat.le_refl _) _
      obtain ⟨gx, hgx⟩ : ∃ q, q = u0.heap.size := ⟨_, rfl⟩
      have HBX : Hid (RowIs u13 gx 43 [.int .i64 0, .int .i64 0, .slice none 0 0, .int .i64 0, .slice none 0 0, .int .i64 0, .slice none 0 0, .int .i64 0, .int .i64 0, .int .i64 0, .slice none 0 0, .bool false, .bool false]) := by show _; rw [← hu13, hgx]; exact rowIs_new _ _ _
      have HGX : Hid (w16.heap.size ≤ gx) := by show _ ≤ _; have := hS.size; omega
      rw [hu13, ← hgx]
      refine hK.out _ _ (bchain hS hbu13) (fun hS => ?_)
      clear hu13 hgx hbu13 hK K
      try simp only [Act.put, List.getElem_toArray, List.getElem_cons_succ, List.getElem_cons_zero, List.setIfInBounds_toArray, List.set_cons_zero, List.set_cons_succ]
      refine wpAnyH_ready (rs := [1]) (by kernel_rfl) (by simp) ?_
      refine (AllReadyH.cons rfl (fun K hK => ?_) AllReadyH.nil)
      rw [if_pos (by kernel_rfl)]
      go_simp
      refine (show Calls _ _ #[cnv d _ _ _ _] _ _ from toConn1 d _ _ _ _ _ (HV.out.new (bchain HBQ.out hS)) HS9.out).mono ?_
      rintro x u14 ⟨ue, ui, uo, uf, bsJc, rfl, ho, hlo, hbu14⟩
      have OC := hide ho
      clear ho hlo
      replace HBX := hide (HBX.out.new hbu14)
      obtain ⟨eaJc, epJc, heJc, _, _⟩ := OC.out.rd.e.form
      subst heJc
      obtain ⟨iaJc, ipJc, hiJc, _, _⟩ := OC.out.rd.i.form
      subst hiJc
      obtain ⟨oaJc, opJc, hoJc, _, _⟩ := OC.out.rd.o.form
      subst hoJc
      obtain ⟨faJc, fpJc, hfJc, _, _⟩ := OC.out.rd.f.form
      subst hfJc
      dsimp only [cnv]
      refine hK.out _ _ (bchain hS hbu14) (fun hS => ?_)
      clear hK K hbu14
      try simp only [Act.put, List.getElem_toArray, List.getElem_cons_succ, List.getElem_cons_zero, List.setIfInBounds_toArray, List.set_cons_zero, List.set_cons_succ]
      refine wpAnyH_ready (rs := [3]) (by kernel_rfl) (by simp) ?_
      refine (AllReadyH.cons rfl (fun K hK => ?_) AllReadyH.nil)
      rw [if_pos (by kernel_rfl)]
      go_simp
      refine (toFrame1 f.k f.fl f.st f.b _).mono ?_; rintro x u15 ⟨rfl, hbu15⟩
      replace HBX := hide (HBX.out.new hbu15)
      replace OC := hide (OC.out.new hbu15)
      refine hK.out _ _ (bchain hS hbu15) (fun hS => ?_)
      clear hK K hbu15
      try simp only [Act.put, List.getElem_toArray, List.getElem_cons_succ, List.getElem_cons_zero, List.setIfInBounds_toArray, List.set_cons_zero, List.set_cons_succ]
      refine wpAnyH_ready (rs := [4]) (by kernel_rfl) (by simp) ?_
      refine (AllReadyH.cons rfl (fun K hK => ?_) AllReadyH.nil)
      rw [if_pos (by kernel_rfl)]
      go_simp
      refine (show Calls _ _ #[cnv d _ _ _ _, frv f] _ _ from Himpl.out _ _ _ _ _ OC.out.rd).mono ?_
      rintro x u16 ⟨v, vfr, rfl, ⟨ue, ui, uo, uf, bsJ, hveq, ho, hlo, hfo, hfa⟩, hbu16⟩
      subst hveq
      obtain ⟨fraJ, frpJ, hfe, _, _⟩ := owns_form hfo
      subst hfe
      have hsz9 := hS.size
      have OJ := hide ho
      have LOJ : Hid (∀ b ∈ bsJ, w16.heap.size ≤ b) := fun b hb => Nat.le_trans hsz9 (hlo b hb)
      have FJ := hide (owns_base hfo (fun q hq => Nat.le_trans hsz9 (hfo.lt q hq).1))
      have FAJ := hide hfa
      have GOJ : Hid (gx ∉ bsJ ∧ ∀ q, (Value.slice fraJ L.length frpJ).ownBlock = some q → q ≠ gx) := ⟨fun hx => by have h1 := hlo gx hx; have := HBX.out.lt; omega, fun q hq e => by have h1 := (hfo.lt q hq).1; have := HBX.out.lt; omega⟩
      clear ho hlo hfo hfa hsz9
      clear OC
      replace HBX := hide (HBX.out.new hbu16)
      obtain ⟨eaJ, epJ, heJ, _, _⟩ := OJ.out.rd.e.form
      subst heJ
      obtain ⟨iaJ, ipJ, hiJ, _, _⟩ := OJ.out.rd.i.form
      subst hiJ
      obtain ⟨oaJ, opJ, hoJ, _, _⟩ := OJ.out.rd.o.form
      subst hoJ
      obtain ⟨faJ, fpJ, hfJ, _, _⟩ := OJ.out.rd.f.form
      subst hfJ
      dsimp only [cnv]
      refine hK.out _ _ (bchain hS hbu16) (fun hS => ?_)
      clear hK K hbu16
      try simp only [Act.put, List.getElem_toArray, List.getElem_cons_succ, List.getElem_cons_zero, List.setIfInBounds_toArray, List.set_cons_zero, List.set_cons_succ]
      refine wpAnyH_take (i := 5) (v := ?_) rfl (by kernel_rfl) (by kernel_rfl) (by kernel_rfl) (fun _ _ _ h => h) (Or.inl ⟨by kernel_rfl, ?_⟩) hS ?_; rotate_left; focus (intro uu hu; clear hu; go_simp; try with_reducible rfl)
      try simp only [Act.put, List.getElem_toArray, List.getElem_cons_succ, List.getElem_cons_zero, List.setIfInBounds_toArray, List.set_cons_zero, List.set_cons_succ]
      refine wpAnyH_take (i := 6) (v := ?_) rfl (by kernel_rfl) (by kernel_rfl) (by kernel_rfl) (fun _ _ _ h => h) (Or.inl ⟨by kernel_rfl, ?_⟩) hS ?_; rotate_left; focus (intro uu hu; clear hu; go_simp; try with_reducible rfl)
      try simp only [Act.put, List.getElem_toArray, List.getElem_cons_succ, List.getElem_cons_zero, List.setIfInBounds_toArray, List.set_cons_zero, List.set_cons_succ]
      refine wpAnyH_take (i := 7) (v := ?_) rfl (by kernel_rfl) (by kernel_rfl) (by kernel_rfl) (fun _ _ _ h => h) (Or.inl ⟨by kernel_rfl, ?_⟩) hS ?_; rotate_left; focus (intro uu hu; clear hu; go_simp; try with_reducible rfl)
      try simp only [Act.put, List.getElem_toArray, List.getElem_cons_succ, List.getElem_cons_zero, List.setIfInBounds_toArray, List.set_cons_zero, List.set_cons_succ]
      refine wpAnyH_ready (rs := [9]) (by kernel_rfl) (by simp) ?_
      refine (AllReadyH.cons rfl (fun K hK => ?_) AllReadyH.nil)
      rw [if_pos (by kernel_rfl)]
      refine wp_store_row 43 (.tmp 14) (.tmp 100) rfl gx #[.int .i64 D.reg.lim, .int .i64 D.reg.top, .slice eaJ D.reg.es.length epJ, .int .i64 D.inr, .slice iaJ D.inT.length ipJ, .int .i64 D.outr, .slice oaJ D.outT.length opJ, .int .i64 D.get, .int .i64 D.give, .int .i64 D.first, .slice faJ D.flows.length fpJ, .bool D.away, .bool D.dead] rfl rfl 43 #[.int .i64 0, .int .i64 0, .slice none 0 0, .int .i64 0, .slice none 0 0, .int .i64 0, .slice none 0 0, .int .i64 0, .int .i64 0, .int .i64 0, .slice none 0 0, .bool false, .bool false] HBX.out (by kernel_rfl) rfl (by simp [Value.oneCell']) ?_
      have HB5 := hide (rowIs_setRow (cs' := [.int .i64 D.reg.lim, .int .i64 D.reg.top, .slice eaJ D.reg.es.length epJ, .int .i64 D.inr, .slice iaJ D.inT.length ipJ, .int .i64 D.outr, .slice oaJ D.outT.length opJ, .int .i64 D.get, .int .i64 D.give, .int .i64 D.first, .slice faJ D.flows.length fpJ, .bool D.away, .bool D.dead]) HBX.out)
      have hS5 := below_setRow hS HGX.out #[.int .i64 D.reg.lim, .int .i64 D.reg.top, .slice eaJ D.reg.es.length epJ, .int .i64 D.inr, .slice iaJ D.inT.length ipJ, .int .i64 D.outr, .slice oaJ D.outT.length opJ, .int .i64 D.get, .int .i64 D.give, .int .i64 D.first, .slice faJ D.flows.length fpJ, .bool D.away, .bool D.dead]
      replace OJ := hide (OJ.out.keep (by rw [setRow_size]; exact Nat.le_refl _) (fun b hb => setRow_other u16 gx #[.int .i64 D.reg.lim, .int .i64 D.reg.top, .slice eaJ D.reg.es.length epJ, .int .i64 D.inr, .slice iaJ D.inT.length ipJ, .int .i64 D.outr, .slice oaJ D.outT.length opJ, .int .i64 D.get, .int .i64 D.give, .int .i64 D.first, .slice faJ D.flows.length fpJ, .bool D.away, .bool D.dead] b (fun e => GOJ.out.1 (e ▸ hb))))
      replace FJ := hide (owns_kept FJ.out (fun q hq hl => setRow_other u16 gx #[.int .i64 D.reg.lim, .int .i64 D.reg.top, .slice eaJ D.reg.es.length epJ, .int .i64 D.inr, .slice iaJ D.inT.length ipJ, .int .i64 D.outr, .slice oaJ D.outT.length opJ, .int .i64 D.get, .int .i64 D.give, .int .i64 D.first, .slice faJ D.flows.length fpJ, .bool D.away, .bool D.dead] q (GOJ.out.2 q hq)))
      clear HBX
      have HBX := HB5
      clear HB5
      generalize u16.setRow gx #[.int .i64 D.reg.lim, .int .i64 D.reg.top, .slice eaJ D.reg.es.length epJ, .int .i64 D.inr, .slice iaJ D.inT.length ipJ, .int .i64 D.outr, .slice oaJ D.outT.length opJ, .int .i64 D.get, .int .i64 D.give, .int .i64 D.first, .slice faJ D.flows.length fpJ, .bool D.away, .bool D.dead] = u17 at *
      refine hK.out _ _ hS5 (fun hS => ?_)
      clear hK K hS5
      try simp only [Act.put, List.getElem_toArray, List.getElem_cons_succ, List.getElem_cons_zero, List.setIfInBounds_toArray, List.set_cons_zero, List.set_cons_succ]
      refine wpAnyH_take (i := 10) (v := ?_) rfl (by kernel_rfl) (by kernel_rfl) (by kernel_rfl) (fun _ _ _ h => h) (Or.inl ⟨by kernel_rfl, ?_⟩) hS ?_; rotate_left; focus (intro uu hu; clear hu; go_simp; try with_reducible rfl)
      try simp only [Act.put, List.getElem_toArray, List.getElem_cons_succ, List.getElem_cons_zero, List.setIfInBounds_toArray, List.set_cons_zero, List.set_cons_succ]
      refine wpAnyH_done (by kernel_rfl) ?_ _
      go_wp2_with fail
      go_meet
      exact ⟨gx, _, _, _, _, _, _, _, _, _, _, bsJ, rfl, rfl, HBX, OJ, LOJ, FJ, FAJ, GOJ, HGX, hS⟩
  obtain ⟨gJ, eaJ, epJ, iaJ, ipJ, oaJ, opJ, faJ, fpJ, fraJ, frpJ, bsJ, rfl, rfl, BJ, OJ, LOJ, FJ, FAJ, GOJ, GLJ, hbc0⟩ := hcut
  have hb := hbc0.out
  clear hbc0
  generalize wc = w17 at *
  clear HB RX BS CS RS RF
  replace HBS := hide (bchain HBS.out hb)
  replace BI := hide (BI.out.new hb)
  replace OM := hide (OM.out.new hb)
  replace FM := hide (FM.out.new hb)
  clear hb
  have HB := hide (bchain HBo.out HBS.out)
  have RX := hide (RXo.out.new HBS.out)
  have BS := hide (BSo.out.new HBS.out)
  have CS := hide (CSo.out.new HBS.out)
  have RS := hide (RSo.out.new HBS.out)
  have RF := hide (RFo.out.new HBS.out)
  have t0 := RowIs.cell (j := 0) BJ.out rfl
  have t1 := RowIs.cell (j := 1) BJ.out rfl
  have t2 := RowIs.cell (j := 2) BJ.out rfl
  have t3 := RowIs.cell (j := 3) BJ.out rfl
  have t4 := RowIs.cell (j := 4) BJ.out rfl
  have t5 := RowIs.cell (j := 5) BJ.out rfl
  have t6 := RowIs.cell (j := 6) BJ.out rfl
  have t7 := RowIs.cell (j := 7) BJ.out rfl
  have t8 := RowIs.cell (j := 8) BJ.out rfl
  have t9 := RowIs.cell (j := 9) BJ.out rfl
  have t10 := RowIs.cell (j := 10) BJ.out rfl
  have t11 := RowIs.cell (j := 11) BJ.out rfl
  have t12 := RowIs.cell (j := 12) BJ.out rfl
  have tl := BJ.out.lt
  have s0 := RowIs.cell (j := 0) BS.out rfl
  have s1 := RowIs.cell (j := 1) BS.out rfl
  have s2 := RowIs.cell (j := 2) BS.out rfl
  have s3 := RowIs.cell (j := 3) BS.out rfl
  have s4 := RowIs.cell (j := 4) BS.out rfl
  have s5 := RowIs.cell (j := 5) BS.out rfl
  have s6 := RowIs.cell (j := 6) BS.out rfl
  have s7 := RowIs.cell (j := 7) BS.out rfl
  have s8 := RowIs.cell (j := 8) BS.out rfl
  have s9 := RowIs.cell (j := 9) BS.out rfl
  have s10 := RowIs.cell (j := 10) BS.out rfl
  have s11 := RowIs.cell (j := 11) BS.out rfl
  have s12 := RowIs.cell (j := 12) BS.out rfl
  have sl := BS.out.lt
  go_wp2_with fail
  refine (show Calls _ _ #[cnv D _ _ _ _, cnv D _ _ _ _] _ _ from eqConn1 D _ _ _ _ _ _ _ _ _ OJ.out.rd CS.out).mono ?_; rintro x w18 ⟨rfl, hb⟩
  clear t0 t1 t2 t3 t4 t5 t6 t7 t8 t9 t10 t11 t12 tl
  clear s0 s1 s2 s3 s4 s5 s6 s7 s8 s9 s10 s11 s12 sl
  clear HB RX BS CS RS RF
  replace HBS := hide (bchain HBS.out hb)
  replace BI := hide (BI.out.new hb)
  replace OM := hide (OM.out.new hb)
  replace FM := hide (FM.out.new hb)
  replace OJ := hide (OJ.out.new hb)
  replace FJ := hide (owns_new FJ.out hb)
  replace BJ := hide (BJ.out.new hb)
  clear hb
  have RS := hide (RSo.out.new HBS.out)
  go_wp2_with fail
  refine (eqFrames L _ _ _ (reads_of_owns FJ.out) RS.out).mono ?_; rintro x w19 ⟨rfl, hb⟩
  clear RS
  replace HBS := hide (bchain HBS.out hb)
  replace BI := hide (BI.out.new hb)
  replace OM := hide (OM.out.new hb)
  replace FM := hide (FM.out.new hb)
  replace OJ := hide (OJ.out.new hb)
  replace FJ := hide (owns_new FJ.out hb)
  replace BJ := hide (BJ.out.new hb)
  clear hb
  have t0 := RowIs.cell (j := 0) BI.out rfl
  have t1 := RowIs.cell (j := 1) BI.out rfl
  have t2 := RowIs.cell (j := 2) BI.out rfl
  have t3 := RowIs.cell (j := 3) BI.out rfl
  have t4 := RowIs.cell (j := 4) BI.out rfl
  have t5 := RowIs.cell (j := 5) BI.out rfl
  have t6 := RowIs.cell (j := 6) BI.out rfl
  have t7 := RowIs.cell (j := 7) BI.out rfl
  have t8 := RowIs.cell (j := 8) BI.out rfl
  have t9 := RowIs.cell (j := 9) BI.out rfl
  have t10 := RowIs.cell (j := 10) BI.out rfl
  have t11 := RowIs.cell (j := 11) BI.out rfl
  have t12 := RowIs.cell (j := 12) BI.out rfl
  have tl := BI.out.lt
  go_wp2_with fail
  have hhd := heldConn1 D D (.slice eaI D.reg.es.length epI) (.slice iaI D.inT.length ipI) (.slice oaI D.outT.length opI) (.slice faI D.flows.length fpI) 1 w19 OM.out.rd (by rw [HK1.out]; omega)
  rw [HK1.out] at hhd
  refine (show Calls _ _ #[cnv D _ _ _ _, _] _ _ from hhd).mono ?_; clear hhd; rintro x w20 ⟨rfl, hb⟩
  have hk10 : ¬ ((K1 : Nat) : Int) < 0 := by omega
  clear t0 t1 t2 t3 t4 t5 t6 t7 t8 t9 t10 t11 t12 tl
  replace HBS := hide (bchain HBS.out hb)
  replace BI := hide (BI.out.new hb)
  replace OM := hide (OM.out.new hb)
  replace FM := hide (FM.out.new hb)
  replace OJ := hide (OJ.out.new hb)
  replace FJ := hide (owns_new FJ.out hb)
  replace BJ := hide (BJ.out.new hb)
  clear hb
  go_wp2_with fail
  have hhd := heldFrames L.length K1 (.slice fraI L.length frpI) w20 FM.out hk2
  rw [HK2.out] at hhd
  refine hhd.mono ?_; clear hhd; rintro x w21 ⟨rfl, hb⟩
  have hk20 : ¬ ((K2 : Nat) : Int) < 0 := by omega
  replace HBS := hide (bchain HBS.out hb)
  replace BI := hide (BI.out.new hb)
  replace OM := hide (OM.out.new hb)
  replace FM := hide (FM.out.new hb)
  replace OJ := hide (OJ.out.new hb)
  replace FJ := hide (owns_new FJ.out hb)
  replace BJ := hide (BJ.out.new hb)
  clear hb
  have HB := bchain HBo.out HBS.out
  go_wp2_with fail
  go_ret
  exact ⟨rfl, HB⟩
end exactGot
end Go.Proofs.YtllaeakeaabiaaaGreat
