/- Several small texts of one level, one behind the other. -/
import Derived.Test.YtllaeakeaabiaaaGreatQG35
import Derived.Test.YtllaeakeaabiaaaGreatQG36
import Derived.Test.YtllaeakeaabiaaaGreatQG34
import Derived.Test.YtllaeakeaabiaaaGreatQG31
import Derived.Test.YtllaeakeaabiaaaGreatQG30
import Derived.Test.YtllaeakeaabiaaaGreatQG7
import Derived.Test.YtllaeakeaabiaaaGreatQG25
import Derived.Test.YtllaeakeaabiaaaGreatQG27
/- Chapter 17's model as it is called: taken, replied. -/
namespace Go.Proofs.YtllaeakeaabiaaaGreat
open Go.RowKit
set_option maxRecDepth 100000
set_option linter.unusedSimpArgs false
set_option linter.unusedVariables false
theorem zero_ow (V : World) : CnOw V [] zCn (.slice none 0 0) (.slice none 0 0) (.slice none 0 0) (.slice none 0 0) :=
  ⟨⟨[], [], [], [], ⟨[], rfl, World.ownsRow_nil V 0 _ _, fun t ht => (by cases ht), rfl⟩, ⟨[], rfl, World.ownsRow_nil V 0 _ _, fun t ht => (by cases ht), rfl⟩, ⟨[], rfl, World.ownsRow_nil V 0 _ _, fun t ht => (by cases ht), rfl⟩, ⟨[], rfl, World.ownsRow_nil V 0 _ _, fun t ht => (by cases ht), rfl⟩, rfl⟩, by simp⟩
end Go.Proofs.YtllaeakeaabiaaaGreat
/- Chapter 17's model in place: whatever frame came. -/
namespace Go.Proofs.YtllaeakeaabiaaaGreat
open Go.RowKit
set_option maxRecDepth 100000
set_option linter.unusedSimpArgs false
set_option linter.unusedVariables false
theorem got_else {d : CnD} {f : Fr} (h : d.dead = false) (h1 : f.k ≠ 1) (h2 : f.k ≠ 2) (h3 : f.k ≠ 3) (h4 : f.k ≠ 4) (h5 : f.k ≠ 5) (h6 : f.k ≠ 6) (h7 : f.k ≠ 7) : gotRaw d f = (d, []) := by
  unfold gotRaw; rw [if_neg (by rw [h]; decide), if_neg h4, if_neg h5, if_neg h6, if_neg h7, if_neg h2, if_neg h1, if_neg h3]
theorem stream_no {k fl st : Int} {b : ByteArray} (h : okFr ⟨k, fl, st, b⟩ = true) (hk : k = 1) : 0 ≤ fl ∧ st ≠ 0 := by
  have h1 := hd_parts (ok_head h)
  refine ⟨h1.1, ?_⟩
  have h2 := ok_head h
  subst hk
  unfold hdOk at h2
  dsimp only at h2
  split at h2
  · cases h2
  · rw [if_pos rfl] at h2
    simp only [Bool.and_eq_true, decide_eq_true_eq] at h2
    omega
set_option maxHeartbeats 8000000 in
theorem gotM (g : Nat) (d : CnD) (bs : List Nat) (fk fl id : Int) (b : ByteArray) (w : World) (h : CnM w g d bs) (hok : okCn d = true) (hf : okFr ⟨fk, fl, id, b⟩ = true) :
    Calls Tryz.prog 25 #[.pointer (some ⟨g, 0, none⟩), .agg #[.int .i64 fk, .int .i64 fl, .int .i64 id, .string b]] w (StepC w g bs (gotRaw d ⟨fk, fl, id, b⟩)) := by
  obtain ⟨hlen, h60⟩ := cn_len hok
  have hfle : d.flows.length ≤ 60 := by omega
  have hgl := h.lt
  have hbz : b.size ≤ 1000 := by have := hd_parts (ok_head hf); dsimp only at this; omega
  have HSN := hide (fun h => stream_no hf h)
  have HH := hide (Here.start h ⟨fk, fl, id, b⟩)
  dsimp only at HH
  clear h hf
  obtain ⟨⟨qe, qi, qo, qf, hrow, hcw⟩, _⟩ := HH.out.c
  have x12 := RowIs.cell (j := 12) hrow rfl
  have x11 := RowIs.cell (j := 11) hrow rfl
  have xf := fun j => RowIs.frozen hrow j
  have xl := hrow.lt
  have r0 := HH.out.r.cell (j := 0) rfl
  have r1 := HH.out.r.cell (j := 1) rfl
  have r2 := HH.out.r.cell (j := 2) rfl
  have r3 := HH.out.r.cell (j := 3) rfl
  have rl := HH.out.r.lt
  dsimp only at r0 r1 r2 r3 x12 x11
  clear hrow hcw
  go_enter Tryz.func25, Tryz.ntmps25
  go_upto_region 1 with fail
  generalize w.alloc (.cells #[.int .i64 fk, .int .i64 fl, .int .i64 id, .string b] 48) = W at *
  cases hdead : d.dead
  rotate_left
  · have HW : Hid (gotRaw d ⟨fk, fl, id, b⟩ = (d, [])) := by show _ = _; unfold gotRaw; rw [if_pos hdead]
    rw [hdead] at x12
    go_wp2_with fail
    go_ret
    rw [HW.out]
    exact HH.out.done (StepC.nothing HH.out.c)
  rw [hdead] at x12
  by_cases hk4 : fk = 4
  · subst hk4
    have HW : Hid (gotRaw d ⟨4, fl, id, b⟩ = settleD d b) := by show _ = _; unfold gotRaw; rw [if_neg (by rw [hdead]; decide)]; rfl
    go_wp2_with fail
    refine (settleM g d bs 4 fl id b _ HH.out.c hok (by unfold maxLen; omega)).mono ?_
    intro x w3 hst
    have hst2 := HH.out.done hst
    obtain ⟨v3, bs3, rfl, hrest⟩ := hst2
    go_wp2_with fail
    go_ret
    rw [HW.out]
    exact ⟨v3, bs3, rfl, hrest⟩
  have hk4b : (fk == 4) = false := by simpa using hk4
  by_cases hk5 : fk = 5
  · subst hk5
    by_cases hfl : fl = 0
    · subst hfl
      have HW : Hid (gotRaw d ⟨5, 0, id, b⟩ = (d, [⟨5, 1, 0, b⟩])) := by show _ = _; unfold gotRaw; rw [if_neg (by rw [hdead]; decide)]; rfl
      go_wp2_with fail
      go_ret
      rw [HW.out]
      exact HH.out.done (StepC.one ⟨5, 1, 0, b⟩ HH.out.c)
    have hflb : (fl == 0) = false := by simpa using hfl
    have HW : Hid (gotRaw d ⟨5, fl, id, b⟩ = (d, [])) := by show _ = _; unfold gotRaw; rw [if_neg (by rw [hdead]; decide), if_neg (show ¬ (5 : Int) = 4 by decide), if_pos rfl, if_neg hfl]
    go_wp2_with fail
    go_ret
    rw [HW.out]
    exact HH.out.done (StepC.nothing HH.out.c)
  have hk5b : (fk == 5) = false := by simpa using hk5
  by_cases hk6 : fk = 6
  · subst hk6
    have HW : Hid (gotRaw d ⟨6, fl, id, b⟩ = ({ d with away := true }, [])) := by show _ = _; unfold gotRaw; rw [if_neg (by rw [hdead]; decide)]; rfl
    have HH6 := hide (HH.out.turn (HH.out.c.setAway) ((TurnB.refl _ _).set ⟨g, 11, none⟩ (.bool true) (by simp)) (NewB.refl _ _))
    go_wp2_with fail
    go_ret
    rw [HW.out]
    exact HH6.out.done (StepC.nothing HH6.out.c)
  have hk6b : (fk == 6) = false := by simpa using hk6
  by_cases hk7 : fk = 7
  · subst hk7
    have HW : Hid (gotRaw d ⟨7, fl, id, b⟩ = windowD d id b) := by show _ = _; unfold gotRaw; rw [if_neg (by rw [hdead]; decide)]; rfl
    go_wp2_with fail
    refine (windowM g d bs 7 fl id b _ HH.out.c hok (by unfold maxLen; omega)).mono ?_
    intro x w3 hst
    have hst2 := HH.out.done hst
    obtain ⟨v3, bs3, rfl, hrest⟩ := hst2
    go_wp2_with fail
    go_ret
    rw [HW.out]
    exact ⟨v3, bs3, rfl, hrest⟩
  have hk7b : (fk == 7) = false := by simpa using hk7
  by_cases hk2 : fk = 2
  · subst hk2
    have HW : Hid (gotRaw d ⟨2, fl, id, b⟩ = headD d id fl b) := by show _ = _; unfold gotRaw; rw [if_neg (by rw [hdead]; decide)]; rfl
    go_wp2_with fail
    refine (headM g d bs 2 fl id b _ HH.out.c hok (by omega)).mono ?_
    intro x w3 hst
    have hst2 := HH.out.done hst
    obtain ⟨v3, bs3, rfl, hrest⟩ := hst2
    go_wp2_with fail
    go_ret
    rw [HW.out]
    exact ⟨v3, bs3, rfl, hrest⟩
  have hk2b : (fk == 2) = false := by simpa using hk2
  by_cases hk1 : fk = 1
  · subst hk1
    have HW : Hid (gotRaw d ⟨1, fl, id, b⟩ = dataD d ⟨1, fl, id, b⟩) := by show _ = _; unfold gotRaw; rw [if_neg (by rw [hdead]; decide)]; rfl
    go_wp2_with fail
    refine (dataM g d bs 1 fl id b _ HH.out.c hok (by omega) (HSN.out (by simp)).1 (HSN.out (by simp)).2).mono ?_
    intro x w3 hst
    have hst2 := HH.out.done hst
    obtain ⟨v3, bs3, rfl, hrest⟩ := hst2
    go_wp2_with fail
    go_ret
    rw [HW.out]
    exact ⟨v3, bs3, rfl, hrest⟩
  have hk1b : (fk == 1) = false := by simpa using hk1
  by_cases hk3 : fk = 3
  rotate_left
  · have hk3b : (fk == 3) = false := by simpa using hk3
    have HW := hide (got_else (d := d) (f := ⟨fk, fl, id, b⟩) hdead hk1 hk2 hk3 hk4 hk5 hk6 hk7)
    go_wp2_with fail
    go_ret
    rw [HW.out]
    exact HH.out.done (StepC.nothing HH.out.c)
  subst hk3
  have HW : Hid (gotRaw d ⟨3, fl, id, b⟩ = (if stateD d.reg id = 0 then failD d 1 else (atFl (hapD d id 4) id tornF, []))) := by show _ = _; unfold gotRaw; rw [if_neg (by rw [hdead]; decide)]; rfl
  clear HSN
  have hS5 := fun v w h => specState0 d.reg v id w h
  obtain ⟨s, hs⟩ : ∃ s, stateD d.reg id = s := ⟨_, rfl⟩
  rw [hs] at hS5 HW
  clear hs
  obtain ⟨⟨qe, qi, qo, qf, hrow, hcw⟩, _⟩ := HH.out.c
  have x0 := RowIs.cell (j := 0) hrow rfl
  have x1 := RowIs.cell (j := 1) hrow rfl
  have x2 := RowIs.cell (j := 2) hrow rfl
  have xl := hrow.lt
  have HE := hide hcw.rd.e
  have r2 := HH.out.r.cell (j := 2) rfl
  have rl := HH.out.r.lt
  clear hrow hcw
  dsimp only at x0 x1 x2 r2 HE
  go_upto_region 18 with fail
  have y0 : ∀ y : Later W, y.w.cell? ⟨g, 0, none⟩ = some (.int .i64 d.reg.lim) := fun y => (y.b.cell (p := ⟨g, 0, none⟩) xl).trans x0
  have y1 : ∀ y : Later W, y.w.cell? ⟨g, 1, none⟩ = some (.int .i64 d.reg.top) := fun y => (y.b.cell (p := ⟨g, 1, none⟩) xl).trans x1
  have y2 : ∀ y : Later W, y.w.cell? ⟨g, 2, none⟩ = some qe := fun y => (y.b.cell (p := ⟨g, 2, none⟩) xl).trans x2
  have z2 : ∀ y : Later W, y.w.cell? ⟨w.heap.size, 2, none⟩ = some (.int .i64 id) := fun y => (y.b.cell (p := ⟨w.heap.size, 2, none⟩) rl).trans r2
  have hne : Nonempty (Later W) := ⟨⟨W, Below.refl _ _⟩⟩; refine region_later (by kernel_rfl) (by kernel_rfl) ?_
  repeat (go_big_quiet_step (fail))
  go_big_quiet_want; go_big_quiet_op; refine ⟨.int .i64 s, fun y => later_calls (x := y) (hS5 _ y.w (HE.out.new y.b)), ?_⟩; go_big_quiet_on
  repeat (go_big_quiet_step (fail))
  refine wpQuiet_nil ?_; intro _ hw'; obtain ⟨y, hw''⟩ := hw'; subst hw''; have hby := y.b
  generalize y.w = W2 at *
  replace HH := hide (HH.out.new hby)
  clear hby x0 x1 x2 xl HE y0 y1 y2 z2 r2 rl hne
  clear hS5
  by_cases hs0 : s = 0
  · subst hs0
    rw [if_pos rfl] at HW
    go_wp2_with fail
    refine (failC g d bs 1 _ HH.out.c (by decide) (by decide) (by omega)).mono ?_
    intro x w4 hst
    have hst2 := HH.out.done hst
    obtain ⟨v3, bs3, rfl, hrest⟩ := hst2
    go_wp2_with fail
    go_ret
    rw [HW.out]
    exact ⟨v3, bs3, rfl, hrest⟩
  rw [if_neg hs0] at HW
  have hs0b : (s == 0) = false := by simpa using hs0
  go_upto_region 20 with fail
  have hD : Below W2.heap.size W2 (World.drew W2) := (Below.refl _ _).drew
  replace HH := hide (HH.out.new hD)

  clear hD
  refine wp_region_held_drew (S := fun u => RowIs u w.heap.size 48 [.int .i64 3, .int .i64 fl, .int .i64 id, .string b]) (by kernel_rfl) HH.out.r (fun hS => ?_)
  generalize World.drew W2 = v20 at *
  refine wpAnyH_take (i := 0) (v := ?_) rfl (by kernel_rfl) (by kernel_rfl) (by kernel_rfl) (fun _ _ _ h => h) (Or.inl ⟨by rfl, ?_⟩) hS ?_; rotate_left; focus (intro w hw; clear hw; go_simp; try with_reducible rfl)
  refine wpAnyH_take (i := 1) (v := ?_) rfl (by kernel_rfl) (by kernel_rfl) (by kernel_rfl) (fun _ _ _ h => h) (Or.inl ⟨by rfl, ?_⟩) hS ?_; rotate_left; focus (intro w hw; clear hw; go_simp; try with_reducible rfl)
  refine wpAnyH_take (i := 2) (v := ?_) rfl (by kernel_rfl) (by kernel_rfl) (by kernel_rfl) (fun _ _ _ h => h) (Or.inl ⟨by rfl, ?_⟩) hS ?_; rotate_left; focus (intro w hw; clear hw; go_simp; try with_reducible rfl)
  refine wpAnyH_take (i := 3) (v := ?_) rfl (by kernel_rfl) (by kernel_rfl) (by kernel_rfl) (fun _ _ _ h => h) (Or.inl ⟨by rfl, ?_⟩) hS ?_; rotate_left; focus (intro w hw; clear hw; go_simp; try with_reducible rfl)
  refine wpAnyH_take (i := 4) (v := .int .i64 id) rfl (by kernel_rfl) (by kernel_rfl) (by kernel_rfl) (fun _ _ _ h => h) (Or.inl ⟨by kernel_rfl, ?ld⟩) hS ?_; case ld => (intro uu hu; have z2 := RowIs.cell (j := 2) hu rfl; have z8 := hu.lt; clear hu; go_simp)
  try simp only [Act.put, List.getElem_toArray, List.getElem_cons_succ, List.getElem_cons_zero, List.setIfInBounds_toArray, List.set_cons_zero, List.set_cons_succ]
  refine wpAnyH_ready (rs := [5]) (by kernel_rfl) (by simp) ?_; refine AllReadyH.cons rfl (fun K hK => ?_) AllReadyH.nil; go_simp
  refine (HH.out.hap id 4).mono ?_
  rintro x w3 ⟨bz, rfl, hh2⟩
  replace HH := hide hh2
  clear hh2
  refine hK.out _ _ HH.out.r (fun hS => ?_)
  clear hK K
  try simp only [Act.put, List.getElem_toArray, List.getElem_cons_succ, List.getElem_cons_zero, List.setIfInBounds_toArray, List.set_cons_zero, List.set_cons_succ]
  refine wpAnyH_done (by kernel_rfl) ?_ _
  clear hS
  obtain ⟨q, hq⟩ : ∃ q, hapD d id 4 = q := ⟨_, rfl⟩
  have hes : q.reg.es.length = d.reg.es.length := by rw [← hq]; exact hap_len d.reg id 4
  have hflw : q.flows = d.flows := by rw [← hq]; rfl
  rw [hq] at HH HW
  have hFq : q.flows.length = q.reg.es.length := by rw [hflw, hes]; exact hlen
  have h60q : q.reg.es.length ≤ 60 := by omega
  clear hq hes hflw
  have hA := fun v w h => specAt q.reg id v w h
  cases hat : atE q.reg.es id with
  | none =>
    have hI : atI q.reg.es id = -1 := by unfold atI; rw [hat]
    rw [hI] at hA
    rw [atFl_none hat] at HW
    clear hI hat
    obtain ⟨⟨qe, qi, qo, qf, hrow, hcw⟩, _⟩ := HH.out.c
    have x0 := RowIs.cell (j := 0) hrow rfl
    have x1 := RowIs.cell (j := 1) hrow rfl
    have x2 := RowIs.cell (j := 2) hrow rfl
    have xl := hrow.lt
    have HE := hide hcw.rd.e
    have r2 := HH.out.r.cell (j := 2) rfl
    have rl := HH.out.r.lt
    clear hrow hcw
    dsimp only at x0 x1 x2 r2 HE
    go_upto_region 21 with fail
    have y0 : ∀ y : Later w3, y.w.cell? ⟨g, 0, none⟩ = some (.int .i64 q.reg.lim) := fun y => (y.b.cell (p := ⟨g, 0, none⟩) xl).trans x0
    have y1 : ∀ y : Later w3, y.w.cell? ⟨g, 1, none⟩ = some (.int .i64 q.reg.top) := fun y => (y.b.cell (p := ⟨g, 1, none⟩) xl).trans x1
    have y2 : ∀ y : Later w3, y.w.cell? ⟨g, 2, none⟩ = some qe := fun y => (y.b.cell (p := ⟨g, 2, none⟩) xl).trans x2
    have z2 : ∀ y : Later w3, y.w.cell? ⟨w.heap.size, 2, none⟩ = some (.int .i64 id) := fun y => (y.b.cell (p := ⟨w.heap.size, 2, none⟩) rl).trans r2
    have hne : Nonempty (Later w3) := ⟨⟨w3, Below.refl _ _⟩⟩; refine region_later (by kernel_rfl) (by kernel_rfl) ?_
    repeat (go_big_quiet_step (fail))
    go_big_quiet_want; go_big_quiet_op; refine ⟨.int .i64 (-1), fun y => later_calls (x := y) (hA _ y.w (HE.out.new y.b)), ?_⟩; go_big_quiet_on
    repeat (go_big_quiet_step (fail))
    refine wpQuiet_nil ?_; intro _ hw'; obtain ⟨y, hw''⟩ := hw'; subst hw''; have hby := y.b
    generalize y.w = w4 at *
    replace HH := hide (HH.out.new hby)
    clear hby x0 x1 x2 xl HE y0 y1 y2 z2 r2 rl hne
    clear hA
    go_wp2_with fail
    go_ret
    rw [HW.out]
    exact HH.out.done (StepC.nothing HH.out.c)
  | some k =>
    obtain ⟨hk, _, _⟩ := atE_some hat
    rw [atI_some hat] at hA
    have hkf : k < q.flows.length := by omega
    have hkI : (k : Int) < q.flows.length := by omega
    rw [atFl_some hat, modify_is _ _ hkf] at HW
    clear hat
    obtain ⟨⟨qe, qi, qo, qf, hrow, hcw⟩, _⟩ := HH.out.c
    have x0 := RowIs.cell (j := 0) hrow rfl
    have x1 := RowIs.cell (j := 1) hrow rfl
    have x2 := RowIs.cell (j := 2) hrow rfl
    have xl := hrow.lt
    have HE := hide hcw.rd.e
    have r2 := HH.out.r.cell (j := 2) rfl
    have rl := HH.out.r.lt
    clear hrow hcw
    dsimp only at x0 x1 x2 r2 HE
    go_upto_region 21 with fail
    have y0 : ∀ y : Later w3, y.w.cell? ⟨g, 0, none⟩ = some (.int .i64 q.reg.lim) := fun y => (y.b.cell (p := ⟨g, 0, none⟩) xl).trans x0
    have y1 : ∀ y : Later w3, y.w.cell? ⟨g, 1, none⟩ = some (.int .i64 q.reg.top) := fun y => (y.b.cell (p := ⟨g, 1, none⟩) xl).trans x1
    have y2 : ∀ y : Later w3, y.w.cell? ⟨g, 2, none⟩ = some qe := fun y => (y.b.cell (p := ⟨g, 2, none⟩) xl).trans x2
    have z2 : ∀ y : Later w3, y.w.cell? ⟨w.heap.size, 2, none⟩ = some (.int .i64 id) := fun y => (y.b.cell (p := ⟨w.heap.size, 2, none⟩) rl).trans r2
    have hne : Nonempty (Later w3) := ⟨⟨w3, Below.refl _ _⟩⟩; refine region_later (by kernel_rfl) (by kernel_rfl) ?_
    repeat (go_big_quiet_step (fail))
    go_big_quiet_want; go_big_quiet_op; refine ⟨.int .i64 k, fun y => later_calls (x := y) (hA _ y.w (HE.out.new y.b)), ?_⟩; go_big_quiet_on
    repeat (go_big_quiet_step (fail))
    refine wpQuiet_nil ?_; intro _ hw'; obtain ⟨y, hw''⟩ := hw'; subst hw''; have hby := y.b
    generalize y.w = w4 at *
    replace HH := hide (HH.out.new hby)
    clear hby x0 x1 x2 xl HE y0 y1 y2 z2 r2 rl hne
    clear hA
    obtain ⟨gf, A, C, pe, pi, po, cap, hrow, hgm, hgfl, hmid, s1, s2, hput⟩ := HH.out.c.tun k hkf
    have x10 := RowIs.cell (j := 10) hrow rfl
    have xl := hrow.lt
    have HM := hide hmid
    have HP := hide hput
    have hng := HH.out.c.ng
    clear hrow hmid hput
    go_wp2_with fail
    refine (l16TornM q.flows[k].tun.up.r q.flows[k].tun.up.b q.flows[k].tun.up.e q.flows[k].tun.up.k q.flows[k].tun.dn.r q.flows[k].tun.dn.b q.flows[k].tun.dn.e q.flows[k].tun.dn.k q.flows[k].tun.went q.flows[k].tun.came gf (k * 15 + 4) _ A C _ HM.out).mono ?_
    rintro x w5 ⟨rfl, hm3, ht3⟩
    have HH5 := hide (HH.out.turn (HP.out w5 (tornT q.flows[k].tun) (by show (⟨#[]⟩ : ByteArray).size ≤ _; decide) (by show (⟨#[]⟩ : ByteArray).size ≤ _; decide) hm3 (turnB_of ht3)) ((turnB_of ht3).wide (fun x hx => by simp at hx; subst hx; simp [hgm])) (NewB.refl _ _))
    clear hm3 ht3 HM HP x10 xl HH
    go_wp2_with fail
    go_ret
    rw [HW.out]
    exact HH5.out.done (StepC.nothing HH5.out.c)
end Go.Proofs.YtllaeakeaabiaaaGreat
/- Flushing in place: where it stands, what each store leaves; how many frames there are. -/
namespace Go.Proofs.YtllaeakeaabiaaaGreat
open Go.RowKit
set_option maxRecDepth 100000
set_option linter.unusedSimpArgs false
set_option linter.unusedVariables false
/-- The Conn in place, and the frames told so far, in v. -/
structure OutAt (w : World) (g : Nat) (bs : List Nat) (W : World) (D : CnD) (bx : List Nat) (v : Value) (L : List Fr) : Prop where
  c : CnM W g D bx
  t : TurnB (g :: bs) w W
  n : NewB w bs bx
  o : W.ownsRow w.heap.size 48 4 v L.length (fr L)
  a : ∀ q, v.ownBlock = some q → q ∉ g :: bx
section
variable {w W W' : World} {g : Nat} {bs bx by_ : List Nat} {D D' : CnD} {v v' : Value} {L M : List Fr}
theorem OutAt.start (h : CnM w g D bs) : OutAt w g bs (w.alloc (.cells #[] 48)) D bs (.slice (some ⟨w.heap.size, 0, none⟩) 0 0) [] := by
  have hbx : Below w.heap.size w (w.alloc (.cells #[] 48)) := (Below.refl _ _).alloc (Nat.le_refl _) _
  exact ⟨h.new hbx, TurnB.new hbx, NewB.refl _ _, owns_lit w 48 4 0 #[] rfl (by omega), fun q hq hx => by simp [Value.ownBlock] at hq; have := h.lts q hx; omega⟩
theorem OutAt.new (h : OutAt w g bs W D bx v L) (hb : Below W.heap.size W W') : OutAt w g bs W' D bx v L := ⟨h.c.new hb, h.t.trans (TurnB.new hb), h.n, owns_new h.o hb, h.a⟩
theorem OutAt.turn (h : OutAt w g bs W D bx v L) (hc : CnM W' g D' by_) (ht : TurnB (g :: bx) W W') (hn : NewB W bx by_) : OutAt w g bs W' D' by_ v L :=
  ⟨hc, h.t.then h.n ht, h.n.trans hn h.t.size, frames_turn h.o ht h.a, fun q hq hx => by
    rcases List.mem_cons.1 hx with e | e
    · exact h.a q hq (by simp [e])
    · rcases hn q e with e | e
      · exact h.a q hq (by simp [e])
      · have := (h.o.lt q hq).2; omega⟩
theorem OutAt.app (h : OutAt w g bs W D bx v L) (ho : W'.ownsRow w.heap.size 48 4 v' (L.length + M.length) (fr L ++ fr M)) (hg : W.grownBy W' v.ownBlock) (hat : v'.ownBlock = v.ownBlock ∨ v'.ownBlock = some W.heap.size) : OutAt w g bs W' D bx v' (L ++ M) := by
  have hlt := h.o.lt
  refine ⟨h.c.grown hg h.a, ⟨hg.os.trans h.t.os, hg.tape.trans h.t.tape, hg.output.trans h.t.output, Nat.le_trans h.t.size hg.size, fun k hk hn' => (hg.block k (Nat.lt_of_lt_of_le hk h.t.size) (fun e => by have := (hlt k e.symm).1; omega)).trans (h.t.block k hk hn')⟩, h.n, ?_, fun q hq hx => ?_⟩
  · rw [fr_app, List.length_append]; exact ho
  · rcases hat with e | e
    · exact h.a q (e ▸ hq) hx
    · rw [hq] at e; have := h.c.lts q hx; have := Option.some.inj e; omega
theorem OutAt.done (h : OutAt w g bs W D bx v L) : StepC w g bs (D, L) (.returned v) W := ⟨v, bx, rfl, h.c, h.o, h.t, h.n, h.a⟩
theorem fr_len4 (A : List Fr) : (fr A).length = A.length * 4 := by
  unfold fr
  induction A with
  | nil => rfl
  | cons a A ih => rw [List.flatMap_cons, List.length_append, ih]; show 4 + _ = _; simp; omega
theorem fr_set (A : List Fr) (x : Fr) : (fr (A ++ [x])).set (A.length * 4 + 1) (.int .i64 1) = fr (A ++ [⟨x.k, 1, x.st, x.b⟩]) := by
  have hl := fr_len4 A
  rw [fr_app, fr_app, ← hl, List.set_append_right _ _ (by omega)]
  congr 1
  show [Value.int .i64 x.k, .int .i64 x.fl, .int .i64 x.st, .string x.b].set ((fr A).length + 1 - (fr A).length) _ = _
  rw [show (fr A).length + 1 - (fr A).length = 1 by omega]
  rfl
/-- The last frame ends. -/
theorem OutAt.flag {A : List Fr} {x : Fr} (h : OutAt w g bs W D bx v (A ++ [x])) : ∃ gv cap, v = .slice (some ⟨gv, 0, none⟩) (A ++ [x]).length cap ∧ gv < W.heap.size ∧ gv ∉ g :: bx ∧ W.cell? ⟨gv, A.length * 4 + 1, none⟩ = some (.int .i64 x.fl) ∧ W.frozen? ⟨gv, A.length * 4 + 1, none⟩ = false ∧
    OutAt w g bs (W.setCell ⟨gv, A.length * 4 + 1, none⟩ (.int .i64 1)) D bx v (A ++ [⟨x.k, 1, x.st, x.b⟩]) := by
  obtain ⟨gv, cap, hv, hob, hlo, hlt, _, _, _⟩ := owns_open h.o (by simp)
  have hng := h.a gv hob
  have hl := fr_len4 A
  have ho := h.o
  rw [hv] at ho
  refine ⟨gv, cap, hv, hlt, hng, ?_, ho.frozenAt _, ⟨h.c.far ⟨gv, A.length * 4 + 1, none⟩ _ hng, h.t.fresh hlo, h.n, ?_, h.a⟩⟩
  · rw [ho.cellAt _ (by simp; omega), fr_app, ← hl, List.getElem?_append_right (by omega)]
    rw [show (fr A).length + 1 - (fr A).length = 1 by omega]
    rfl
  · have := owns_set h.o hob (A.length * 4 + 1) (.int .i64 1)
    rw [fr_set] at this
    simpa using this
end
/-- The Conn while a stream is flushed: its Flow, and Give. -/
def cur (D : CnD) (k : Nat) (G : Int) (F : FlD) : CnD := { D with give := G, flows := D.flows.set k F }
theorem cur_self (D : CnD) (k : Nat) (h : k < D.flows.length) : cur D k D.give D.flows[k] = D := by unfold cur; rw [List.set_getElem_self]
/-- .. in place: the Flows' row lies in block gf. -/
structure FlAt (w : World) (g : Nat) (bs : List Nat) (W : World) (D : CnD) (k : Nat) (G : Int) (F : FlD) (bx : List Nat) (gf cap : Nat) (v : Value) (L : List Fr) : Prop where
  out : OutAt w g bs W (cur D k G F) bx v L
  x : W.cell? ⟨g, 10, none⟩ = some (.slice (some ⟨gf, 0, none⟩) D.flows.length cap)
section
variable {w W W' : World} {g gf cap k : Nat} {bs bx by_ : List Nat} {D : CnD} {v v' : Value} {L M : List Fr} {G : Int} {F : FlD}
theorem FlAt.new (h : FlAt w g bs W D k G F bx gf cap v L) (hb : Below W.heap.size W W') : FlAt w g bs W' D k G F bx gf cap v L := ⟨h.out.new hb, (hb.cell (p := ⟨g, 10, none⟩) h.out.c.lt).trans h.x⟩
theorem FlAt.at (h : FlAt w g bs W D k G F bx gf cap v L) (hk : k < D.flows.length) :
    ∃ A C ve vi vo v0, RowIs W g 43 (cncs (cur D k G F) ve vi vo (.slice (some ⟨gf, 0, none⟩) D.flows.length cap)) ∧ gf ∈ bx ∧ gf < W.heap.size ∧ g ≠ gf ∧ MidIs W gf 89 A C (k * 15) (flcs F v0) ∧
      ∀ w' F', F'.fds = F.fds → F'.tun.up.b.size ≤ 9223372036854775807 → F'.tun.dn.b.size ≤ 9223372036854775807 → MidIs w' gf 89 A C (k * 15) (flcs F' v0) → TurnB [gf] W w' → CnM w' g (cur D k G F') bx := by
  have hk' : k < (cur D k G F).flows.length := by show k < (D.flows.set k F).length; rw [List.length_set]; exact hk
  have hF : (cur D k G F).flows[k] = F := List.getElem_set_self _
  obtain ⟨gf2, A, C, ve, vi, vo, cap2, v0, hrow, hgm, hgfl, hgg, hmid, _, _, _, hput⟩ := h.out.c.flw k hk'
  have e := (RowIs.cell (j := 10) hrow rfl).symm.trans h.x
  simp only [Option.some.injEq, Value.slice.injEq, Addr.mk.injEq, and_true, true_and] at e
  obtain ⟨rfl, e2, rfl⟩ := e
  rw [hF] at hmid hput
  rw [e2] at hrow
  refine ⟨A, C, ve, vi, vo, v0, hrow, hgm, hgfl, hgg, hmid, fun w' F' h1 h2 h3 h4 h5 => ?_⟩
  have := hput w' F' h1 h2 h3 h4 h5
  have e3 : ({ cur D k G F with flows := (cur D k G F).flows.set k F' } : CnD) = cur D k G F' := by unfold cur; simp [List.set_set]
  rwa [e3] at this
theorem FlAt.set (h : FlAt w g bs W D k G F bx gf cap v L) (hk : k < D.flows.length) (j : Nat) (u : Value) (F' : FlD) (hj : j < 15) (hu : ∀ v0, (flcs F v0).set j u = flcs F' v0) (hf : F'.fds = F.fds) (h1 : F'.tun.up.b.size ≤ 9223372036854775807) (h2 : F'.tun.dn.b.size ≤ 9223372036854775807) :
    FlAt w g bs (W.setCell ⟨gf, k * 15 + j, none⟩ u) D k G F' bx gf cap v L := by
  obtain ⟨A, C, ve, vi, vo, v0, hrow, hgm, hgfl, hgg, hmid, hput⟩ := h.at hk
  have hm2 := MidIs.set hmid j u (by simpa using hj)
  rw [hu v0] at hm2
  exact ⟨h.out.turn (hput _ F' hf h1 h2 hm2 ((TurnB.refl _ _).set _ _ (by simp))) ((TurnB.refl _ _).set _ _ (by simp [hgm])) (NewB.refl _ _), RowIs.cell (j := 10) (hrow.far ⟨gf, k * 15 + j, none⟩ u (fun e => hgg e.symm)) rfl⟩
theorem FlAt.give (h : FlAt w g bs W D k G F bx gf cap v L) (hk : k < D.flows.length) (n : Int) : FlAt w g bs (W.setCell ⟨g, 8, none⟩ (.int .i64 n)) D k n F bx gf cap v L := by
  obtain ⟨A, C, ve, vi, vo, v0, hrow, hgm, hgfl, hgg, hmid, hput⟩ := h.at hk
  exact ⟨h.out.turn (h.out.c.setGive n) ((TurnB.refl _ _).set _ _ (by simp)) (NewB.refl _ _), RowIs.cell (j := 10) (hrow.set 8 (.int .i64 n)) rfl⟩
theorem FlAt.app (h : FlAt w g bs W D k G F bx gf cap v L) (ho : W'.ownsRow w.heap.size 48 4 v' (L.length + M.length) (fr L ++ fr M)) (hg : W.grownBy W' v.ownBlock) (hat : v'.ownBlock = v.ownBlock ∨ v'.ownBlock = some W.heap.size) : FlAt w g bs W' D k G F bx gf cap v' (L ++ M) :=
  ⟨h.out.app ho hg hat, (World.cell?_of_block (hg.block g h.out.c.lt (fun e => h.out.a g e.symm (by simp)))).trans h.x⟩
theorem FlAt.flag {A : List Fr} {x : Fr} (h : FlAt w g bs W D k G F bx gf cap v (A ++ [x])) : ∃ gv c2, v = .slice (some ⟨gv, 0, none⟩) (A ++ [x]).length c2 ∧ gv < W.heap.size ∧ W.cell? ⟨gv, A.length * 4 + 1, none⟩ = some (.int .i64 x.fl) ∧ W.frozen? ⟨gv, A.length * 4 + 1, none⟩ = false ∧
    FlAt w g bs (W.setCell ⟨gv, A.length * 4 + 1, none⟩ (.int .i64 1)) D k G F bx gf cap v (A ++ [⟨x.k, 1, x.st, x.b⟩]) := by
  obtain ⟨gv, c2, hv, hlt, hng, hc, hf, ho⟩ := h.out.flag
  obtain ⟨⟨ve, vi, vo, vf, hrow, _⟩, _⟩ := h.out.c
  have hx := h.x
  rw [RowIs.cell (j := 10) hrow rfl] at hx
  exact ⟨gv, c2, hv, hlt, hc, hf, ho, (RowIs.cell (j := 10) (hrow.far ⟨gv, A.length * 4 + 1, none⟩ (.int .i64 1) (fun e => hng (by simp [show gv = g from e]))) rfl).trans hx⟩
theorem FlAt.some (h : OutAt w g bs W D bx v L) (hk : k < D.flows.length) : ∃ gf cap, FlAt w g bs W D k D.give D.flows[k] bx gf cap v L ∧ gf < W.heap.size := by
  obtain ⟨gf, A, C, ve, vi, vo, cap, v0, hrow, hgm, hgfl, _⟩ := h.c.flw k hk
  exact ⟨gf, cap, ⟨by rw [cur_self D k hk]; exact h, RowIs.cell (j := 10) hrow rfl⟩, hgfl⟩
end
theorem isEmpty_iffF (b : ByteArray) : b.toList.isEmpty = true ↔ b.size = 0 := by
  rw [ByteArray.toList_eq, List.isEmpty_iff]
  have h : b.data.toList.length = b.size := by simp
  constructor
  · intro e; rw [e] at h; simpa using h.symm
  · intro e; exact List.length_eq_zero_iff.1 (h.trans e)
theorem endL_none (id : Int) : endL id [] = [⟨1, 1, id, ⟨#[]⟩⟩] := rfl
theorem endL_some (id : Int) (A : List Fr) (x : Fr) : endL id (A ++ [x]) = A ++ [⟨x.k, 1, x.st, x.b⟩] := by unfold endL; simp
theorem flushTo_step {d D : CnD} {k : Nat} {L : List Fr} (h : flushTo d k = (D, L)) (h1 : k < D.flows.length) (h2 : k < D.reg.es.length) : flushTo d (k + 1) = ((flushAt D k D.flows[k] D.reg.es[k]).1, L ++ (flushAt D k D.flows[k] D.reg.es[k]).2) := by
  show ((flushOne (flushTo d k).1 k).1, (flushTo d k).2 ++ (flushOne (flushTo d k).1 k).2) = _
  rw [h]
  unfold flushOne
  rw [List.getElem?_eq_getElem h1, List.getElem?_eq_getElem h2]
theorem flushAt_no {D : CnD} {k : Nat} {f : FlD} {e : EntryD} (h : msV e.state = false) : flushAt D k f e = (D, []) := by unfold flushAt; rw [if_pos h]
theorem flushAt_yes {D : CnD} {k : Nat} {f : FlD} {e : EntryD} {G : Int} {F : FlD} {O : List Fr} (h : msV e.state = true) (hq : flushF f.tun.dn.b.size D.give f [] = (G, F, O)) :
    flushAt D k f e = if endB F = true then (hapD (cur D k G { F with ended := true }) f.id 3, endL f.id O) else (cur D k G F, O) := by
  unfold flushAt
  rw [if_neg (by rw [h]; decide), hq]
  rfl
end Go.Proofs.YtllaeakeaabiaaaGreat
/- How much there is in a Conn, and how many frames are told. -/
namespace Go.Proofs.YtllaeakeaabiaaaGreat
open Go.RowKit
set_option maxRecDepth 100000
set_option linter.unusedSimpArgs false
set_option linter.unusedVariables false
theorem cnt_flow1 (d : FlD) : cntFlow d = 14 + 2 * d.fds.length := by unfold cntFlow; rw [cntFieldS_len]; omega
theorem cnt_flows (L : List FlD) : (cntFlowS L : Int) ≤ 14 * szFlowS L := by
  unfold cntFlowS szFlowS
  induction L with
  | nil => decide
  | cons x L ih =>
    have e1 : cntLs cntFlow (x :: L) = cntFlow x + cntLs cntFlow L := rfl
    have e2 : sumLs szFlow (x :: L) = szFlow x + sumLs szFlow L := rfl
    have e3 := cnt_flow1 x
    have e4 : (x.fds.length : Int) ≤ szFlow x := by unfold szFlow szTunnel; have := szFieldS_len x.fds; omega
    rw [e1, e2, List.length_cons]
    omega
theorem cnt_conn (d : CnD) (h : szConn d ≤ 1048576) : 1 + cntConn d ≤ 1000000000 := by
  unfold szConn szRegistry szEntryS at h
  unfold cntConn
  have h1 := cnt_entries d.reg.es
  have h2 := cntFieldS_len d.inT
  have h3 := cntFieldS_len d.outT
  have h4 := cnt_flows d.flows
  have h5 := szFieldS_len d.inT
  have h6 := szFieldS_len d.outT
  have h7 : 0 ≤ szFlowS d.flows := szFlowS_nn _
  omega
theorem cnt_flows_ok (L : List FlD) (h : ∀ f ∈ L, f.fds.length ≤ 20) : cntFlowS L ≤ 54 * L.length := by
  unfold cntFlowS
  induction L with
  | nil => decide
  | cons x L ih =>
    have e1 : cntLs cntFlow (x :: L) = cntFlow x + cntLs cntFlow L := rfl
    have e3 := cnt_flow1 x
    have e4 := h x (by simp)
    have e5 := ih (fun f hf => h f (by simp [hf]))
    rw [e1, List.length_cons]
    omega
theorem cnt_ok (d : CnD) (h : okCn d = true) : cntConn d ≤ 100000 := by
  obtain ⟨hl, h60⟩ := cn_len h
  have h1 := cnt_entries d.reg.es
  have h2 := cntFieldS_len d.inT
  have h3 := cntFieldS_len d.outT
  have h4 := cnt_flows_ok d.flows (fun f hf => by
    have := (cn_flow h hf).2.2.2
    unfold okFs at this
    simp only [Bool.and_eq_true, decide_eq_true_eq] at this
    exact this.2)
  have h5 := okT_len (okCn_iff.1 h).2.1
  have h6 := okT_len (okCn_iff.1 h).2.2.1
  unfold cntConn
  omega
theorem cnt_zero : cntConn zCn ≤ 100000 := by decide
theorem flushF_len : ∀ (m : Nat) (g : Int) (f : FlD) (out : List Fr), (flushF m g f out).2.2.length ≤ out.length + m
  | 0, g, f, out => Nat.le_refl _
  | m + 1, g, f, out => by
    rw [flushF]
    split
    · show out.length ≤ _; omega
    · have := flushF_len m (g - (flN g f).toNat) (pulF (flN g f).toNat f) (out ++ [datFr f (flN g f).toNat])
      simp only [List.length_append, List.length_cons, List.length_nil] at this
      omega
theorem endL_len (id : Int) (l : List Fr) : (endL id l).length ≤ l.length + 1 := by
  unfold endL
  split
  · simp
  · simp
theorem flushTo_len {c : CnD} (h : okCn c = true) : ∀ k, k ≤ c.flows.length → (flushTo c k).2.length ≤ 2001 * k
  | 0, _ => Nat.zero_le _
  | k + 1, hk => by
    have ih := flushTo_len h k (by omega)
    have hT := flT_all h k (by omega)
    have h1 : k < (flushTo c k).1.flows.length := by rw [hT.len]; omega
    have h2 : k < (flushTo c k).1.reg.es.length := by rw [hT.elen, ← (cn_len h).1]; omega
    have hsz := (okPp_true (okTu_true (cn_flow hT.ok (List.getElem_mem h1)).2.2.1).2.1)
    show ((flushTo c k).2 ++ (flushOne (flushTo c k).1 k).2).length ≤ _
    unfold flushOne
    rw [List.getElem?_eq_getElem h1, List.getElem?_eq_getElem h2, List.length_append]
    have h3 : (flushAt (flushTo c k).1 k (flushTo c k).1.flows[k] (flushTo c k).1.reg.es[k]).2.length ≤ 2001 := by
      unfold flushAt
      split
      · exact Nat.zero_le _
      · have h4 := flushF_len (flushTo c k).1.flows[k].tun.dn.b.size (flushTo c k).1.give (flushTo c k).1.flows[k] []
        dsimp only
        rw [List.length_nil] at h4
        split
        · have := endL_len (flushTo c k).1.flows[k].id (flushF (flushTo c k).1.flows[k].tun.dn.b.size (flushTo c k).1.give (flushTo c k).1.flows[k] []).2.2
          show (endL _ _).length ≤ _
          omega
        · show (flushF _ _ _ _).2.2.length ≤ _
          omega
    show _ + (flushAt _ _ _ _).2.length ≤ _
    omega
theorem flush_few (c : CnD) : (flushD c).2.length ≤ 121000 := by
  unfold flushD
  split
  · exact Nat.zero_le _
  · rename_i h
    have h' : okCn c = true := by simpa using h
    unfold flushRaw
    split
    · exact Nat.zero_le _
    · have := flushTo_len h' c.flows.length (Nat.le_refl _)
      have := cn_len h'
      omega
theorem fail_few (c : CnD) (k : Int) : (failD c k).2.length ≤ 4 := by unfold failD; simp
theorem grant_few (c : CnD) (id n : Int) : (grantD c id n).2.length ≤ 1 := by
  unfold grantD
  repeat' split
  all_goals simp
theorem brk_few (c : CnD) (id n k : Int) : (brkD c id n k).2.length ≤ 4 := by
  show ((grantD c 0 n).2 ++ [_]).length ≤ 4
  have := grant_few c 0 n
  simp only [List.length_append, List.length_cons, List.length_nil]
  omega
theorem data_few (c : CnD) (f : Fr) : (dataD c f).2.length ≤ 4 := by
  by_cases h : c.get < f.b.size
  · rw [data_over h]; exact fail_few _ _
  rw [data_in h]
  split
  · exact fail_few _ _
  split
  · split
    · exact Nat.le_trans (grant_few _ _ _) (by decide)
    · exact brk_few _ _ _ _
  split
  · exact brk_few _ _ _ _
  split
  · exact brk_few _ _ _ _
  dsimp only
  rw [List.length_append]
  exact Nat.le_trans (Nat.add_le_add (grant_few _ _ _) (grant_few _ _ _)) (by decide)
theorem head_few (c : CnD) (id fl : Int) (b : ByteArray) : (headD c id fl b).2.length ≤ 4 := by
  obtain ⟨⟨l, ⟨r, M⟩, is⟩, h⟩ : ∃ x, decodedD c.inr c.inT b = x := ⟨_, rfl⟩
  cases is
  · rw [head_no h]; exact fail_few _ _
  rw [head_yes h]
  unfold headTo
  split
  · exact Nat.zero_le _
  split
  · exact (by decide : 1 ≤ 4)
  unfold headOn
  split
  · exact fail_few _ _
  split
  · exact (by decide : 1 ≤ 4)
  unfold headIn
  split
  · exact (by decide : 1 ≤ 4)
  split
  · exact Nat.zero_le _
  · exact Nat.zero_le _
theorem got_few (c : CnD) (f : Fr) : (gotD c f).2.length ≤ 4 := by
  unfold gotD
  split
  · exact Nat.zero_le _
  split
  · exact Nat.zero_le _
  unfold gotRaw
  have hf := fun c k => fail_few c k
  have hg := fun c id n => grant_few c id n
  split
  · exact Nat.zero_le _
  split
  · unfold settleD; repeat' split
    all_goals first | exact hf _ _ | (simp; done) | (simp; omega)
  split
  · split <;> simp
  split
  · simp
  split
  · unfold windowD; repeat' split
    all_goals first | exact hf _ _ | (simp; done)
  split
  · exact head_few _ _ _ _
  split
  · exact data_few _ _
  split
  · split
    · exact hf _ _
    · exact Nat.zero_le _
  · exact Nat.zero_le _
theorem took_few (c : CnD) (id n : Int) : (tookD c id n).2.1.length ≤ 4 := by
  unfold tookD
  split
  · exact Nat.zero_le _
  unfold tookRaw
  split
  · exact Nat.zero_le _
  split
  · split
    · exact Nat.zero_le _
    · dsimp only
      rw [List.length_append]
      refine Nat.le_trans (Nat.add_le_add (b := 1) (d := 1) ?_ (grant_few _ _ _)) (by decide)
      split
      · exact Nat.zero_le _
      · exact grant_few _ _ _
  · exact Nat.zero_le _
theorem replied_few (c : CnD) (id k : Int) : (repliedD c id k).2.length ≤ 4 := by
  unfold repliedD
  split
  · exact Nat.zero_le _
  unfold repliedRaw
  split
  · exact Nat.zero_le _
  split
  · unfold repliedAt
    split
    · exact Nat.zero_le _
    split
    · exact (by decide : 1 ≤ 4)
    · exact (by decide : 1 ≤ 4)
  · exact Nat.zero_le _
theorem cnt_got (c : CnD) (f : Fr) : cntConn (gotD c f).1 ≤ 100000 := by
  unfold gotD
  split
  · exact cnt_zero
  rename_i h
  have h' : okCn c = true := by simpa using h
  split
  · exact cnt_ok _ h'
  rename_i hf
  exact cnt_ok _ (got_ok h' (by simpa using hf))
theorem cnt_flush (c : CnD) : cntConn (flushD c).1 ≤ 100000 := by
  unfold flushD
  split
  · exact cnt_zero
  rename_i h
  have h' : okCn c = true := by simpa using h
  obtain ⟨d, L, hq, hd, _⟩ := flush_law h'
  rw [hq]
  exact cnt_ok _ hd
theorem cnt_took (c : CnD) (id n : Int) : cntConn (tookD c id n).1 ≤ 100000 := by
  unfold tookD
  split
  · exact cnt_zero
  rename_i h
  exact cnt_ok _ (took_law (by simpa using h)).1
theorem cnt_replied (c : CnD) (id k : Int) : cntConn (repliedD c id k).1 ≤ 100000 := by
  unfold repliedD
  split
  · exact cnt_zero
  rename_i h
  exact cnt_ok _ (replied_law (by simpa using h)).1
theorem cnt_given (c : CnD) (id : Int) (s : ByteArray) (fin : Bool) : cntConn (givenD c id s fin).1 ≤ 100000 := by
  unfold givenD
  split
  · exact cnt_zero
  rename_i h
  exact cnt_ok _ (given_law (by simpa using h)).1
end Go.Proofs.YtllaeakeaabiaaaGreat
/- The program's link: settings. -/
namespace Go.Proofs.YtllaeakeaabiaaaGreat
open Go.RowKit
set_option maxRecDepth 100000
set_option linter.unusedSimpArgs false
set_option linter.unusedVariables false
theorem bytes_none {b : ByteArray} (h : b.size = 0) : b = ⟨#[]⟩ := ByteArray.ext (Array.eq_empty_of_size_eq_zero h)
theorem isEmpty_size (b : ByteArray) : b.toList.isEmpty = true ↔ b.size = 0 := by
  rw [ByteArray.toList_eq, List.isEmpty_iff]
  have h : b.data.toList.length = b.size := by simp
  constructor
  · intro e; rw [e] at h; simpa using h.symm
  · intro e; exact List.length_eq_zero_iff.1 (h.trans e)
set_option maxHeartbeats 8000000 in
theorem implGotSettle (lo g : Nat) (d : CnD) (L : List Fr) (bs : List Nat) (f : Fr) (w : World) (h : LkM w lo g d L bs) (hok : okCn d = true) (hL : L.length ≤ 1000000) (hb : f.b.size ≤ maxLen) :
    Calls Tryz.prog 135 #[.pointer (some ⟨g, 0, none⟩), .agg #[.int .i64 f.k, .int .i64 f.fl, .int .i64 f.st, .string f.b]] w fun x w' => x = endO (settleO d f.b) ∧ ∃ bx, Lnk lo g w bs w' (settleO d f.b).1 (L ++ (settleO d f.b).2.1) bx := by
  have hq := h.far (Nat.le_refl _)
  obtain ⟨V, hV⟩ : ∃ V, w.alloc (.cells #[.int .i64 f.k, .int .i64 f.fl, .int .i64 f.st, .string f.b] 48) = V := ⟨_, rfl⟩; have hBV : Below w.heap.size w V := (by rw [← hV]; exact (Below.refl _ _).alloc (Nat.le_refl _) _); have hRV : RowIs V w.heap.size 48 [.int .i64 f.k, .int .i64 f.fl, .int .i64 f.st, .string f.b] := (by rw [← hV]; exact rowIs_new w 48 _)
  have hm := h.new hBV
  have hlen := (cn_len hok).1
  have h60 := (cn_len hok).2
  have hgl := hm.glt
  have HB := hide hBV; have HR := hide hRV; have HM := hide hm; have HQ := hide hq; have HBN := hide hb
  have r3 := RowIs.cell (j := 3) hRV rfl
  have rl := hRV.lt
  obtain ⟨E, hE⟩ : ∃ E, settleO d f.b = E := ⟨_, rfl⟩
  rw [hE]
  by_cases hb0 : f.b.size = 0
  · have hie : f.b.toList.isEmpty = true := (isEmpty_size _).2 hb0
    have hE0 : E = (d, [], none) := by rw [← hE]; unfold settleO; rw [if_pos hb0]
    subst hE0
    have HL := hide (Lnk.after HB.out (Lnk.start HM.out))
    clear hE hq hBV hRV hm hb hok hb0
    go_enter Tryz.func135, Tryz.ntmps135
    go_wp2_with fail
    first | go_end0 | refine bodyPost_ret (results_none rfl _ _ _) rfl ?_
    refine ⟨rfl, bs, ?_⟩
    (try rw [List.append_nil]); exact HL.out
  have hie : f.b.toList.isEmpty = false := by
    cases q : f.b.toList.isEmpty
    · rfl
    · exact absurd ((isEmpty_size _).1 q) hb0
  obtain ⟨N, hN⟩ : ∃ N, numV f.b = N := ⟨_, rfl⟩
  have hE0 : E = if movedAll d N then ({ d with flows := d.flows.map (fun f => { f with give := (mvV f.give d.first N).1 }), first := N }, [⟨4, 0, 0, ⟨#[]⟩⟩], none) else (d, [], some (0, 2)) := by
    rw [← hE, ← hN]; unfold settleO; rw [if_neg hb0]
  have HE := hide hE0
  have HN := hide hN
  obtain ⟨ve, vi, vo, af, pf, tv, ts, hrow, hts, hrd, hfl, hone, hput⟩ := HM.out.cut
  have hk1 : d.flows.length = ts.length := by rw [hts]; simp
  have h15 : ∀ t ∈ ts, t.1.length = 15 := fun t ht => by obtain ⟨a0, c0, e⟩ := hfl t ht; rw [e]; rfl
  obtain ⟨n, hn⟩ : ∃ n, d.flows.length = n := ⟨_, rfl⟩
  rw [hn] at hrd hrow hput hk1 hlen
  have hn60 : n ≤ 60 := by omega
  have HTS := hide hts; have HRD := hide hrd; have HFL := hide hfl; have HPUT := hide hput; have HROW := hide hrow; have HONE := hide hone; have H15 := hide h15
  have HK1 := hide hk1; have HNN := hide hn
  clear hE hE0 hN hts hrd hfl hput hrow hone h15 hq hBV hRV hm hb hok hb0 hlen h60 hk1 hn h
  go_enter Tryz.func135, Tryz.ntmps135
  go_upto_region 2 with fail
  try rw [hV]
  clear hV r3
  have hD : Below V.heap.size V (World.drew V) := (Below.refl _ _).drew
  have HBV := hide hD
  have HS0 : Hid (RowIs (World.drew V) w.heap.size 48 [.int .i64 f.k, .int .i64 f.fl, .int .i64 f.st, .string f.b] ∧ RowIs (World.drew V) g 69 (lkcs d ve vi vo (.slice af n pf) tv)) := ⟨HR.out.new hD, HROW.out.new hD⟩
  clear hD
  refine wp_region_held_drew (S := fun u => RowIs u w.heap.size 48 [.int .i64 f.k, .int .i64 f.fl, .int .i64 f.st, .string f.b] ∧ RowIs u g 69 (lkcs d ve vi vo (.slice af n pf) tv)) (by kernel_rfl) HS0.out (fun hS => ?_)
  generalize World.drew V = v1 at *
  refine wpAnyH_take (i := 0) (v := ?_) rfl (by kernel_rfl) (by kernel_rfl) (by kernel_rfl) (fun _ _ _ h => h) (Or.inl ⟨by rfl, ?_⟩) hS ?_; rotate_left; focus (intro w hw; clear hw; go_simp; try with_reducible rfl)
  refine wpAnyH_take (i := 1) (v := .string f.b) rfl (by kernel_rfl) (by kernel_rfl) (by kernel_rfl) (fun _ _ _ h => h) (Or.inl ⟨by kernel_rfl, ?ld⟩) hS ?_; case ld => (intro uu hu; have z2 := RowIs.cell (j := 3) hu.1 rfl; have z8 := hu.1.lt; clear hu; go_simp)
  refine wpAnyH_take (i := 3) (v := ?_) rfl (by kernel_rfl) (by kernel_rfl) (by kernel_rfl) (fun _ _ _ h => h) (Or.inl ⟨by rfl, ?_⟩) hS ?_; rotate_left; focus (intro w hw; clear hw; go_simp; try with_reducible rfl)
  refine wpAnyH_take (i := 4) (v := ?_) rfl (by kernel_rfl) (by kernel_rfl) (by kernel_rfl) (fun _ _ _ h => h) (Or.inl ⟨by rfl, ?_⟩) hS ?_; rotate_left; focus (intro w hw; clear hw; go_simp; try with_reducible rfl)
  refine wpAnyH_take (i := 5) (v := ?_) rfl (by kernel_rfl) (by kernel_rfl) (by kernel_rfl) (fun _ _ _ h => h) (Or.inl ⟨by rfl, ?_⟩) hS ?_; rotate_left; focus (intro w hw; clear hw; go_simp; try with_reducible rfl)
  refine wpAnyH_take (i := 6) (v := ?_) rfl (by kernel_rfl) (by kernel_rfl) (by kernel_rfl) (fun _ _ _ h => h) (Or.inl ⟨by rfl, ?_⟩) hS ?_; rotate_left; focus (intro w hw; clear hw; go_simp; try with_reducible rfl)
  refine wpAnyH_take (i := 7) (v := .slice af n pf) rfl (by kernel_rfl) (by kernel_rfl) (by kernel_rfl) (fun _ _ _ h => h) (Or.inl ⟨by kernel_rfl, ?ld⟩) hS ?_; case ld => (intro uu hu; have z2 := RowIs.cell (j := 10) hu.2 rfl; have z8 := hu.2.lt; clear hu; go_simp)
  refine wpAnyH_ready (rs := [2]) (by kernel_rfl) (by simp) ?_; refine AllReadyH.cons rfl (fun K hK => ?_) AllReadyH.nil; go_simp
  refine (implNumber f.b _ HBN.out).mono ?_; rw [HN.out]; rintro x v2 ⟨rfl, rfl⟩
  refine hK.out _ _ HS0.out (fun hS => ?_)
  clear hK K
  try simp only [Act.put, List.getElem_toArray, List.getElem_cons_succ, List.getElem_cons_zero, List.setIfInBounds_toArray, List.set_cons_zero, List.set_cons_succ]
  refine wpAnyH_ready (rs := [8]) (by kernel_rfl) (by simp) ?_; refine AllReadyH.cons rfl (fun K hK => ?_) AllReadyH.nil; go_simp
  refine (implCloneFlow _ n _ _ (HRD.out.new HBV.out) HONE.out (by omega)).mono ?_; rintro x w2 ⟨vc, rfl, ho2, hb2⟩
  have HBW := hide (bchain HBV.out hb2)
  have HO2 := hide (owns_base ho2 (fun q hq => Nat.le_trans HBV.out.size (owns_lt ho2 q hq).1) : w2.ownsRow V.heap.size 89 15 vc n _)
  refine hK.out _ _ ⟨HS0.out.1.new hb2, HS0.out.2.new hb2⟩ (fun hS => ?_)
  clear hK K ho2 hb2 HS0 HBV
  try simp only [Act.put, List.getElem_toArray, List.getElem_cons_succ, List.getElem_cons_zero, List.setIfInBounds_toArray, List.set_cons_zero, List.set_cons_succ]
  refine wpAnyH_take (i := 9) (v := ?_) rfl (by kernel_rfl) (by kernel_rfl) (by kernel_rfl) (fun _ _ _ h => h) (Or.inl ⟨by rfl, ?_⟩) hS ?_; rotate_left; focus (intro w hw; clear hw; go_simp; try with_reducible rfl)
  refine wpAnyH_take (i := 10) (v := ?_) rfl (by kernel_rfl) (by kernel_rfl) (by kernel_rfl) (fun _ _ _ h => h) (Or.inl ⟨by rfl, ?_⟩) hS ?_; rotate_left; focus (intro w hw; clear hw; go_simp; try with_reducible rfl)
  refine wpAnyH_done (by kernel_rfl) ?_ _
  obtain ⟨ac, pc, rfl, pc1, pc2⟩ := owns_form HO2.out
  unfold maxLen at pc2
  generalize hm0 : (fun f : FlD => (mvV f.give d.first N).1) = m0 at *
  have HM0 := hide hm0
  clear hm0
  go_wp2_with fail
  go_loopw [24] (fun i wr => ∃ k : Nat, i = .int .i64 k ∧ k ≤ n ∧ Hid (Below V.heap.size V wr) ∧ Hid (wr.ownsRow V.heap.size 89 15 (.slice ac n pc) n ((updTo m0 ts k).flatMap (fun t : Ft => t.1))) ∧ Hid (∀ j (hj : j < ts.length), j < k → (mvV ts[j].2.1.give d.first N).2 = true)) (fun i _ => n - (intOf i).toNat)
  case atStart => exact ⟨0, rfl, Nat.zero_le _, HBW, by show World.ownsRow _ _ _ _ _ _ _; rw [updTo_zero]; exact HO2.out, fun j _ hj => absurd hj (Nat.not_lt_zero _)⟩
  case round =>
    clear HBW HO2
    obtain ⟨k, rfl, hk, HBW, HO, HAL⟩ := hrel
    have HR2 := hide (HR.out.new HBW.out)
    have HROW2 := hide (HROW.out.new HBW.out)
    by_cases hlt : k < n
    rotate_left
    · have hkn : k = n := by omega
      subst hkn
      have hMA : movedAll d N = true := by
        unfold movedAll
        rw [HTS.out, List.all_eq_true]
        intro x hx
        obtain ⟨t, ht, rfl⟩ := List.mem_map.1 hx
        obtain ⟨j, hj, rfl⟩ := List.mem_iff_getElem.1 ht
        have := HK1.out
        exact HAL.out j hj (by omega)
      have hE0 := HE.out
      rw [if_pos hMA] at hE0
      have ho := HO.out
      rw [updTo_all m0 ts k (by have := HK1.out; omega)] at ho
      obtain ⟨bx, hl⟩ := HPUT.out m0 N wr _ HBW.out ho
      rw [← HM0.out] at hl
      have HL := hide (Lnk.after HB.out hl)
      have HE1 := hide hE0
      have x10 := RowIs.cell (j := 10) HROW2.out rfl
      have x9 := RowIs.cell (j := 9) HROW2.out rfl
      have xf := fun j => RowIs.frozen HROW2.out j
      have xl := HROW2.out.lt
      clear hMA hE0 ho hl HE HO HAL HBW HPUT HFL HTS HRD HONE H15
      go_wp2_with fail
      generalize (wr.setCell ⟨g, 10, none⟩ (.slice ac k pc)).setCell ⟨g, 9, none⟩ (.int .i64 N) = w5 at *
      clear x9 x10 xf xl
      have hm5 := HL.out.m
      refine (implTell lo g _ L bx 4 0 0 (⟨#[]⟩ : ByteArray) _ hm5 hL).mono ?_; rintro x w6 ⟨rfl, by_, hl6⟩
      have HL6 := hide (HL.out.step hl6)
      clear hl6 hm5
      go_wp2_with fail
      first | go_end0 | refine bodyPost_ret (results_none rfl _ _ _) rfl ?_
      rw [HE1.out]
      exact ⟨rfl, _, HL6.out⟩
    · have hkt : k < ts.length := by have := HK1.out; omega
      obtain ⟨a0, c00, hv0⟩ := HFL.out _ (List.getElem_mem hkt)
      have HUP : Hid (((updTo m0 ts k).flatMap (fun t : Ft => t.1)).set (k * 15 + 2) (.int .i64 (m0 ts[k].2.1)) = (updTo m0 ts (k + 1)).flatMap (fun t : Ft => t.1)) := flat_upd m0 ts k hkt H15.out
      obtain ⟨gc, cap2, hvc, hob, hlo, hgcl, _, _, _⟩ := owns_open HO.out (by omega)
      simp only [Value.slice.injEq, true_and] at hvc
      obtain ⟨rfl, rfl⟩ := hvc
      have hcell : ∀ (j : Nat) (u : Value), ts[k].1[j]? = some u → wr.cell? ⟨gc, k * 15 + j, none⟩ = some u := fun j u hu => by
        have := flat_upd_at m0 ts k hkt H15.out hu
        have hj : j < 15 := by have h1 := (List.getElem?_eq_some_iff.1 hu).1; rw [H15.out _ (List.getElem_mem hkt)] at h1; exact h1
        rw [HO.out.cellAt _ (by omega)]; exact this
      have hHA : Hid (∀ j (hj : j < ts.length), j < k + 1 → (mvV ts[k].2.1.give d.first N).2 = true → (mvV ts[j].2.1.give d.first N).2 = true) := fun j hj hjk h => by
        by_cases e : j = k
        · subst e; exact h
        · exact HAL.out j hj (by omega)
      have hNO : Hid ((mvV ts[k].2.1.give d.first N).2 = false → movedAll d N = false) := fun h => by
        cases q : movedAll d N
        · rfl
        · unfold movedAll at q
          rw [HTS.out, List.all_eq_true] at q
          have := q ts[k].2.1 (List.mem_map.2 ⟨_, List.getElem_mem hkt, rfl⟩)
          rw [h] at this; cases this
      obtain ⟨x, hx⟩ : ∃ x, ts[k].2.1 = x := ⟨_, rfl⟩
      rw [hx] at HUP hHA hNO hv0
      rw [hv0] at hcell
      obtain ⟨a, ok, hmv⟩ : ∃ a ok, mvV x.give d.first N = (a, ok) := ⟨_, _, rfl⟩
      have hma : m0 x = a := by rw [← HM0.out]; show (mvV x.give d.first N).1 = a; rw [hmv]
      rw [hma] at HUP
      rw [hmv] at hHA hNO
      have HC2 := hide (hcell 2 (.int .i64 x.give) rfl)
      have hgc := hgcl
      clear hx hv0 hma
      have c0 : wr.cell? ⟨gc, k * 15, none⟩ = some (.int .i64 x.id) := hcell 0 _ rfl
      have c1 : wr.cell? ⟨gc, k * 15 + 1, none⟩ = some (.int .i64 x.get) := hcell 1 _ rfl
      have c2 : wr.cell? ⟨gc, k * 15 + 2, none⟩ = some (.int .i64 x.give) := hcell 2 _ rfl
      have c3 : wr.cell? ⟨gc, k * 15 + 3, none⟩ = some ((.slice a0 x.fds.length c00)) := hcell 3 _ rfl
      have c4 : wr.cell? ⟨gc, k * 15 + 4, none⟩ = some (.int .i64 x.tun.up.r) := hcell 4 _ rfl
      have c5 : wr.cell? ⟨gc, k * 15 + 5, none⟩ = some (.string x.tun.up.b) := hcell 5 _ rfl
      have c6 : wr.cell? ⟨gc, k * 15 + 6, none⟩ = some (.bool x.tun.up.e) := hcell 6 _ rfl
      have c7 : wr.cell? ⟨gc, k * 15 + 7, none⟩ = some (.bool x.tun.up.k) := hcell 7 _ rfl
      have c8 : wr.cell? ⟨gc, k * 15 + 8, none⟩ = some (.int .i64 x.tun.dn.r) := hcell 8 _ rfl
      have c9 : wr.cell? ⟨gc, k * 15 + 9, none⟩ = some (.string x.tun.dn.b) := hcell 9 _ rfl
      have c10 : wr.cell? ⟨gc, k * 15 + 10, none⟩ = some (.bool x.tun.dn.e) := hcell 10 _ rfl
      have c11 : wr.cell? ⟨gc, k * 15 + 11, none⟩ = some (.bool x.tun.dn.k) := hcell 11 _ rfl
      have c12 : wr.cell? ⟨gc, k * 15 + 12, none⟩ = some (.int .i64 x.tun.went) := hcell 12 _ rfl
      have c13 : wr.cell? ⟨gc, k * 15 + 13, none⟩ = some (.int .i64 x.tun.came) := hcell 13 _ rfl
      have c14 : wr.cell? ⟨gc, k * 15 + 14, none⟩ = some (.bool x.ended) := hcell 14 _ rfl
      have hX : Below wr.heap.size wr (wr.alloc (.cells #[.int .i64 x.id, .int .i64 x.get, .int .i64 x.give, (.slice a0 x.fds.length c00), .int .i64 x.tun.up.r, .string x.tun.up.b, .bool x.tun.up.e, .bool x.tun.up.k, .int .i64 x.tun.dn.r, .string x.tun.dn.b, .bool x.tun.dn.e, .bool x.tun.dn.k, .int .i64 x.tun.went, .int .i64 x.tun.came, .bool x.ended] 89)) := (Below.refl _ _).alloc (Nat.le_refl _) _
      have RX : RowIs (wr.alloc (.cells #[.int .i64 x.id, .int .i64 x.get, .int .i64 x.give, (.slice a0 x.fds.length c00), .int .i64 x.tun.up.r, .string x.tun.up.b, .bool x.tun.up.e, .bool x.tun.up.k, .int .i64 x.tun.dn.r, .string x.tun.dn.b, .bool x.tun.dn.e, .bool x.tun.dn.k, .int .i64 x.tun.went, .int .i64 x.tun.came, .bool x.ended] 89)) wr.heap.size 89 [.int .i64 x.id, .int .i64 x.get, .int .i64 x.give, (.slice a0 x.fds.length c00), .int .i64 x.tun.up.r, .string x.tun.up.b, .bool x.tun.up.e, .bool x.tun.up.k, .int .i64 x.tun.dn.r, .string x.tun.dn.b, .bool x.tun.dn.e, .bool x.tun.dn.k, .int .i64 x.tun.went, .int .i64 x.tun.came, .bool x.ended] := rowIs_new wr 89 [.int .i64 x.id, .int .i64 x.get, .int .i64 x.give, (.slice a0 x.fds.length c00), .int .i64 x.tun.up.r, .string x.tun.up.b, .bool x.tun.up.e, .bool x.tun.up.k, .int .i64 x.tun.dn.r, .string x.tun.dn.b, .bool x.tun.dn.e, .bool x.tun.dn.k, .int .i64 x.tun.went, .int .i64 x.tun.came, .bool x.ended]
      clear hcell
      go_upto_region 6 with fail
      try simp only [Act.put, List.getElem_toArray, List.getElem_cons_succ, List.getElem_cons_zero, List.setIfInBounds_toArray, List.set_cons_zero, List.set_cons_succ]
      have x9 := (hX.cell (p := ⟨g, 9, none⟩) HROW2.out.lt).trans (RowIs.cell (j := 9) HROW2.out rfl)
      have xl : g < (wr.alloc (.cells #[.int .i64 x.id, .int .i64 x.get, .int .i64 x.give, (.slice a0 x.fds.length c00), .int .i64 x.tun.up.r, .string x.tun.up.b, .bool x.tun.up.e, .bool x.tun.up.k, .int .i64 x.tun.dn.r, .string x.tun.dn.b, .bool x.tun.dn.e, .bool x.tun.dn.k, .int .i64 x.tun.went, .int .i64 x.tun.came, .bool x.ended] 89)).heap.size := Nat.lt_of_lt_of_le HROW2.out.lt hX.size
      replace HBW := hide (bchain HBW.out hX)
      replace HO := hide (owns_new HO.out hX)
      replace HC2 := hide ((hX.cell (p := ⟨gc, k * 15 + 2, none⟩) hgc).trans HC2.out)
      have hgc2 := Nat.lt_of_lt_of_le hgc hX.size
      have hVg : V.heap.size ≤ gc := hlo
      clear hX c0 c1 c2 c3 c4 c5 c6 c7 c8 c9 c10 c11 c12 c13 c14
      generalize wr.alloc (.cells #[.int .i64 x.id, .int .i64 x.get, .int .i64 x.give, (.slice a0 x.fds.length c00), .int .i64 x.tun.up.r, .string x.tun.up.b, .bool x.tun.up.e, .bool x.tun.up.k, .int .i64 x.tun.dn.r, .string x.tun.dn.b, .bool x.tun.dn.e, .bool x.tun.dn.k, .int .i64 x.tun.went, .int .i64 x.tun.came, .bool x.ended] 89) = X at *
      generalize wr.heap.size = gx at *
      have y2 := RowIs.cell (j := 2) RX rfl
      have yl := RX.lt
      have z2 : ∀ y : Later X, y.w.cell? ⟨gx, 2, none⟩ = some (.int .i64 x.give) := fun y => (y.b.cell (p := ⟨gx, 2, none⟩) yl).trans y2
      have z9 : ∀ y : Later X, y.w.cell? ⟨g, 9, none⟩ = some (.int .i64 d.first) := fun y => (y.b.cell (p := ⟨g, 9, none⟩) xl).trans x9
      have hne : Nonempty (Later X) := ⟨⟨X, Below.refl _ _⟩⟩; refine region_later (by kernel_rfl) (by kernel_rfl) ?_
      repeat (go_big_quiet_step (fail))
      (go_big_quiet_want; go_big_quiet_op; refine ⟨.tuple #[.int .i64 a, .bool ok], fun y => later_calls (x := y) (by have := implMoved x.give d.first N y.w; rw [hmv] at this; exact this), ?_⟩; go_big_quiet_on)
      repeat (go_big_quiet_step (fail))
      refine wpQuiet_nil ?_; intro _ hw'; obtain ⟨y, hw''⟩ := hw'; subst hw''; have hby := y.b
      replace HBW := hide (bchain HBW.out hby)
      replace HO := hide (owns_new HO.out hby)
      replace HC2 := hide ((hby.cell (p := ⟨gc, k * 15 + 2, none⟩) hgc2).trans HC2.out)
      generalize y.w = W at *
      clear hby hne z2 z9 y2 yl x9 xl RX hmv
      cases ok
      · have hE0 := HE.out
        rw [if_neg (by rw [hNO.out rfl]; decide)] at hE0
        subst hE0
        have HL := hide (Lnk.after HB.out ((Lnk.start HM.out).new HBW.out))
        clear HE hNO hHA HUP HO HAL HPUT HFL HTS HRD HONE H15 HBW
        go_wp2_with fail
        refine ⟨rfl, rfl, bs, ?_⟩
        (try rw [List.append_nil]); exact HL.out
      · have HAL2 : Hid (∀ j (hj : j < ts.length), j < k + 1 → (mvV ts[j].2.1.give d.first N).2 = true) := fun j hj hjk => hHA.out j hj hjk rfl
        have ho2 := owns_set HO.out (g := gc) rfl (k * 15 + 2) (.int .i64 a)
        rw [HUP.out] at ho2
        have HO2 := hide ho2
        have HBW2 := hide (HBW.out.setCell (p := ⟨gc, k * 15 + 2, none⟩) hVg (.int .i64 a))
        have cx := HC2.out
        have cf := HO.out.frozenAt (k * 15 + 2)
        have cl := (owns_lt HO.out gc rfl).2
        clear ho2 HO HBW hHA hNO HUP HC2
        go_wp2_with fail
        go_roundw
        case rel => exact ⟨k + 1, by go_num, by omega, HBW2, HO2, HAL2⟩
        case measure => simp [intOf]; omega
end Go.Proofs.YtllaeakeaabiaaaGreat
