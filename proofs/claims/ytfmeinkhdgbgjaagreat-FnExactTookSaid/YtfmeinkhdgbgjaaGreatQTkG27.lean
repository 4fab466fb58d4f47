/- Several small texts of one level, one behind the other. -/
import Derived.Test.YtfmeinkhdgbgjaaGreatQTkG26
import Derived.Test.YtfmeinkhdgbgjaaGreatQTkSB
import Derived.Test.YtfmeinkhdgbgjaaGreatQTkG2
import Derived.Test.YtfmeinkhdgbgjaaGreatQTkG8
import Derived.Test.YtfmeinkhdgbgjaaGreatQTkBlk
import Derived.Deep.Cut
import Derived.Deep.DeepCutAuto
import Derived.Deep.RegionHeld3
import Derived.Test.YtfmeinkhdgbgjaaGreatQTkG5
import Derived.Test.YtfmeinkhdgbgjaaGreatQTkG4
import Derived.Handy
import Derived.Deep.QuietTactic
import Derived.Deep.DeepMust
import Derived.Test.YtfmeinkhdgbgjaaGreatQTkG25
import Derived.Test.YtfmeinkhdgbgjaaGreatQTkRegImpl
import Derived.Test.YtfmeinkhdgbgjaaGreatQTkG13
import Derived.Test.YtfmeinkhdgbgjaaGreatQTkG3
import Derived.Test.YtfmeinkhdgbgjaaGreatQTkG21
import Derived.Test.YtfmeinkhdgbgjaaGreatQTkG17
/- Chapter 17's model in place: taken out of a stream, given back. -/
namespace Go.Proofs.YtfmeinkhdgbgjaaGreat
open Go.RowKit
set_option maxRecDepth 100000
set_option linter.unusedSimpArgs false
set_option linter.unusedVariables false
theorem took_some {c : CnD} {id n : Int} {k : Nat} (h : atE c.reg.es id = some k) (h1 : k < c.flows.length) (h2 : k < c.reg.es.length) (hd : c.dead = false) :
    tookRaw c id n = (let room := max 0 (16777215 - max c.get c.flows[k].get)
      let s := c.flows[k].tun.up.b.extract 0 (outN c.flows[k].tun (min n room))
      let c1 : CnD := { c with flows := c.flows.set k { c.flows[k] with tun := (outTu c.flows[k].tun (min n room)).1 } }
      let g1 := if c.reg.es[k].state = 4 then (c1, []) else grantD c1 id s.size
      ((grantD g1.1 0 s.size).1, g1.2 ++ (grantD g1.1 0 s.size).2, s)) ∨ okTu c.flows[k].tun = false := by
  cases hk : okTu c.flows[k].tun
  · exact .inr rfl
  refine .inl ?_
  have hov : ∀ m, outF m c.flows[k] = { c.flows[k] with tun := (outTu c.flows[k].tun m).1 } := fun m => by
    unfold outF outTu
    rw [if_neg (by rw [hk]; decide)]
  unfold tookRaw
  rw [h]
  simp only [List.getElem?_eq_getElem h1, List.getElem?_eq_getElem h2]
  rw [if_neg (by rw [hd]; decide), atFl_at h h1, hov]
set_option maxHeartbeats 8000000 in
theorem tookM (g : Nat) (d : CnD) (bs : List Nat) (id n : Int) (w : World) (h : CnM w g d bs) (hok : okCn d = true) :
    Calls Tryz.prog 70 #[.pointer (some ⟨g, 0, none⟩), .int .i64 id, .int .i64 n] w fun x w' => ∃ v, x = .returned (.tuple #[v, .string (tookRaw d id n).2.2]) ∧ StepC w g bs ((tookRaw d id n).1, (tookRaw d id n).2.1) (.returned v) w' := by
  obtain ⟨hlen, h60⟩ := cn_len hok
  have hfle : d.flows.length ≤ 60 := by omega
  have hgl := h.lt
  have HC := hide h
  obtain ⟨⟨ve, vi, vo, vf, hrow, hcw⟩, _⟩ := h
  have x0 := RowIs.cell (j := 0) hrow rfl
  have x1 := RowIs.cell (j := 1) hrow rfl
  have x2 := RowIs.cell (j := 2) hrow rfl
  have HROW := hide hrow
  have HRE := hide hcw.rd.e
  obtain ⟨ae, pe, eve, hae, _⟩ := hcw.rd.e.form
  subst eve
  clear hrow hcw
  have hc := fun u hu => specAt d.reg id (.slice ae d.reg.es.length pe) u hu
  cases hat : atE d.reg.es id with
  | none =>
    have hI : atI d.reg.es id = -1 := by unfold atI; rw [hat]
    rw [hI] at hc
    rw [took_none hat]
    clear hI hat
    go_enter Tryz.func70, Tryz.ntmps70
    go_wp2_with fail
    refine (hc _ HRE.out).mono ?_; rintro x w1 ⟨rfl, hb1⟩
    go_wp2_with fail
    refine bodyPost_ret (v := .tuple #[.slice (some ⟨w1.heap.size, 0, none⟩) 0 0, .string ⟨#[]⟩]) (by simp [results, Tryz.results70, go_sem, *]) rfl ?_
    exact ⟨_, rfl, StepC.after (TurnB.new hb1) (NewB.refl _ _) (StepC.nothing (HC.out.new hb1))⟩
  | some k =>
    obtain ⟨hk, _, _⟩ := atE_some hat
    have hI : atI d.reg.es id = k := atI_some hat
    rw [hI] at hc
    have hkf : k < d.flows.length := by omega
    have hkI : (k : Int) < d.reg.es.length := by omega
    have hkJ : (k : Int) < d.flows.length := by omega
    cases hdead : d.dead
    rotate_left
    · rw [took_dead hat hkf hk hdead]
      go_enter Tryz.func70, Tryz.ntmps70
      go_wp2_with fail
      refine (hc _ HRE.out).mono ?_; clear hc; rintro x w1 ⟨rfl, hb1⟩
      have x12 := RowIs.cell (j := 12) (HROW.out.new hb1) rfl
      rw [hdead] at x12
      go_wp2_with fail
      refine bodyPost_ret (v := .tuple #[.slice (some ⟨w1.heap.size, 0, none⟩) 0 0, .string ⟨#[]⟩]) (by simp [results, Tryz.results70, go_sem, *]) rfl ?_
      exact ⟨_, rfl, StepC.after (TurnB.new hb1) (NewB.refl _ _) (StepC.nothing (HC.out.new hb1))⟩
    obtain ⟨f, hf⟩ : ∃ f, d.flows[k] = f := ⟨_, rfl⟩
    have hff := cn_flow hok (List.getElem_mem hkf)
    have hwins := (cn_wins hok).1
    have htk := (took_some (n := n) hat hkf hk hdead).resolve_right (by intro e; rw [hff.2.2.1] at e; cases e)
    dsimp only at htk
    rw [hf] at htk hff
    obtain ⟨M, hM⟩ : ∃ M, max d.get f.get = M := ⟨_, rfl⟩
    obtain ⟨R, hR⟩ : ∃ R, max 0 (16777215 - M) = R := ⟨_, rfl⟩
    rw [hM, hR] at htk
    have hMb : -16777215 ≤ M ∧ M ≤ 16777215 := by rw [← hM]; omega
    have hmx1 := fun w => (specMax16 d.get f.get w).mono (fun e w' ⟨h1, h2⟩ => (⟨h1, by subst h2; exact Below.refl _ _⟩ : e = Ending.returned (.int .i64 (max d.get f.get)) ∧ Below w.heap.size w w'))
    have hmx2 := fun w => (specMax16 0 (16777215 - M) w).mono (fun e w' ⟨h1, h2⟩ => (⟨h1, by subst h2; exact Below.refl _ _⟩ : e = Ending.returned (.int .i64 (max 0 (16777215 - M))) ∧ Below w.heap.size w w'))
    rw [hM] at hmx1
    rw [hR] at hmx2
    have hws : IntKind.i64.wrap (16777215 - M) = 16777215 - M := by rw [IntKind.wrap_i64]; omega
    have HTK := hide htk; have HF := hide hf; have HAT := hide hat
    have hml := mild_ok hok
    have HML := hide hml
    clear hI hat htk hM hR hf
    go_enter Tryz.func70, Tryz.ntmps70
    go_wp2_with fail
    refine (hc _ HRE.out).mono ?_; clear hc; rintro x w1 ⟨rfl, hb1⟩
    have x12 := RowIs.cell (j := 12) (HROW.out.new hb1) rfl
    rw [hdead] at x12
    have HT : Hid (TurnB (g :: bs) w w1) := TurnB.new hb1
    replace HC := hide (HC.out.new hb1)
    clear hb1 x0 x1 x2 HROW HRE hdead
    obtain ⟨gf, ve2, vi2, vo2, cap, hrow, hgm, hgfl, hgg, c1, cf, _⟩ := HC.out.flGet k hkf
    rw [HF.out] at c1
    have x7 := RowIs.cell (j := 7) hrow rfl
    have x10 := RowIs.cell (j := 10) hrow rfl
    have xl := hrow.lt
    clear hrow
    go_upto_region 4 with fail
    have y7 : ∀ y : Later w1, y.w.cell? ⟨g, 7, none⟩ = some (.int .i64 d.get) := fun y => (y.b.cell (p := ⟨g, 7, none⟩) xl).trans x7
    have y10 : ∀ y : Later w1, y.w.cell? ⟨g, 10, none⟩ = some (.slice (some ⟨gf, 0, none⟩) d.flows.length cap) := fun y => (y.b.cell (p := ⟨g, 10, none⟩) xl).trans x10
    have y1 : ∀ y : Later w1, y.w.cell? ⟨gf, k * 15 + 1, none⟩ = some (.int .i64 f.get) := fun y => (y.b.cell (p := ⟨gf, k * 15 + 1, none⟩) hgfl).trans c1
    clear x7 x10 c1 cf x12
    have hne : Nonempty (Later w1) := ⟨⟨w1, Below.refl _ _⟩⟩; refine region_later (by kernel_rfl) (by kernel_rfl) ?_
    repeat (go_big_quiet_step (fail))
    go_big_quiet_want; go_big_quiet_op; refine ⟨.int .i64 M, fun y => later_calls (x := y) (hmx1 y.w), ?_⟩; go_big_quiet_on
    repeat (go_big_quiet_step (fail))
    go_big_quiet_want; go_big_quiet_op; refine ⟨.int .i64 R, fun y => later_calls (x := y) (hmx2 y.w), ?_⟩; go_big_quiet_on
    repeat (go_big_quiet_step (fail))
    refine wpQuiet_nil ?_; intro _ hw'; obtain ⟨y, hw''⟩ := hw'; subst hw''; have hby := y.b
    generalize y.w = W2 at *
    replace HC := hide (HC.out.new hby)
    replace HT := hide (HT.out.trans (TurnB.new hby))
    clear hby hne y7 y10 y1 hmx1 hmx2
    have hmn := fun w => specMin16 n R w
    obtain ⟨N, hN⟩ : ∃ N, min n R = N := ⟨_, rfl⟩
    rw [hN] at hmn HTK
    clear hN
    go_upto_region 5 with fail
    have hD : Below W2.heap.size W2 (World.drew W2) := (Below.refl _ _).drew
    replace HC := hide (HC.out.new hD)
    replace HT := hide (HT.out.trans (TurnB.new hD))
    clear hD
    obtain ⟨gf2, A, C, qe, qi, qo, cap2, hrow, hgm2, hgfl2, hmid, s1, s2, hput⟩ := HC.out.tun k hkf
    have x10 := RowIs.cell (j := 10) hrow rfl
    have hgg2 : g ≠ gf2 := fun e => HC.out.ng (e ▸ hgm2)
    rw [HF.out] at hmid s1 s2 hput
    have HMID := hide hmid; have HPUT := hide hput; have HROW := hide hrow
    clear hmid hput hrow
    refine wp_region_held_drew (S := fun u => u.cell? ⟨g, 10, none⟩ = some (.slice (some ⟨gf2, 0, none⟩) d.flows.length cap2)) (by kernel_rfl) x10 (fun hS => ?_)
    generalize World.drew W2 = v1 at *
    clear x10
    refine wpAnyH_take (i := 0) (v := ?_) rfl (by kernel_rfl) (by kernel_rfl) (by kernel_rfl) (fun _ _ _ h => h) (Or.inl ⟨by rfl, ?_⟩) hS ?_; rotate_left; focus (intro w hw; clear hw; go_simp; try with_reducible rfl)
    refine wpAnyH_take (i := 1) (v := ?_) rfl (by kernel_rfl) (by kernel_rfl) (by kernel_rfl) (fun _ _ _ h => h) (Or.inl ⟨by rfl, ?_⟩) hS ?_; rotate_left; focus (intro w hw; clear hw; go_simp; try with_reducible rfl)
    refine wpAnyH_take (i := 2) (v := ?_) rfl (by kernel_rfl) (by kernel_rfl) (by kernel_rfl) (fun _ _ _ h => h) (Or.inl ⟨by rfl, ?_⟩) hS ?_; rotate_left; focus (intro w hw; clear hw; go_simp; try with_reducible rfl)
    refine wpAnyH_take (i := 3) (v := .slice (some ⟨gf2, 0, none⟩) d.flows.length cap2) rfl (by kernel_rfl) (by kernel_rfl) (by kernel_rfl) (fun _ _ _ h => h) (Or.inl ⟨by kernel_rfl, ?ld⟩) hS ?_; case ld => (intro uu hu; go_simp)
    refine wpAnyH_take (i := 4) (v := ?_) rfl (by kernel_rfl) (by kernel_rfl) (by kernel_rfl) (fun _ _ _ h => h) (Or.inl ⟨by rfl, ?_⟩) hS ?_; rotate_left; focus (intro w hw; clear hw; go_simp; try with_reducible rfl)
    refine wpAnyH_take (i := 5) (v := ?_) rfl (by kernel_rfl) (by kernel_rfl) (by kernel_rfl) (fun _ _ _ h => h) (Or.inl ⟨by rfl, ?_⟩) hS ?_; rotate_left; focus (intro w hw; clear hw; go_simp; try with_reducible rfl)
    refine wpAnyH_take (i := 6) (v := ?_) rfl (by kernel_rfl) (by kernel_rfl) (by kernel_rfl) (fun _ _ _ h => h) (Or.inl ⟨by rfl, ?_⟩) hS ?_; rotate_left; focus (intro w hw; clear hw; go_simp; try with_reducible rfl)
    refine wpAnyH_take (i := 7) (v := ?_) rfl (by kernel_rfl) (by kernel_rfl) (by kernel_rfl) (fun _ _ _ h => h) (Or.inl ⟨by rfl, ?_⟩) hS ?_; rotate_left; focus (intro w hw; clear hw; go_simp; try with_reducible rfl)
    refine wpAnyH_take (i := 8) (v := ?_) rfl (by kernel_rfl) (by kernel_rfl) (by kernel_rfl) (fun _ _ _ h => h) (Or.inl ⟨by rfl, ?_⟩) hS ?_; rotate_left; focus (intro w hw; clear hw; go_simp; try with_reducible rfl)
    refine wpAnyH_ready (rs := [9]) (by kernel_rfl) (by simp) ?_; refine AllReadyH.cons rfl (fun K hK => ?_) AllReadyH.nil; go_simp
    refine (hmn _).mono ?_; rintro e v9 ⟨rfl, hsame⟩; obtain rfl := hsame.symm; clear hsame
    refine hK.out _ _ hS (fun hS => ?_)
    clear hK K hmn
    try simp only [Act.put, List.getElem_toArray, List.getElem_cons_succ, List.getElem_cons_zero, List.setIfInBounds_toArray, List.set_cons_zero, List.set_cons_succ]
    refine wpAnyH_ready (rs := [10]) (by kernel_rfl) (by simp) ?_; refine AllReadyH.cons rfl (fun K hK => ?_) AllReadyH.nil; go_simp
    refine (outM f.tun N gf2 (k * 15 + 4) _ A C _ HMID.out hff.2.2.1).mono ?_
    rintro x v2 ⟨rfl, hm2, ht2⟩
    have hov : (outTu f.tun N).1 = ⟨⟨f.tun.up.r, f.tun.up.b.extract (outN f.tun N) f.tun.up.b.size, f.tun.up.e, f.tun.up.k⟩, f.tun.dn, f.tun.went + outN f.tun N, f.tun.came⟩ ∧ (outTu f.tun N).2 = f.tun.up.b.extract 0 (outN f.tun N) := by
      unfold outTu; rw [if_neg (by rw [hff.2.2.1]; decide)]; exact ⟨rfl, rfl⟩
    have hpu := okPp_true (okTu_true hff.2.2.1).1
    have hsz : (f.tun.up.b.extract 0 (outN f.tun N)).size ≤ 2000 := by rw [ByteArray.size_extract]; omega
    have hc2 := HPUT.out v2 (outTu f.tun N).1 (by rw [hov.1]; show (f.tun.up.b.extract _ _).size ≤ _; rw [ByteArray.size_extract]; omega) (by rw [hov.1]; exact s2) hm2 (turnB_of ht2)
    have hx2 := RowIs.cell (j := 10) (HROW.out.kept (ht2.block g HROW.out.lt (by omega))) rfl
    refine hK.out _ _ hx2 (fun hS => ?_)
    have HC2 := hide hc2
    have HT2 := hide (HT.out.trans ((turnB_of ht2).wide (fun x hx => by simp at hx; subst hx; simp [hgm2])))
    rw [hov.2]
    clear hK K hc2 hm2 ht2 HMID HPUT HROW HC HT hx2
    try simp only [Act.put, List.getElem_toArray, List.getElem_cons_succ, List.getElem_cons_zero, List.setIfInBounds_toArray, List.set_cons_zero, List.set_cons_succ]
    refine wpAnyH_take (i := 11) (v := ?_) rfl (by kernel_rfl) (by kernel_rfl) (by kernel_rfl) (fun _ _ _ h => h) (Or.inl ⟨by rfl, ?_⟩) hS ?_; rotate_left; focus (intro w hw; clear hw; go_simp; try with_reducible rfl)
    try simp only [Act.put, List.getElem_toArray, List.getElem_cons_succ, List.getElem_cons_zero, List.setIfInBounds_toArray, List.set_cons_zero, List.set_cons_succ]
    refine wpAnyH_done (by kernel_rfl) ?_ _
    clear hS
    obtain ⟨s, hs⟩ : ∃ s, f.tun.up.b.extract 0 (outN f.tun N) = s := ⟨_, rfl⟩
    rw [hs] at HTK hsz
    rw [hs]
    obtain ⟨c1, hc1⟩ : ∃ x, ({ d with flows := d.flows.set k { f with tun := (outTu f.tun N).1 } } : CnD) = x := ⟨_, rfl⟩
    rw [hc1] at HC2 HTK
    have HM1 : Hid (Mild c1 16777215) := by show Mild _ _; rw [← hc1]; exact HML.out.setFlow k _ hff.1
    have HAT1 : Hid (atE c1.reg.es id = some k) := by show _ = _; rw [← hc1]; exact HAT.out
    have HRG : Hid (c1.reg = d.reg) := by show _ = _; rw [← hc1]
    clear hs hc1 hov hpu
    have hbx : Below v2.heap.size v2 (v2.alloc (.cells #[] 34)) := (Below.refl _ _).alloc (Nat.le_refl _) _
    have ho0 : (v2.alloc (.cells #[] 34)).ownsRow w.heap.size 34 4 (.slice (some ⟨v2.heap.size, 0, none⟩) 0 0) 0 (fr []) := owns_base (owns_lit v2 34 4 0 #[] rfl (by omega)) (fun q hq => by simp [Value.ownBlock] at hq; have := HT2.out.size; omega)
    have HC3 := hide (HC2.out.new hbx)
    have HT3 := hide (HT2.out.trans (TurnB.new hbx))
    have HO0 := hide ho0
    have HNQ : Hid (v2.heap.size ∉ g :: bs) := fun hx => by have := HC2.out.lts _ hx; omega
    have HZ2 : Hid (w.heap.size ≤ v2.heap.size) := HT2.out.size
    go_upto_region 7 with fail
    generalize v2.alloc (.cells #[] 34) = v3 at *
    clear hbx ho0 HC2 HT2
    obtain ⟨⟨qe3, qi3, qo3, qf3, hrow, hcw⟩, _⟩ := HC3.out
    have x2 := RowIs.cell (j := 2) hrow rfl
    have xl := hrow.lt
    have hre := hcw.rd.e
    rw [HRG.out] at hre
    obtain ⟨ae3, pe3, rfl, _, _⟩ := hre.form
    obtain ⟨eb, eo, ecs, hea, heb, hed, hec⟩ := hre.at k hk
    subst hea
    obtain rfl := hed
    have ce : v3.cell? ⟨eb, eo + k * 2 + 1, none⟩ = some (.int .i64 d.reg.es[k].state) := hec 1 _ rfl
    clear hec hrow hcw hre
    have hml1 := HM1.out
    have hs0 : (0 : Int) ≤ s.size := by omega
    by_cases h4 : d.reg.es[k].state = 4
    · rw [h4] at ce
      rw [if_pos h4] at HTK
      go_wp2_with fail
      refine (grantM g c1 bs 0 (s.size : Int) _ HC3.out (by omega) (by omega) (.inl rfl) hml1.len (by have := hml1.sixty; omega) (by have := hml1.get; omega) (fun x hx => by have := hml1.flw x hx; omega)).mono ?_
      rintro x u2 ⟨vh, rfl, hc3, ho3, ht3⟩
      have ho1 := frames_turn (L := []) HO0.out ht3 (fun q hq => by simp [Value.ownBlock] at hq; subst hq; exact HNQ.out)
      have HT4 := hide (HT3.out.trans ht3)
      have hrd := reads_of_owns ho3
      obtain ⟨ah, ph, hvh, _, _⟩ := owns_form ho3
      subst hvh
      have hgl3 := grant_short c1 0 (s.size : Int)
      have hz4 := HT4.out.size
      have HC4 := hide hc3
      clear hc3 ht3 ce x2
      go_wp2_with (at_builtin; go_must (refine wpList_app _ (by rfl) _ _ 37 (by rfl) 34 (.agg #[.int .i64 0, .int .i64 0, .int .i64 0, .string ⟨#[]⟩]) 4 40 Tryz.underlying37 (by kernel_rfl) rfl (by decide) w.heap.size _ 0 (fr []) (by rfl) ho1 _ (grantD c1 0 (s.size : Int)).2.length (fr (grantD c1 0 (s.size : Int)).2) (by rfl) hrd (fr_one _) (by omega) (by decide) hz4 ?_))
      intro ad8 cp8 v5 hown8 hg8 hat8
      have HFIN := hide (StepC.appended (L := []) (M := (grantD c1 0 (s.size : Int)).2) HC4.out HT4.out (NewB.refl _ _) (fun q hq => by simp [Value.ownBlock] at hq; subst hq; exact ⟨HZ2.out, HNQ.out⟩) (by rw [List.length_nil, Nat.zero_add]; exact hown8) hg8 hat8)
      clear hown8 hg8 hat8 ho3 ho1 hrd
      go_wp2_with fail
      refine bodyPost_ret (v := .tuple #[.slice ad8 (grantD c1 0 (s.size : Int)).2.length cp8, .string s]) (by simp [results, Tryz.results70, go_sem, *]) rfl ?_
      rw [HTK.out]
      exact ⟨_, rfl, HFIN.out⟩
    · have h4b : (d.reg.es[k].state != 4) = true := by simpa using h4
      rw [if_neg h4] at HTK
      go_wp2_with fail
      refine (grantM g c1 bs id (s.size : Int) _ HC3.out (by omega) (by omega) (.inr ⟨k, HAT1.out⟩) hml1.len (by have := hml1.sixty; omega) (by have := hml1.get; omega) (fun x hx => by have := hml1.flw x hx; omega)).mono ?_
      rintro x u2 ⟨vg, rfl, hc2, ho2, ht2⟩
      have HO2 := hide (owns_base ho2 (fun q hq => by have := (ho2.lt q hq).1; have := HT3.out.size; omega : ∀ q, vg.ownBlock = some q → w.heap.size ≤ q))
      have HV2 : Hid (∀ q, vg.ownBlock = some q → w.heap.size ≤ q ∧ q ∉ g :: bs) := fun q hq => ⟨by have := (ho2.lt q hq).1; have := HT3.out.size; omega, fun hx => by have := HC3.out.lts q hx; have := (ho2.lt q hq).1; omega⟩
      have HT4 := hide (HT3.out.trans ht2)
      have HC4 := hide hc2
      have hml2 := hml1.grant (id := id) hs0
      obtain ⟨af, pf, hvf, _, _⟩ := owns_form HO2.out
      subst hvf
      clear hc2 ht2 ho2 ce x2
      go_wp2_with fail
      refine (grantM g (grantD c1 id (s.size : Int)).1 bs 0 (s.size : Int) _ HC4.out (by omega) (by omega) (.inl rfl) hml2.len (by have := hml2.sixty; omega) (by have := hml2.get; omega) (fun x hx => by have := hml2.flw x hx; omega)).mono ?_
      rintro x u3 ⟨vh, rfl, hc3, ho3, ht3⟩
      have ho1 := frames_turn HO2.out ht3 (fun q hq => (HV2.out q hq).2)
      have HT5 := hide (HT4.out.trans ht3)
      have hrd := reads_of_owns ho3
      obtain ⟨ah, ph, hvh, _, _⟩ := owns_form ho3
      subst hvh
      have hgl2 := grant_short c1 id (s.size : Int)
      have hgl3 := grant_short (grantD c1 id (s.size : Int)).1 0 (s.size : Int)
      have hz4 := HT5.out.size
      have HC5 := hide hc3
      clear hc3 ht3
      go_wp2_with (at_builtin; go_must (refine wpList_app _ (by rfl) _ _ 37 (by rfl) 34 (.agg #[.int .i64 0, .int .i64 0, .int .i64 0, .string ⟨#[]⟩]) 4 40 Tryz.underlying37 (by kernel_rfl) rfl (by decide) w.heap.size _ (grantD c1 id (s.size : Int)).2.length (fr (grantD c1 id (s.size : Int)).2) (by rfl) ho1 _ (grantD (grantD c1 id (s.size : Int)).1 0 (s.size : Int)).2.length (fr (grantD (grantD c1 id (s.size : Int)).1 0 (s.size : Int)).2) (by rfl) hrd (fr_one _) (by omega) (by decide) hz4 ?_))
      intro ad8 cp8 v5 hown8 hg8 hat8
      have HFIN := hide (StepC.appended (L := (grantD c1 id (s.size : Int)).2) (M := (grantD (grantD c1 id (s.size : Int)).1 0 (s.size : Int)).2) HC5.out HT5.out (NewB.refl _ _) HV2.out hown8 hg8 hat8)
      clear hown8 hg8 hat8 ho3 ho1 hrd
      go_wp2_with fail
      refine bodyPost_ret (v := .tuple #[.slice ad8 ((grantD c1 id (s.size : Int)).2.length + (grantD (grantD c1 id (s.size : Int)).1 0 (s.size : Int)).2.length) cp8, .string s]) (by simp [results, Tryz.results70, go_sem, *]) rfl ?_
      rw [HTK.out]
      exact ⟨_, rfl, HFIN.out⟩
end Go.Proofs.YtfmeinkhdgbgjaaGreat
/- Chapter 17's model in place: a frame of a head. -/
namespace Go.Proofs.YtfmeinkhdgbgjaaGreat
open Go.RowKit
set_option maxRecDepth 100000
set_option linter.unusedSimpArgs false
set_option linter.unusedVariables false
theorem Here.open {w W : World} {g : Nat} {bs bx : List Nat} {f : Fr} {C : CnD} (h : Here w g bs f W C bx) (id : Int) (hL : C.reg.es.length ≤ 1000) :
    Calls Tryz.prog 202 #[.pointer (some ⟨g, 0, none⟩), .int .i64 id] W fun x W' => ∃ bz, x = .returned (.int .i64 (openRaw C.reg id).2) ∧ Here w g bs f W' { C with reg := (openRaw C.reg id).1 } bz ∧ TurnB (g :: bx) W W' ∧ NewB W bx bz := by
  obtain ⟨ve, A, hr, hsub, hput⟩ := h.c.reg
  refine (openM g 0 _ [] A ve C.reg id W hr hL).mono ?_
  rintro x W' ⟨ve', rfl, hr', ht, hnw⟩
  obtain ⟨bz, hc, hb⟩ := hput W' _ ve' hr' ht hnw
  have ht' : TurnB (g :: bx) W W' := ht.wide (fun x hx => by rcases List.mem_cons.1 hx with rfl | hx; simp; simp [hsub x hx])
  exact ⟨bz, rfl, h.turn hc ht' hb, ht', hb⟩
end Go.Proofs.YtfmeinkhdgbgjaaGreat
/- The program's copy of a list, each item by its own apart: Flows. -/
namespace Go.Proofs.YtfmeinkhdgbgjaaGreat
open Go.RowKit
set_option maxRecDepth 100000
set_option linter.unusedSimpArgs false
set_option linter.unusedVariables false
theorem below_turnB {B : Nat} {a b c : World} {g : Nat} (h : Below B a b) (ht : TurnB [g] b c) (hg : B ≤ g) (hB : B ≤ b.heap.size) : Below B a c :=
  ⟨ht.os.trans h.os, ht.tape.trans h.tape, ht.output.trans h.output, Nat.le_trans h.size ht.size, fun k hk => (ht.block k (by omega) (by simp; omega)).trans (h.block k hk)⟩
theorem mApartFl (v : Value) (w : World) : (Go.method 457 57 v "loop.example/g00296/impl.apart").run Tryz.prog w = .ok (331, v) w := by kernel_rfl
set_option maxHeartbeats 8000000 in
theorem implEachFlow (fl : List FlD) (v : Value) (w : World) (hr : RdR flowS w v fl) (hok : ∀ f ∈ fl, okFs f.fds = true ∧ okTu f.tun = true) (hn : fl.length ≤ 60) :
    Calls Tryz.prog 183 #[v] w fun x w' => ∃ v', x = .returned v' ∧ OwX flowS w' w.heap.size w'.heap.size v' fl ∧ Below w.heap.size w w' := by
  obtain ⟨af, pf, rfl, q1, q2⟩ := hr.form
  have HFO : Hid (∀ f ∈ fl, okFs f.fds = true ∧ okTu f.tun = true) := hok
  obtain ⟨rs, hrs, hrd, hrr⟩ := hr
  have hrl : fl.length = rs.length := by rw [hrs]; simp
  have hone : ∀ u ∈ rs.flatMap (fun t : List Value × FlD => t.1), u.oneCell' = true := fun u hu => by
    obtain ⟨t, ht, hu⟩ := List.mem_flatMap.1 hu
    exact flowS.rd_one (hrr t ht) u hu
  have HRS := hide hrs; have HRD := hide hrd; have HRR := hide hrr; have HRL := hide hrl; have HONE := hide hone
  clear hrs hrd hrr hrl hone hok
  have hme := mApartFl
  go_enter Tryz.func183, Tryz.ntmps183
  go_wp2_with fail
  refine (implCloneFlow _ fl.length _ _ (by have := HRD.out; rw [← HRL.out] at this; exact this) HONE.out (by omega)).mono ?_; rintro e W5 ⟨vF, rfl, ho, hb⟩
  obtain ⟨ac, pc, rfl, qF1, qF2⟩ := owns_form ho
  have NHO := hide ho
  have NHB := hide hb
  obtain ⟨g9, hg9⟩ : ∃ n, W5.heap.size = n := ⟨_, rfl⟩
  have hug : w.heap.size ≤ g9 := by have := hb.size; omega
  have HVB : Hid (∀ q, (Value.slice ac fl.length pc).ownBlock = some q → w.heap.size ≤ q ∧ q < g9) := fun q hq => by have := owns_lt ho q hq; omega
  have hgW : Hid (g9 ≤ W5.heap.size) := Nat.le_of_eq hg9.symm
  clear ho hb hg9
  go_wp2_with fail
  have H0 : Hid (([] : List (List Value × FlD × List Nat)).map (fun t => t.2.1) = fl.take 0 ∧ (∀ t ∈ ([] : List (List Value × FlD × List Nat)), flowS.own W5 t.1 t.2.1 t.2.2) ∧ (([] : List (List Value × FlD × List Nat)).flatMap (fun t => t.2.2)).Nodup ∧ ∀ b ∈ ([] : List (List Value × FlD × List Nat)).flatMap (fun t => t.2.2), g9 ≤ b ∧ b < W5.heap.size) := ⟨by simp, fun t ht => (by cases ht), by simp, fun b hb => (by simp at hb)⟩
  have HO0 : Hid (W5.ownsRow w.heap.size 57 15 (.slice ac fl.length pc) fl.length (([] : List (List Value × FlD × List Nat)).flatMap (fun t => t.1) ++ (rs.drop 0).flatMap (fun t : List Value × FlD => t.1))) := by show World.ownsRow _ _ _ _ _ _ _; simpa using NHO.out
  go_loopw [10, 4, 5] (fun i _ _ wr => ∃ (k : Nat) (ts : List (List Value × FlD × List Nat)), i = .int .i64 (k : Int) ∧ k ≤ fl.length ∧ Hid (ts.map (fun t => t.2.1) = fl.take k ∧ (∀ t ∈ ts, flowS.own wr t.1 t.2.1 t.2.2) ∧ (ts.flatMap (fun t => t.2.2)).Nodup ∧ ∀ b ∈ ts.flatMap (fun t => t.2.2), g9 ≤ b ∧ b < wr.heap.size) ∧ Hid (wr.ownsRow w.heap.size 57 15 (.slice ac fl.length pc) fl.length (ts.flatMap (fun t => t.1) ++ (rs.drop k).flatMap (fun t : List Value × FlD => t.1))) ∧ Hid (Below w.heap.size w wr) ∧ Hid (g9 ≤ wr.heap.size)) (fun i _ _ _ => fl.length - (intOf i).toNat)
  case atStart => exact ⟨0, [], rfl, Nat.zero_le _, H0, HO0, NHB, hgW⟩
  case round =>
    clear H0 HO0 NHB hgW NHO
    obtain ⟨k, ts, rfl, hk, HT, HO, HB, HSR⟩ := hrel
    by_cases hlt : k < fl.length
    rotate_left
    · have hltI : ¬ (k : Int) < fl.length := by omega
      have hkn : k = fl.length := by omega
      have hfin : OwX flowS wr w.heap.size wr.heap.size (.slice ac fl.length pc) fl := by
        obtain ⟨t1, t2, t3, t4⟩ := HT.out
        have ho := HO.out
        rw [hkn, List.take_length] at t1
        rw [hkn, List.drop_eq_nil_of_le (by have := HRL.out; omega)] at ho
        have htl : ts.length = fl.length := by have := congrArg List.length t1; simpa using this
        have hsr := HSR.out
        refine ⟨_, ⟨ts, t1.symm, by have := owns_base (base' := 0) ho (fun _ _ => Nat.zero_le _); rw [htl]; simp only [List.flatMap_nil, List.append_nil] at this; exact this, t2, rfl⟩, nodup_mk (opt_nodup _) t3 fun b hb hb2 => ?_, fun b hb => ?_⟩
        · have h1 := HVB.out b (by cases hv : (Value.slice ac fl.length pc).ownBlock <;> simp [hv] at hb ⊢; exact hb.symm)
          have h2 := t4 b hb2
          omega
        · rcases List.mem_append.1 hb with e | e
          · have h1 := HVB.out b (by cases hv : (Value.slice ac fl.length pc).ownBlock <;> simp [hv] at e ⊢; exact e.symm)
            omega
          · have h2 := t4 b e; omega
      have HF := hide hfin
      clear hfin hkn
      go_wp2_with fail
      go_ret
      exact ⟨_, rfl, HF.out, HB.out⟩
    · have hltI : (k : Int) < fl.length := by omega
      have hkr : k < rs.length := by have := HRL.out; omega
      obtain ⟨vq, hx1, s0, s1, hfd⟩ := HRR.out _ (List.getElem_mem hkr)
      have hxk : fl[k] = rs[k].2 := by simp only [HRS.out]; simp
      have hfo := HFO.out fl[k] (List.getElem_mem hlt)
      have hdr : (rs.drop k).flatMap (fun t : List Value × FlD => t.1) = rs[k].1 ++ (rs.drop (k + 1)).flatMap (fun t : List Value × FlD => t.1) := by rw [List.drop_eq_getElem_cons hkr]; rfl
      rw [hx1] at hdr
      have htk : fl.take (k + 1) = fl.take k ++ [fl[k]] := List.take_succ_eq_append_getElem hlt
      rw [hxk] at hfo htk
      obtain ⟨x, hx⟩ : ∃ x, rs[k].2 = x := ⟨_, rfl⟩
      rw [hx] at hdr s0 s1 hfd hfo htk
      obtain ⟨aq, pq, rfl, _, _⟩ := hfd.form
      have ho := HO.out
      rw [hdr, ← List.append_assoc] at ho
      have htl : ts.length = k := by have := congrArg List.length HT.out.1; simp at this; omega
      have hA15 : (ts.flatMap (fun t : List Value × FlD × List Nat => t.1)).length = k * 15 := by
        rw [flat_len (fun t : List Value × FlD × List Nat => t.1) 15 ts (fun t ht => flowS.rd_len (flowS.own_rd (HT.out.2.1 t ht))), htl]
      obtain ⟨gf, cap2, SS, hvc, hob, hgl1, hgl2, _, _, hmid, hput⟩ := owns_mid ho (by simp)
      simp only [Value.slice.injEq, true_and] at hvc
      obtain ⟨rfl, rfl⟩ := hvc
      rw [hA15] at hmid hput
      have hvb := HVB.out gf rfl
      obtain ⟨hu, hdd, _, _⟩ := okTu_true hfo.2
      have hu2 := okPp_true hu
      have hd2 := okPp_true hdd
      have HXB : Hid (x.tun.up.b.size ≤ 1000000 ∧ x.tun.dn.b.size ≤ 1000000) := ⟨by omega, by omega⟩
      have HFS := hide hfo.1
      clear hu hdd hu2 hd2
      have HFD := hide (hfd.new HB.out)
      have HPUT := hide hput
      have HTK := hide htk
      have S0 := hide s0; have S1 := hide s1
      clear hx1 s0 s1 hfd hxk hfo hdr htk hx ho htl hA15 hput
      have c0 : wr.cell? ⟨gf, k * 15, none⟩ = some (.int .i64 x.id) := hmid.cell (j := 0) rfl
      have c1 : wr.cell? ⟨gf, k * 15 + 1, none⟩ = some (.int .i64 x.get) := hmid.cell (j := 1) rfl
      have c2 : wr.cell? ⟨gf, k * 15 + 2, none⟩ = some (.int .i64 x.give) := hmid.cell (j := 2) rfl
      have c3 : wr.cell? ⟨gf, k * 15 + 3, none⟩ = some (.slice aq x.fds.length pq) := hmid.cell (j := 3) rfl
      have c4 : wr.cell? ⟨gf, k * 15 + 4, none⟩ = some (.int .i64 x.tun.up.r) := hmid.cell (j := 4) rfl
      have c5 : wr.cell? ⟨gf, k * 15 + 5, none⟩ = some (.string x.tun.up.b) := hmid.cell (j := 5) rfl
      have c6 : wr.cell? ⟨gf, k * 15 + 6, none⟩ = some (.bool x.tun.up.e) := hmid.cell (j := 6) rfl
      have c7 : wr.cell? ⟨gf, k * 15 + 7, none⟩ = some (.bool x.tun.up.k) := hmid.cell (j := 7) rfl
      have c8 : wr.cell? ⟨gf, k * 15 + 8, none⟩ = some (.int .i64 x.tun.dn.r) := hmid.cell (j := 8) rfl
      have c9 : wr.cell? ⟨gf, k * 15 + 9, none⟩ = some (.string x.tun.dn.b) := hmid.cell (j := 9) rfl
      have c10 : wr.cell? ⟨gf, k * 15 + 10, none⟩ = some (.bool x.tun.dn.e) := hmid.cell (j := 10) rfl
      have c11 : wr.cell? ⟨gf, k * 15 + 11, none⟩ = some (.bool x.tun.dn.k) := hmid.cell (j := 11) rfl
      have c12 : wr.cell? ⟨gf, k * 15 + 12, none⟩ = some (.int .i64 x.tun.went) := hmid.cell (j := 12) rfl
      have c13 : wr.cell? ⟨gf, k * 15 + 13, none⟩ = some (.int .i64 x.tun.came) := hmid.cell (j := 13) rfl
      have c14 : wr.cell? ⟨gf, k * 15 + 14, none⟩ = some (.bool x.ended) := hmid.cell (j := 14) rfl
      go_upto_region 5 with fail
      have hX : Below wr.heap.size wr (wr.alloc (.cells #[.int .i64 x.id, .int .i64 x.get, .int .i64 x.give, .slice aq x.fds.length pq, .int .i64 x.tun.up.r, .string x.tun.up.b, .bool x.tun.up.e, .bool x.tun.up.k, .int .i64 x.tun.dn.r, .string x.tun.dn.b, .bool x.tun.dn.e, .bool x.tun.dn.k, .int .i64 x.tun.went, .int .i64 x.tun.came, .bool x.ended] 57)) := (Below.refl _ _).alloc (Nat.le_refl _) _
      have RX := rowIs_new wr 57 [.int .i64 x.id, .int .i64 x.get, .int .i64 x.give, .slice aq x.fds.length pq, .int .i64 x.tun.up.r, .string x.tun.up.b, .bool x.tun.up.e, .bool x.tun.up.k, .int .i64 x.tun.dn.r, .string x.tun.dn.b, .bool x.tun.dn.e, .bool x.tun.dn.k, .int .i64 x.tun.went, .int .i64 x.tun.came, .bool x.ended]
      have HM := hide (hmid.new hX)
      replace HFD := hide (HFD.out.new hX)
      replace HB := hide (bchain HB.out hX)
      have HTO : Hid (∀ t ∈ ts, flowS.own (wr.alloc (.cells #[.int .i64 x.id, .int .i64 x.get, .int .i64 x.give, .slice aq x.fds.length pq, .int .i64 x.tun.up.r, .string x.tun.up.b, .bool x.tun.up.e, .bool x.tun.up.k, .int .i64 x.tun.dn.r, .string x.tun.dn.b, .bool x.tun.dn.e, .bool x.tun.dn.k, .int .i64 x.tun.went, .int .i64 x.tun.came, .bool x.ended] 57)) t.1 t.2.1 t.2.2) := fun t ht => flowS.own_keep (HT.out.2.1 t ht) hX.size (fun b hb => hX.block b (flowS.own_lt (HT.out.2.1 t ht) b hb))
      have HTB : Hid (∀ b ∈ ts.flatMap (fun t : List Value × FlD × List Nat => t.2.2), g9 ≤ b ∧ b < (wr.alloc (.cells #[.int .i64 x.id, .int .i64 x.get, .int .i64 x.give, .slice aq x.fds.length pq, .int .i64 x.tun.up.r, .string x.tun.up.b, .bool x.tun.up.e, .bool x.tun.up.k, .int .i64 x.tun.dn.r, .string x.tun.dn.b, .bool x.tun.dn.e, .bool x.tun.dn.k, .int .i64 x.tun.went, .int .i64 x.tun.came, .bool x.ended] 57)).heap.size) := fun b hb => ⟨(HT.out.2.2.2 b hb).1, Nat.lt_of_lt_of_le (HT.out.2.2.2 b hb).2 hX.size⟩
      have HSR2 : Hid (g9 ≤ (wr.alloc (.cells #[.int .i64 x.id, .int .i64 x.get, .int .i64 x.give, .slice aq x.fds.length pq, .int .i64 x.tun.up.r, .string x.tun.up.b, .bool x.tun.up.e, .bool x.tun.up.k, .int .i64 x.tun.dn.r, .string x.tun.dn.b, .bool x.tun.dn.e, .bool x.tun.dn.k, .int .i64 x.tun.went, .int .i64 x.tun.came, .bool x.ended] 57)).heap.size) := Nat.le_trans HSR.out hX.size
      have HTN := hide HT.out.2.2.1
      have HTM := hide HT.out.1
      clear hX hmid HT HO HSR c0 c1 c2 c3 c4 c5 c6 c7 c8 c9 c10 c11 c12 c13 c14
      generalize wr.heap.size = ge at *
      generalize wr.alloc (.cells #[.int .i64 x.id, .int .i64 x.get, .int .i64 x.give, .slice aq x.fds.length pq, .int .i64 x.tun.up.r, .string x.tun.up.b, .bool x.tun.up.e, .bool x.tun.up.k, .int .i64 x.tun.dn.r, .string x.tun.dn.b, .bool x.tun.dn.e, .bool x.tun.dn.k, .int .i64 x.tun.went, .int .i64 x.tun.came, .bool x.ended] 57) = u1 at *
      have x0 := RX.cell (j := 0) rfl
      have x1 := RX.cell (j := 1) rfl
      have x2 := RX.cell (j := 2) rfl
      have x3 := RX.cell (j := 3) rfl
      have x4 := RX.cell (j := 4) rfl
      have x5 := RX.cell (j := 5) rfl
      have x6 := RX.cell (j := 6) rfl
      have x7 := RX.cell (j := 7) rfl
      have x8 := RX.cell (j := 8) rfl
      have x9 := RX.cell (j := 9) rfl
      have x10 := RX.cell (j := 10) rfl
      have x11 := RX.cell (j := 11) rfl
      have x12 := RX.cell (j := 12) rfl
      have x13 := RX.cell (j := 13) rfl
      have x14 := RX.cell (j := 14) rfl
      have xl := RX.lt
      go_wp2_with fail
      refine (implFlowApart x _ _ HFD.out HFS.out HXB.out.1 HXB.out.2).mono ?_; rintro e u2 ⟨vn, rfl, hon, hb2⟩
      obtain ⟨an, pn, rfl, _, _⟩ := owns_form hon
      clear x0 x1 x2 x3 x4 x5 x6 x7 x8 x9 x10 x11 x12 x13 x14 xl RX
      replace HM := hide (HM.out.new hb2)
      replace HB := hide (bchain HB.out hb2)
      have HTO2 : Hid (∀ t ∈ ts, flowS.own u2 t.1 t.2.1 t.2.2) := fun t ht => flowS.own_keep (HTO.out t ht) hb2.size (fun b hb => hb2.block b (flowS.own_lt (HTO.out t ht) b hb))
      have HON := hide hon
      have HZ2 := hide hb2.size
      have HGU : Hid (gf < u1.heap.size) := Nat.lt_of_lt_of_le hvb.2 HSR2.out
      clear hon hb2 HTO
      go_upto_region 6 with (refine wpList_store_mid (by rfl) 57 _ _ (by rfl) gf (k * 15) [.int .i64 x.id, .int .i64 x.get, .int .i64 x.give, .slice an x.fds.length pn, .int .i64 x.tun.up.r, .string x.tun.up.b, .bool x.tun.up.e, .bool x.tun.up.k, .int .i64 x.tun.dn.r, .string x.tun.dn.b, .bool x.tun.dn.e, .bool x.tun.dn.k, .int .i64 x.tun.went, .int .i64 x.tun.came, .bool x.ended] (by rfl) (by rfl) 57 _ _ _ HM.out (by kernel_rfl) rfl (by intro u hu; simp at hu; rcases hu with rfl | rfl | rfl | rfl | rfl | rfl | rfl | rfl | rfl | rfl | rfl | rfl | rfl | rfl | rfl <;> rfl) ?_; intro u3 hm3 ht3)
      have ho3 := HPUT.out u3 [.int .i64 x.id, .int .i64 x.get, .int .i64 x.give, .slice an x.fds.length pn, .int .i64 x.tun.up.r, .string x.tun.up.b, .bool x.tun.up.e, .bool x.tun.up.k, .int .i64 x.tun.dn.r, .string x.tun.dn.b, .bool x.tun.dn.e, .bool x.tun.dn.k, .int .i64 x.tun.went, .int .i64 x.tun.came, .bool x.ended] rfl hm3
      have hon := HON.out
      have hsr2 := HSR2.out
      have hz2 := HZ2.out
      have hgu := HGU.out
      have HON3 := owns_kept hon (w' := u3) (fun q hq hl => ht3.block q hl (by have := (owns_lt hon q hq).1; simp; omega))
      have HB3 := hide (below_turnB HB.out ht3 (by omega) HB.out.size)
      have hnb : ∀ b, (Value.slice an x.fds.length pn).ownBlock = some b → u1.heap.size ≤ b ∧ b < u3.heap.size := fun b hb => owns_lt HON3 b hb
      have hT3 : Hid ((ts ++ [(([.int .i64 x.id, .int .i64 x.get, .int .i64 x.give, .slice an x.fds.length pn, .int .i64 x.tun.up.r, .string x.tun.up.b, .bool x.tun.up.e, .bool x.tun.up.k, .int .i64 x.tun.dn.r, .string x.tun.dn.b, .bool x.tun.dn.e, .bool x.tun.dn.k, .int .i64 x.tun.went, .int .i64 x.tun.came, .bool x.ended] : List Value), x, (Value.slice an x.fds.length pn).ownBlock.toList)]).map (fun t : List Value × FlD × List Nat => t.2.1) = fl.take (k + 1) ∧ (∀ t ∈ ts ++ [(([.int .i64 x.id, .int .i64 x.get, .int .i64 x.give, .slice an x.fds.length pn, .int .i64 x.tun.up.r, .string x.tun.up.b, .bool x.tun.up.e, .bool x.tun.up.k, .int .i64 x.tun.dn.r, .string x.tun.dn.b, .bool x.tun.dn.e, .bool x.tun.dn.k, .int .i64 x.tun.went, .int .i64 x.tun.came, .bool x.ended] : List Value), x, (Value.slice an x.fds.length pn).ownBlock.toList)], flowS.own u3 t.1 t.2.1 t.2.2) ∧ ((ts ++ [(([.int .i64 x.id, .int .i64 x.get, .int .i64 x.give, .slice an x.fds.length pn, .int .i64 x.tun.up.r, .string x.tun.up.b, .bool x.tun.up.e, .bool x.tun.up.k, .int .i64 x.tun.dn.r, .string x.tun.dn.b, .bool x.tun.dn.e, .bool x.tun.dn.k, .int .i64 x.tun.went, .int .i64 x.tun.came, .bool x.ended] : List Value), x, (Value.slice an x.fds.length pn).ownBlock.toList)]).flatMap (fun t : List Value × FlD × List Nat => t.2.2)).Nodup ∧ ∀ b ∈ (ts ++ [(([.int .i64 x.id, .int .i64 x.get, .int .i64 x.give, .slice an x.fds.length pn, .int .i64 x.tun.up.r, .string x.tun.up.b, .bool x.tun.up.e, .bool x.tun.up.k, .int .i64 x.tun.dn.r, .string x.tun.dn.b, .bool x.tun.dn.e, .bool x.tun.dn.k, .int .i64 x.tun.went, .int .i64 x.tun.came, .bool x.ended] : List Value), x, (Value.slice an x.fds.length pn).ownBlock.toList)]).flatMap (fun t : List Value × FlD × List Nat => t.2.2), g9 ≤ b ∧ b < u3.heap.size) := by
        refine ⟨by rw [List.map_append, HTM.out, HTK.out]; rfl, fun t ht => ?_, ?_, fun b hb => ?_⟩
        · rcases List.mem_append.1 ht with e | e
          · refine flowS.own_keep (HTO2.out t e) ht3.size (fun b hb => ht3.block b (flowS.own_lt (HTO2.out t e) b hb) ?_)
            have := (HTB.out b (List.mem_flatMap.2 ⟨t, e, hb⟩)).1
            simp; omega
          · simp at e
            subst e
            exact ⟨.slice an x.fds.length pn, _, rfl, S0.out, S1.out, fv_owr (owns_base HON3 (fun _ _ => Nat.zero_le _)) (fun f hf => fine_of (by have := HFS.out; unfold okFs at this; simp only [Bool.and_eq_true] at this; exact List.all_eq_true.1 this.1 f hf)), rfl⟩
        · rw [List.flatMap_append]
          refine nodup_mk HTN.out (by simpa using opt_nodup _) fun b hb hb2 => ?_
          have h1 := (HTB.out b hb).2
          simp only [List.flatMap_cons, List.flatMap_nil, List.append_nil] at hb2
          have h2 := (hnb b (by cases hv : (Value.slice an x.fds.length pn).ownBlock <;> simp [hv] at hb2 ⊢; exact hb2.symm)).1
          omega
        · rw [List.flatMap_append] at hb
          rcases List.mem_append.1 hb with e | e
          · have := HTB.out b e; have := ht3.size; omega
          · simp only [List.flatMap_cons, List.flatMap_nil, List.append_nil] at e
            have h2 := hnb b (by cases hv : (Value.slice an x.fds.length pn).ownBlock <;> simp [hv] at e ⊢; exact e.symm)
            omega
      have HO3 : Hid (u3.ownsRow w.heap.size 57 15 (.slice (some ⟨gf, 0, none⟩) fl.length pc) fl.length ((ts ++ [(([.int .i64 x.id, .int .i64 x.get, .int .i64 x.give, .slice an x.fds.length pn, .int .i64 x.tun.up.r, .string x.tun.up.b, .bool x.tun.up.e, .bool x.tun.up.k, .int .i64 x.tun.dn.r, .string x.tun.dn.b, .bool x.tun.dn.e, .bool x.tun.dn.k, .int .i64 x.tun.went, .int .i64 x.tun.came, .bool x.ended] : List Value), x, (Value.slice an x.fds.length pn).ownBlock.toList)]).flatMap (fun t : List Value × FlD × List Nat => t.1) ++ (rs.drop (k + 1)).flatMap (fun t : List Value × FlD => t.1))) := by
        show World.ownsRow _ _ _ _ _ _ _
        rw [List.flatMap_append]
        simpa using ho3
      have hs3 : Hid (g9 ≤ u3.heap.size) := by show _ ≤ _; have := ht3.size; omega
      clear hm3 ho3 HON3 HM HB hnb ht3 hon hsr2 hz2 hgu HON HZ2 HGU HSR2
      go_wp2_with fail
      go_roundw
      case rel => exact ⟨k + 1, _, by go_num, by omega, hT3, HO3, HB3, hs3⟩
      case measure => simp [intOf]; omega
end Go.Proofs.YtfmeinkhdgbgjaaGreat
/- The program's link: what is told; what happens to a stream; where a stream's Flow stands. -/
namespace Go.Proofs.YtfmeinkhdgbgjaaGreat
open Go.RowKit
set_option maxRecDepth 100000
set_option linter.unusedSimpArgs false
set_option linter.unusedVariables false
set_option maxHeartbeats 2000000 in
theorem implTell (lo g : Nat) (d : CnD) (L : List Fr) (bs : List Nat) (k fl st : Int) (b : ByteArray) (w : World) (h : LkM w lo g d L bs) (hL : L.length ≤ 1000000) :
    Calls Tryz.prog 138 #[.pointer (some ⟨g, 0, none⟩), .int .i64 k, .int .i64 fl, .int .i64 st, .string b] w fun x w' => x = .returned (.tuple #[]) ∧ ∃ bx, Lnk lo g w bs w' d (L ++ [⟨k, fl, st, b⟩]) bx := by
  have hbX : Below w.heap.size w (w.alloc (.cells #[.int .i64 k, .int .i64 fl, .int .i64 st, .string b] 34)) := (Below.refl _ _).alloc (Nat.le_refl _) _
  have hRd : Reads (w.alloc (.cells #[.int .i64 k, .int .i64 fl, .int .i64 st, .string b] 34)) (.slice (some ⟨w.heap.size, 0, none⟩) 1 1) 1 4 (fr [⟨k, fl, st, b⟩]) := reads_of_owns (owns_lit w 34 4 1 #[.int .i64 k, .int .i64 fl, .int .i64 st, .string b] rfl (by omega))
  have h2 := h.new hbX
  have hgl := h.glt
  have hlo := h2.base
  obtain ⟨ve, vi, vo, vf, tv, hrow, ho, hng, hput⟩ := h2.told
  obtain ⟨ta, tp, rfl, tn, tm⟩ := owns_form ho
  have x13 : w.cell? ⟨g, 13, none⟩ = some (.slice ta L.length tp) := (hbX.cell (p := ⟨g, 13, none⟩) hgl).symm.trans (RowIs.cell (j := 13) hrow rfl)
  have HP := hide hput
  have HROW := hide hrow
  have HB0 := hide hbX
  clear hput hrow h h2 hbX
  go_enter Tryz.func138, Tryz.ntmps138
  go_wp2_with (at_builtin; go_must (refine wpList_app _ (by rfl) _ _ 37 (by rfl) 34 (.agg #[.int .i64 0, .int .i64 0, .int .i64 0, .string ⟨#[]⟩]) 4 40 Tryz.underlying37 (by kernel_rfl) rfl (by decide) lo _ L.length (fr L) (by rfl) ho _ 1 (fr [⟨k, fl, st, b⟩]) (by rfl) hRd (fr_one _) (by omega) (by decide) hlo ?_))
  intro ad7 cap7 w7 hown7 hg7 hat7
  obtain ⟨bx, HF⟩ := HP.out w7 _ ⟨k, fl, st, b⟩ _ hown7 rfl hg7 (hat7.imp id (fun h => by rw [h]; simp))
  have HR7 := HROW.out.kept (hg7.block g HROW.out.lt (fun e => hng g e.symm rfl))
  have HG7 := hide (Lnk.after HB0.out HF)
  clear HF hown7 hg7 hat7 HP HROW HB0 hRd ho hng
  have x13 := RowIs.cell (j := 13) HR7 rfl
  have xf := RowIs.frozen HR7 13
  have xl := HR7.lt
  go_wp2_with fail
  first | go_end0 | refine bodyPost_ret (results_none rfl _ _ _) rfl ?_
  exact ⟨rfl, _, HG7.out⟩
theorem implState (lo g : Nat) (d : CnD) (L : List Fr) (bs : List Nat) (id : Int) (w : World) (h : LkM w lo g d L bs) (hs : okRg d.reg = true) :
    Calls Tryz.prog 76 #[.pointer (some ⟨g, 0, none⟩), .int .i64 id] w fun x w' => x = .returned (.int .i64 (stateD d.reg id)) ∧ Below w.heap.size w w' := by
  obtain ⟨⟨ve, vi, vo, vf, tv, cb, hrow, hc, h3, h4, h5⟩, hl, hlo, hng, hbs⟩ := h
  obtain ⟨ad, cap, rfl, _, _⟩ := hc.rd.e.form
  have hst : stateP d.reg id = stateD d.reg id := by unfold stateP; rw [if_pos hs]
  have HE := hide hc.rd.e
  have x0 := RowIs.cell (j := 0) hrow rfl
  have x1 := RowIs.cell (j := 1) hrow rfl
  have x2 := RowIs.cell (j := 2) hrow rfl
  clear hrow hc h3 h4 h5 hl hlo hng hbs
  go_enter Tryz.func76, Tryz.ntmps76
  go_wp2_with fail
  refine (implStateOf d.reg _ id _ HE.out).mono ?_; rw [hst]; rintro x w1 ⟨rfl, hb⟩
  go_wp2_with fail
  go_ret
  exact ⟨rfl, hb⟩
theorem implFlowSome (lo g : Nat) (d : CnD) (L : List Fr) (bs : List Nat) (id : Int) (k gf cap : Nat) (w : World) (h : LkM w lo g d L bs) (hlen : d.flows.length = d.reg.es.length) (h60 : d.reg.es.length ≤ 60) (ha : atE d.reg.es id = some k) (hx : w.cell? ⟨g, 10, none⟩ = some (.slice (some ⟨gf, 0, none⟩) d.flows.length cap)) :
    Calls Tryz.prog 74 #[.pointer (some ⟨g, 0, none⟩), .int .i64 id] w fun x w' => x = .returned (.pointer (some ⟨gf, k * 15, none⟩)) ∧ Below w.heap.size w w' := by
  obtain ⟨⟨ve, vi, vo, vf, tv, cb, hrow, hc, h3, h4, h5⟩, hl, hlo, hng, hbs⟩ := h
  obtain ⟨ad, cp, rfl, _, _⟩ := hc.rd.e.form
  have HE := hide hc.rd.e
  have x0 := RowIs.cell (j := 0) hrow rfl
  have x1 := RowIs.cell (j := 1) hrow rfl
  have x2 := RowIs.cell (j := 2) hrow rfl
  have hgl := hrow.lt
  obtain ⟨hk, _, _⟩ := atE_some ha
  have hi : atI d.reg.es id = k := by unfold atI; rw [ha]
  clear hrow hc h3 h4 h5 hl hlo hng hbs
  go_enter Tryz.func74, Tryz.ntmps74
  go_wp2_with fail
  refine (implPlace d.reg id _ _ HE.out h60).mono ?_; rw [hi]; rintro x w1 ⟨rfl, hb⟩
  have y10 := (hb.cell (p := ⟨g, 10, none⟩) hgl).trans hx
  have hkI : (k : Int) < d.flows.length := by omega
  have hk0 : ¬ (k : Int) < 0 := by omega
  clear x0 x1 x2 hx hi ha hlen h60 HE
  go_wp2_with fail
  go_ret
  exact ⟨rfl, hb⟩
theorem implFlowNone (lo g : Nat) (d : CnD) (L : List Fr) (bs : List Nat) (id : Int) (w : World) (h : LkM w lo g d L bs) (h60 : d.reg.es.length ≤ 60) (ha : atE d.reg.es id = none) :
    Calls Tryz.prog 74 #[.pointer (some ⟨g, 0, none⟩), .int .i64 id] w fun x w' => x = .returned (.pointer none) ∧ Below w.heap.size w w' := by
  obtain ⟨⟨ve, vi, vo, vf, tv, cb, hrow, hc, h3, h4, h5⟩, hl, hlo, hng, hbs⟩ := h
  obtain ⟨ad, cp, rfl, _, _⟩ := hc.rd.e.form
  have HE := hide hc.rd.e
  have x0 := RowIs.cell (j := 0) hrow rfl
  have x1 := RowIs.cell (j := 1) hrow rfl
  have x2 := RowIs.cell (j := 2) hrow rfl
  have hi : atI d.reg.es id = -1 := by unfold atI; rw [ha]
  clear hrow hc h3 h4 h5 hl hlo hng hbs
  go_enter Tryz.func74, Tryz.ntmps74
  go_wp2_with fail
  refine (implPlace d.reg id _ _ HE.out h60).mono ?_; rw [hi]; rintro x w1 ⟨rfl, hb⟩
  clear x0 x1 x2 hi ha h60 HE
  go_wp2_with fail
  go_ret
  exact ⟨rfl, hb⟩
end Go.Proofs.YtfmeinkhdgbgjaaGreat
