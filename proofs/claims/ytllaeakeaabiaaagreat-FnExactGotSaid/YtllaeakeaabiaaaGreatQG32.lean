/- Several small texts of one level, one behind the other. -/
import Derived.Test.YtllaeakeaabiaaaGreatQG31
import Derived.Test.YtllaeakeaabiaaaGreatQG27
import Derived.Test.YtllaeakeaabiaaaGreatQG4
import Derived.Test.YtllaeakeaabiaaaGreatQSB
import Derived.Test.YtllaeakeaabiaaaGreatQG25
import Derived.Test.YtllaeakeaabiaaaGreatQG5
import Derived.Test.YtllaeakeaabiaaaGreatQG9
import Derived.Test.YtllaeakeaabiaaaGreatQBlk
import Derived.Test.YtllaeakeaabiaaaGreatQG11
import Derived.Test.YtllaeakeaabiaaaGreatQG7
import Derived.Deep.RegionHeld3
/- Chapter 17's model in place: a window's frame. -/
namespace Go.Proofs.YtllaeakeaabiaaaGreat
open Go.RowKit
set_option maxRecDepth 100000
set_option linter.unusedSimpArgs false
set_option linter.unusedVariables false
/-- A Flow's Give set in place. -/
theorem CnM.flGive {w : World} {g : Nat} {d : CnD} {bs : List Nat} (h : CnM w g d bs) (k : Nat) (hk : k < d.flows.length) :
    ∃ gf ve vi vo cap, RowIs w g 43 (cncs d ve vi vo (.slice (some ⟨gf, 0, none⟩) d.flows.length cap)) ∧ gf ∈ bs ∧ gf < w.heap.size ∧ g ≠ gf ∧ w.cell? ⟨gf, k * 15 + 2, none⟩ = some (.int .i64 d.flows[k].give) ∧ w.frozen? ⟨gf, k * 15 + 2, none⟩ = false ∧
      ∀ n : Int, CnM (w.setCell ⟨gf, k * 15 + 2, none⟩ (.int .i64 n)) g { d with flows := d.flows.set k { d.flows[k] with give := n } } bs ∧ TurnB (g :: bs) w (w.setCell ⟨gf, k * 15 + 2, none⟩ (.int .i64 n)) := by
  obtain ⟨gf, A, C, ve, vi, vo, cap, v0, hrow, hgm, hgfl, hgg, hmid, s1, s2, _, hput⟩ := h.flw k hk
  refine ⟨gf, ve, vi, vo, cap, hrow, hgm, hgfl, hgg, MidIs.cell (j := 2) hmid rfl, MidIs.frozen hmid _, fun n => ⟨?_, (TurnB.refl _ _).set _ _ (by simp [hgm])⟩⟩
  have hm2 := MidIs.set hmid 2 (.int .i64 n) (by simp)
  exact hput _ { d.flows[k] with give := n } rfl s1 s2 hm2 ((TurnB.refl _ _).set _ _ (by simp))
theorem window_zero {d : CnD} {b : ByteArray} : windowD d 0 b = if (grV d.give (numV b)).2 then ({ d with give := (grV d.give (numV b)).1 }, []) else failD d 2 := by unfold windowD; rw [if_pos rfl]
theorem window_idle {d : CnD} {id : Int} {b : ByteArray} (hi : id ≠ 0) (h : stateD d.reg id = 0) : windowD d id b = failD d 1 := by unfold windowD; rw [if_neg hi, if_pos h]
theorem window_shut {d : CnD} {id : Int} {b : ByteArray} (hi : id ≠ 0) (h : stateD d.reg id = 4) : windowD d id b = (d, []) := by unfold windowD; rw [if_neg hi, if_neg (by rw [h]; decide), if_pos h]
theorem window_flow {d : CnD} {id : Int} {b : ByteArray} {k : Nat} (hi : id ≠ 0) (h0 : stateD d.reg id ≠ 0) (h4 : stateD d.reg id ≠ 4) (ha : atE d.reg.es id = some k) (hk : k < d.flows.length) :
    windowD d id b = if (grV d.flows[k].give (numV b)).2 then ({ d with flows := d.flows.set k { d.flows[k] with give := (grV d.flows[k].give (numV b)).1 } }, []) else ((breakD d id 2).1, [(breakD d id 2).2]) := by
  unfold windowD
  rw [if_neg hi, if_neg h0, if_neg h4, giveAt_some ha hk, atFl_at ha hk]
set_option maxHeartbeats 4000000 in
theorem windowM (g : Nat) (d : CnD) (bs : List Nat) (fk fl id : Int) (b : ByteArray) (w : World) (h : CnM w g d bs) (hok : okCn d = true) (hb : b.size ≤ maxLen) :
    Calls Tryz.prog 58 #[.pointer (some ⟨g, 0, none⟩), .agg #[.int .i64 fk, .int .i64 fl, .int .i64 id, .string b]] w (StepC w g bs (windowD d id b)) := by
  obtain ⟨hlen, h60⟩ := cn_len hok
  have hgl := h.lt
  have hbW : Below w.heap.size w (w.alloc (.cells #[.int .i64 fk, .int .i64 fl, .int .i64 id, .string b] 48)) := (Below.refl _ _).alloc (Nat.le_refl _) _
  have RB := rowIs_new w 48 [.int .i64 fk, .int .i64 fl, .int .i64 id, .string b]
  have HC := hide (h.new hbW)
  have HT : Hid (TurnB (g :: bs) w (w.alloc (.cells #[.int .i64 fk, .int .i64 fl, .int .i64 id, .string b] 48))) := TurnB.new hbW
  have hN := fun w => specNumber b w hb
  have hGr := fun x w => specGranted x (numV b) w
  obtain ⟨N, hNv⟩ : ∃ N, numV b = N := ⟨_, rfl⟩
  have HNV := hide hNv
  rw [hNv] at hN hGr
  clear h hbW hNv
  have r2 := RB.cell (j := 2) rfl
  have r3 := RB.cell (j := 3) rfl
  have rl := RB.lt
  by_cases hi : id = 0
  · subst hi
    have HW := hide (window_zero (d := d) (b := b))
    rw [HNV.out] at HW
    cases hq : (grV d.give N).2
    · rw [hq] at HW
      have hG1 := fun w => hGr d.give w
      rw [hq] at hG1
      go_enter Tryz.func58, Tryz.ntmps58
      go_wp2_with fail
      refine (hN _).mono ?_; rintro e w1 ⟨rfl, hsame⟩; obtain rfl := hsame.symm; clear hsame
      obtain ⟨⟨qe, qi, qo, qf, hrow, hcw⟩, _⟩ := HC.out
      have x8 := RowIs.cell (j := 8) hrow rfl
      clear hrow hcw
      go_wp2_with fail
      refine (hG1 _).mono ?_; rintro e w2 ⟨rfl, hsame⟩; obtain rfl := hsame.symm; clear hsame
      generalize w.alloc (.cells #[.int .i64 fk, .int .i64 fl, .int .i64 0, .string b] 48) = W at *
      go_wp2_with fail
      refine (failC g d bs 2 _ HC.out (by decide) (by decide) (by omega)).mono ?_
      intro x w3 hst
      have hst2 := StepC.after HT.out (NewB.refl _ _) hst
      obtain ⟨v3, bs3, rfl, hrest⟩ := hst2
      go_wp2_with fail
      go_ret
      rw [HW.out]
      exact ⟨v3, bs3, rfl, hrest⟩
    · replace HW : Hid (windowD d 0 b = ({ d with give := (grV d.give N).1 }, [])) := by show _ = _; rw [HW.out, hq]; rfl
      have hG1 := fun w => hGr d.give w
      rw [hq] at hG1
      go_enter Tryz.func58, Tryz.ntmps58
      go_wp2_with fail
      refine (hN _).mono ?_; rintro e w1 ⟨rfl, hsame⟩; obtain rfl := hsame.symm; clear hsame
      obtain ⟨⟨qe, qi, qo, qf, hrow, hcw⟩, _⟩ := HC.out
      have x8 := RowIs.cell (j := 8) hrow rfl
      have xf := RowIs.frozen hrow 8
      have xl := hrow.lt
      clear hrow hcw
      go_wp2_with fail
      refine (hG1 _).mono ?_; rintro e w2 ⟨rfl, hsame⟩; obtain rfl := hsame.symm; clear hsame
      have HC2 := hide (HC.out.setGive (grV d.give N).1)
      have HT2 := hide (HT.out.set ⟨g, 8, none⟩ (.int .i64 (grV d.give N).1) (by simp))
      generalize w.alloc (.cells #[.int .i64 fk, .int .i64 fl, .int .i64 0, .string b] 48) = W at *
      go_wp2_with fail
      go_ret
      rw [HW.out]
      exact StepC.after HT2.out (NewB.refl _ _) (StepC.nothing HC2.out)
  have hib : (id == 0) = false := by simpa using hi
  have hS := fun v w h => specState0 d.reg v id w h
  obtain ⟨s, hs⟩ : ∃ s, stateD d.reg id = s := ⟨_, rfl⟩
  rw [hs] at hS
  have HS := hide hs
  clear hs
  have HI := hide hi
  go_enter Tryz.func58, Tryz.ntmps58
  go_wp2_with fail
  refine (hN _).mono ?_; rintro e w1 ⟨rfl, hsame⟩; obtain rfl := hsame.symm; clear hsame
  obtain ⟨⟨qe, qi, qo, qf, hrow, hcw⟩, _⟩ := HC.out
  have x0 := RowIs.cell (j := 0) hrow rfl
  have x1 := RowIs.cell (j := 1) hrow rfl
  have x2 := RowIs.cell (j := 2) hrow rfl
  have xl := hrow.lt
  have HE := hide hcw.rd.e
  clear hrow hcw hN hi
  go_upto_region 8 with fail
  generalize w.alloc (.cells #[.int .i64 fk, .int .i64 fl, .int .i64 id, .string b] 48) = W at *
  have y0 : ∀ y : Later W, y.w.cell? ⟨g, 0, none⟩ = some (.int .i64 d.reg.lim) := fun y => (y.b.cell (p := ⟨g, 0, none⟩) xl).trans x0
  have y1 : ∀ y : Later W, y.w.cell? ⟨g, 1, none⟩ = some (.int .i64 d.reg.top) := fun y => (y.b.cell (p := ⟨g, 1, none⟩) xl).trans x1
  have y2 : ∀ y : Later W, y.w.cell? ⟨g, 2, none⟩ = some qe := fun y => (y.b.cell (p := ⟨g, 2, none⟩) xl).trans x2
  have z2 : ∀ y : Later W, y.w.cell? ⟨w.heap.size, 2, none⟩ = some (.int .i64 id) := fun y => (y.b.cell (p := ⟨w.heap.size, 2, none⟩) rl).trans r2
  have hne : Nonempty (Later W) := ⟨⟨W, Below.refl _ _⟩⟩; refine region_later (by kernel_rfl) (by kernel_rfl) ?_
  repeat (go_big_quiet_step (fail))
  go_big_quiet_want; go_big_quiet_op; refine ⟨.int .i64 s, fun y => later_calls (x := y) (hS _ y.w (HE.out.new y.b)), ?_⟩; go_big_quiet_on
  repeat (go_big_quiet_step (fail))
  refine wpQuiet_nil ?_; intro _ hw'; obtain ⟨y, hw''⟩ := hw'; subst hw''; have hby := y.b
  generalize y.w = W2 at *
  replace HC := hide (HC.out.new hby)
  replace HT := hide (HT.out.trans (TurnB.new hby))
  replace RB := RB.new hby
  clear hby x0 x1 x2 xl HE y0 y1 y2 z2 r2 r3 rl hS hne
  by_cases h0 : s = 0
  · subst h0
    have HW := hide (window_idle (b := b) HI.out HS.out)
    go_wp2_with fail
    refine (failC g d bs 1 _ HC.out (by decide) (by decide) (by omega)).mono ?_
    intro x w3 hst
    have hst2 := StepC.after HT.out (NewB.refl _ _) hst
    obtain ⟨v3, bs3, rfl, hrest⟩ := hst2
    go_wp2_with fail
    go_ret
    rw [HW.out]
    exact ⟨v3, bs3, rfl, hrest⟩
  by_cases h4 : s = 4
  · subst h4
    have HW := hide (window_shut (b := b) HI.out HS.out)
    go_wp2_with fail
    go_ret
    rw [HW.out]
    exact StepC.after HT.out (NewB.refl _ _) (StepC.nothing HC.out)
  obtain ⟨k, hat⟩ := state_at (r := d.reg) (id := id) (by rw [HS.out]; exact h0) (by rw [HS.out]; exact h4)
  obtain ⟨hk, _, _⟩ := atE_some hat
  have hkf : k < d.flows.length := by omega
  have hkI : (k : Int) < d.flows.length := by omega
  have HW := hide (window_flow (b := b) HI.out (by rw [HS.out]; exact h0) (by rw [HS.out]; exact h4) hat hkf)
  rw [HNV.out] at HW
  have hA := fun v w h => specAt d.reg id v w h
  rw [atI_some hat] at hA
  have h0b : (s == 0) = false := by simpa using h0
  have h4b : (s == 4) = false := by simpa using h4
  clear h0 h4 hat HS
  obtain ⟨⟨qe, qi, qo, qf, hrow, hcw⟩, _⟩ := HC.out
  have x0 := RowIs.cell (j := 0) hrow rfl
  have x1 := RowIs.cell (j := 1) hrow rfl
  have x2 := RowIs.cell (j := 2) hrow rfl
  have xl := hrow.lt
  have HE := hide hcw.rd.e
  have r2 := RB.cell (j := 2) rfl
  have rl := RB.lt
  clear hrow hcw
  go_upto_region 13 with fail
  have y0 : ∀ y : Later W2, y.w.cell? ⟨g, 0, none⟩ = some (.int .i64 d.reg.lim) := fun y => (y.b.cell (p := ⟨g, 0, none⟩) xl).trans x0
  have y1 : ∀ y : Later W2, y.w.cell? ⟨g, 1, none⟩ = some (.int .i64 d.reg.top) := fun y => (y.b.cell (p := ⟨g, 1, none⟩) xl).trans x1
  have y2 : ∀ y : Later W2, y.w.cell? ⟨g, 2, none⟩ = some qe := fun y => (y.b.cell (p := ⟨g, 2, none⟩) xl).trans x2
  have z2 : ∀ y : Later W2, y.w.cell? ⟨w.heap.size, 2, none⟩ = some (.int .i64 id) := fun y => (y.b.cell (p := ⟨w.heap.size, 2, none⟩) rl).trans r2
  have hne : Nonempty (Later W2) := ⟨⟨W2, Below.refl _ _⟩⟩; refine region_later (by kernel_rfl) (by kernel_rfl) ?_
  repeat (go_big_quiet_step (fail))
  go_big_quiet_want; go_big_quiet_op; refine ⟨.int .i64 k, fun y => later_calls (x := y) (hA _ y.w (HE.out.new y.b)), ?_⟩; go_big_quiet_on
  repeat (go_big_quiet_step (fail))
  refine wpQuiet_nil ?_; intro _ hw'; obtain ⟨y, hw''⟩ := hw'; subst hw''; have hby := y.b
  generalize y.w = W3 at *
  replace HC := hide (HC.out.new hby)
  replace HT := hide (HT.out.trans (TurnB.new hby))
  replace RB := RB.new hby
  clear hby x0 x1 x2 xl HE y0 y1 y2 z2 r2 rl hA hne
  obtain ⟨gf, ve, vi, vo, cap, hrow, hgm, hgfl, hgg, c2, cf, hput⟩ := HC.out.flGive k hkf
  have x10 := RowIs.cell (j := 10) hrow rfl
  have xl := hrow.lt
  have HP := hide hput
  clear hrow hput
  have hG1 := fun w => hGr d.flows[k].give w
  cases hq : (grV d.flows[k].give N).2
  · rw [hq] at HW hG1
    go_wp2_with fail
    refine (hG1 _).mono ?_; rintro e w5 ⟨rfl, hsame⟩; obtain rfl := hsame.symm; clear hsame
    have r2 := RB.cell (j := 2) rfl
    have rl := RB.lt
    go_wp2_with fail
    refine (breakM g d bs id 2 _ HC.out (by decide) (by decide) hlen (by omega)).mono ?_
    rintro x w6 ⟨bs6, rfl, hc6, ht6, hn6⟩
    dsimp only [frv]
    have HC6 := hide hc6
    have HT6 := hide (HT.out.trans ht6)
    have HN6 : Hid (NewB w bs bs6) := fun q hq => by
      rcases hn6 q hq with e | e
      · exact .inl e
      · exact .inr (Nat.le_trans HT.out.size e)
    clear hc6 ht6 hn6 x10 c2 cf
    go_wp2_with fail
    go_ret
    rw [HW.out]
    exact StepC.after HT6.out HN6.out (StepC.one (breakD d id 2).2 HC6.out)
  · replace HW : Hid (windowD d id b = ({ d with flows := d.flows.set k { d.flows[k] with give := (grV d.flows[k].give N).1 } }, [])) := by show _ = _; rw [HW.out, hq]; rfl
    rw [hq] at hG1
    go_wp2_with fail
    refine (hG1 _).mono ?_; rintro e w5 ⟨rfl, hsame⟩; obtain rfl := hsame.symm; clear hsame
    obtain ⟨hc6, ht6⟩ := HP.out (grV d.flows[k].give N).1
    have HC6 := hide hc6
    have HT6 := hide (HT.out.trans ht6)
    clear hc6 ht6
    go_wp2_with fail
    go_ret
    rw [HW.out]
    exact StepC.after HT6.out (NewB.refl _ _) (StepC.nothing HC6.out)
end Go.Proofs.YtllaeakeaabiaaaGreat
/- The model's way to read the Field with which a block begins. -/
namespace Go.Proofs.YtllaeakeaabiaaaGreat
open Go.RowKit
set_option maxRecDepth 100000
set_option linter.unusedSimpArgs false
set_option linter.unusedVariables false

theorem b0_get {s : ByteArray} (h : 0 < s.size) : b0 s = (s[0].toNat : Int) := by unfold b0; rw [bys_cons h]
theorem b0_none {s : ByteArray} (h : s.size = 0) : b0 s = -1 := by unfold b0; rw [bys_nil h]

set_option maxRecDepth 100000 in
set_option maxHeartbeats 4000000 in
theorem field1 (L : List Fd) (room : Int) (v : Value) (s : ByteArray) (w : World) (hr0 : Reads w v L.length 2 (fv L)) (hL : L.length ≤ 111) (hs : s.size ≤ maxLen) :
    Calls Tryz.prog 152 #[.agg #[.int .i64 room, v], .string s] w fun x w' => x = .returned (.tuple #[.agg #[.string (fldV L s).1.n, .string (fldV L s).1.v], .int .i64 (fldV L s).2]) ∧ Below w.heap.size w w' := by
  have hs' := hs
  unfold maxLen at hs'
  obtain ⟨hl, ad, cap, rfl, h1, h2, h3⟩ := hr0
  have H3 := hide h3
  clear h3
  have hnF : noF.n = ⟨#[]⟩ ∧ noF.v = ⟨#[]⟩ := ⟨rfl, rfl⟩
  obtain ⟨D, hD⟩ : ∃ D, fldV L s = D := ⟨_, rfl⟩
  rw [hD]
  unfold fldV at hD
  by_cases h0 : s.size = 0
  · have hDD : D = (noF, 0) := by rw [← hD, if_pos (by rw [b0_none h0]; omega)]
    have hse := ba_empty h0
    subst hse
    subst hDD
    clear hD
    go_enter Tryz.func152, Tryz.ntmps152; go_wp2_with fail
    (refine bodyPost_ret (v := (.tuple #[.agg #[.string (noF).n, .string (noF).v], .int .i64 (0)])) (by simp [results, Tryz.results152, go_sem, *]) rfl ?_)
    exact ⟨rfl, (by repeat' (first | (with_reducible exact Below.refl _ _) | (with_reducible refine Below.drew ?_) | (with_reducible refine bo_drewN _ ?_) | (with_reducible refine bo_alloc ?_ _) | (refine bchain ?_ (by with_reducible assumption)) | (with_reducible refine Below.setCell ?_ ?_ _) | go_size))⟩
  have hp : 0 < s.size := by omega
  have hne := list_ne hp
  have hne2 := list_isEmpty hp
  have hb := b0_get hp
  have hu := s[0].toNat_lt
  obtain ⟨c, hc⟩ : ∃ c : Int, (s[0].toNat : Int) = c := ⟨_, rfl⟩
  rw [hb, hc] at hD
  have hc0 : 0 ≤ c := by omega
  have hc1 : c ≤ 255 := by omega
  clear hb
  by_cases h64 : c < 64
  · have hDD : D = (noF, 0) := by rw [← hD, if_pos h64]
    subst hDD
    clear hD
    go_enter Tryz.func152, Tryz.ntmps152; go_wp2_with fail
    (refine bodyPost_ret (v := (.tuple #[.agg #[.string (noF).n, .string (noF).v], .int .i64 (0)])) (by simp [results, Tryz.results152, go_sem, *]) rfl ?_)
    exact ⟨rfl, (by repeat' (first | (with_reducible exact Below.refl _ _) | (with_reducible refine Below.drew ?_) | (with_reducible refine bo_drewN _ ?_) | (with_reducible refine bo_alloc ?_ _) | (refine bchain ?_ (by with_reducible assumption)) | (with_reducible refine Below.setCell ?_ ?_ _) | go_size))⟩
  rw [if_neg h64] at hD
  by_cases h128 : 128 ≤ c
  · rw [if_pos h128] at hD
    have hat := rd_upto s 7
    obtain ⟨⟨n, k⟩, hP⟩ : ∃ P, rdV s 7 = P := ⟨_, rfl⟩
    rw [hP] at hD hat
    simp only at hD hat
    obtain ⟨k0, k1⟩ := hat
    by_cases hk0 : k = 0
    · subst hk0
      rw [if_pos (Or.inl rfl)] at hD
      subst hD
      go_enter Tryz.func152, Tryz.ntmps152; go_wp2_with fail
      obtain ⟨V, hV⟩ : ∃ V, (w.alloc (.cells #[.int .i64 room, .slice ad L.length cap] 40)).alloc (.cells #[.string ⟨#[]⟩, .string ⟨#[]⟩] 146) = V := ⟨_, rfl⟩
      have HBW : Hid (Below w.heap.size w V) := by show Below _ _ _; rw [← hV]; exact bo_alloc ((Below.refl _ _).alloc (Nat.le_refl _) _) _
      have HX : Hid (RowIs V w.heap.size 40 [.int .i64 room, .slice ad L.length cap]) := by show RowIs _ _ _ _; rw [← hV]; exact (rowIs_new w 40 [.int .i64 room, .slice ad L.length cap]).alloc _
      have HRR : Hid (RowIs V (w.heap.size + 1) 146 [.string ⟨#[]⟩, .string ⟨#[]⟩]) := by show RowIs _ _ _ _; rw [← hV]; simpa using rowIs_new (w.alloc (.cells #[.int .i64 room, .slice ad L.length cap] 40)) 146 [.string ⟨#[]⟩, .string ⟨#[]⟩]
      rw [hV]
      clear hV
      refine (specRead s 7 _ hs).mono ?_; rw [hP]; rintro x w1 ⟨rfl, hb1⟩
      replace HX := hide (HX.out.new hb1); replace HRR := hide (HRR.out.new hb1); replace HBW := hide (bchain HBW.out hb1)
      clear hb1
      have x1c := HX.out.cell (j := 1) rfl; have r0 := HRR.out.cell (j := 0) rfl; have r1 := HRR.out.cell (j := 1) rfl; have r2 := HRR.out.frozen 0; have r3 := HRR.out.frozen 1; have hlr := HRR.out.lt
      go_wp2_with fail
      refine bodyPost_ret (v := (.tuple #[.agg #[.string (⟨#[]⟩), .string (⟨#[]⟩)], .int .i64 (0)])) (by simp [results, Tryz.results152, go_sem, *]) rfl ?_
      have hbw := HBW.out
      have hsz := HBW.out.size
      exact ⟨rfl, (by repeat' (first | (with_reducible exact hbw) | (with_reducible refine Below.setCell ?_ ?_ _) | (with_reducible refine Below.alloc ?_ ?_ _) | (with_reducible refine Below.drew ?_) | (with_reducible refine bo_drewN _ ?_) | omega | (simp; done) | (simp; omega)))⟩
    cases hin : inB n 1 L.length
    · rw [if_pos (Or.inr hin)] at hD
      subst hD
      go_enter Tryz.func152, Tryz.ntmps152; go_wp2_with fail
      obtain ⟨V, hV⟩ : ∃ V, (w.alloc (.cells #[.int .i64 room, .slice ad L.length cap] 40)).alloc (.cells #[.string ⟨#[]⟩, .string ⟨#[]⟩] 146) = V := ⟨_, rfl⟩
      have HBW : Hid (Below w.heap.size w V) := by show Below _ _ _; rw [← hV]; exact bo_alloc ((Below.refl _ _).alloc (Nat.le_refl _) _) _
      have HX : Hid (RowIs V w.heap.size 40 [.int .i64 room, .slice ad L.length cap]) := by show RowIs _ _ _ _; rw [← hV]; exact (rowIs_new w 40 [.int .i64 room, .slice ad L.length cap]).alloc _
      have HRR : Hid (RowIs V (w.heap.size + 1) 146 [.string ⟨#[]⟩, .string ⟨#[]⟩]) := by show RowIs _ _ _ _; rw [← hV]; simpa using rowIs_new (w.alloc (.cells #[.int .i64 room, .slice ad L.length cap] 40)) 146 [.string ⟨#[]⟩, .string ⟨#[]⟩]
      rw [hV]
      clear hV
      refine (specRead s 7 _ hs).mono ?_; rw [hP]; rintro x w1 ⟨rfl, hb1⟩
      replace HX := hide (HX.out.new hb1); replace HRR := hide (HRR.out.new hb1); replace HBW := hide (bchain HBW.out hb1)
      clear hb1
      have x1c := HX.out.cell (j := 1) rfl; have r0 := HRR.out.cell (j := 0) rfl; have r1 := HRR.out.cell (j := 1) rfl; have r2 := HRR.out.frozen 0; have r3 := HRR.out.frozen 1; have hlr := HRR.out.lt
      go_wp2_with fail
      refine (specIn _ _ _ _).mono ?_; rw [hin]; rintro x w2 ⟨rfl, rfl⟩
      go_wp2_with fail
      refine bodyPost_ret (v := (.tuple #[.agg #[.string (⟨#[]⟩), .string (⟨#[]⟩)], .int .i64 (0)])) (by simp [results, Tryz.results152, go_sem, *]) rfl ?_
      have hbw := HBW.out
      have hsz := HBW.out.size
      exact ⟨rfl, (by repeat' (first | (with_reducible exact hbw) | (with_reducible refine Below.setCell ?_ ?_ _) | (with_reducible refine Below.alloc ?_ ?_ _) | (with_reducible refine Below.drew ?_) | (with_reducible refine bo_drewN _ ?_) | omega | (simp; done) | (simp; omega)))⟩
    rw [if_neg (fun h => h.elim hk0 (fun h => by rw [hin] at h; cases h))] at hD
    obtain ⟨hn1, hn2⟩ := inB_true hin
    obtain ⟨q, rfl⟩ : ∃ q : Nat, n = (q : Int) + 1 := ⟨(n - 1).toNat, by omega⟩
    have hq : q < L.length := by omega
    rw [show ((q : Int) + 1).toNat - 1 = q by omega, List.getD_eq_getElem?_getD, List.getElem?_eq_getElem hq] at hD
    obtain ⟨b, o, rfl, hbw, hcc⟩ := H3.out (by omega)
    obtain ⟨s0, s1⟩ := fv_get L q hq
    obtain ⟨f, hff⟩ : ∃ f, L[q] = f := ⟨_, rfl⟩
    rw [hff] at s0 s1 hD
    have hD2 : (f, k) = D := hD
    subst hD2
    clear hD hff
    have c0 := hcc _ _ s0; have c1 := hcc _ _ s1
    have C0 := hide c0; have C1 := hide c1
    clear c0 c1 hcc s0 s1
    go_enter Tryz.func152, Tryz.ntmps152; go_wp2_with fail
    obtain ⟨V, hV⟩ : ∃ V, (w.alloc (.cells #[.int .i64 room, .slice (some ⟨b, o, none⟩) L.length cap] 40)).alloc (.cells #[.string ⟨#[]⟩, .string ⟨#[]⟩] 146) = V := ⟨_, rfl⟩
    have HBW : Hid (Below w.heap.size w V) := by show Below _ _ _; rw [← hV]; exact bo_alloc ((Below.refl _ _).alloc (Nat.le_refl _) _) _
    have HX : Hid (RowIs V w.heap.size 40 [.int .i64 room, .slice (some ⟨b, o, none⟩) L.length cap]) := by show RowIs _ _ _ _; rw [← hV]; exact (rowIs_new w 40 [.int .i64 room, .slice (some ⟨b, o, none⟩) L.length cap]).alloc _
    have HRR : Hid (RowIs V (w.heap.size + 1) 146 [.string ⟨#[]⟩, .string ⟨#[]⟩]) := by show RowIs _ _ _ _; rw [← hV]; simpa using rowIs_new (w.alloc (.cells #[.int .i64 room, .slice (some ⟨b, o, none⟩) L.length cap] 40)) 146 [.string ⟨#[]⟩, .string ⟨#[]⟩]
    rw [hV]
    clear hV
    refine (specRead s 7 _ hs).mono ?_; rw [hP]; rintro x w1 ⟨rfl, hb1⟩
    replace HX := hide (HX.out.new hb1); replace HRR := hide (HRR.out.new hb1); replace HBW := hide (bchain HBW.out hb1)
    clear hb1
    have x1c := HX.out.cell (j := 1) rfl; have r0 := HRR.out.cell (j := 0) rfl; have r1 := HRR.out.cell (j := 1) rfl; have r2 := HRR.out.frozen 0; have r3 := HRR.out.frozen 1; have hlr := HRR.out.lt
    have c0 : w1.cell? ⟨b, o + q * 2, none⟩ = some (.string f.n) := (HBW.out.cell (p := ⟨b, o + q * 2, none⟩) hbw).trans C0.out
    have c1 : w1.cell? ⟨b, o + q * 2 + 1, none⟩ = some (.string f.v) := (HBW.out.cell (p := ⟨b, o + q * 2 + 1, none⟩) hbw).trans C1.out
    go_wp2_with fail
    refine (specIn _ _ _ _).mono ?_; rw [hin]; rintro x w2 ⟨rfl, rfl⟩
    go_wp2_with fail
    refine bodyPost_ret (v := (.tuple #[.agg #[.string (f.n), .string (f.v)], .int .i64 (k)])) (by simp [results, Tryz.results152, go_sem, *]) rfl ?_
    have hbw := HBW.out
    have hsz := HBW.out.size
    exact ⟨rfl, (by repeat' (first | (with_reducible exact hbw) | (with_reducible refine Below.setCell ?_ ?_ _) | (with_reducible refine Below.alloc ?_ ?_ _) | (with_reducible refine Below.drew ?_) | (with_reducible refine bo_drewN _ ?_) | omega | (simp; done) | (simp; omega)))⟩
  · rw [if_neg h128] at hD
    have hat := rd_upto s 6
    obtain ⟨⟨n, k⟩, hP⟩ : ∃ P, rdV s 6 = P := ⟨_, rfl⟩
    rw [hP] at hD hat
    simp only at hD hat
    obtain ⟨k0, k1⟩ := hat
    by_cases hk0 : k = 0
    · subst hk0
      rw [if_pos (Or.inl rfl)] at hD
      subst hD
      go_enter Tryz.func152, Tryz.ntmps152; go_wp2_with fail
      obtain ⟨V, hV⟩ : ∃ V, (w.alloc (.cells #[.int .i64 room, .slice ad L.length cap] 40)).alloc (.cells #[.string ⟨#[]⟩, .string ⟨#[]⟩] 146) = V := ⟨_, rfl⟩
      have HBW : Hid (Below w.heap.size w V) := by show Below _ _ _; rw [← hV]; exact bo_alloc ((Below.refl _ _).alloc (Nat.le_refl _) _) _
      have HX : Hid (RowIs V w.heap.size 40 [.int .i64 room, .slice ad L.length cap]) := by show RowIs _ _ _ _; rw [← hV]; exact (rowIs_new w 40 [.int .i64 room, .slice ad L.length cap]).alloc _
      have HRR : Hid (RowIs V (w.heap.size + 1) 146 [.string ⟨#[]⟩, .string ⟨#[]⟩]) := by show RowIs _ _ _ _; rw [← hV]; simpa using rowIs_new (w.alloc (.cells #[.int .i64 room, .slice ad L.length cap] 40)) 146 [.string ⟨#[]⟩, .string ⟨#[]⟩]
      rw [hV]
      clear hV
      refine (specRead s 6 _ hs).mono ?_; rw [hP]; rintro x w1 ⟨rfl, hb1⟩
      replace HX := hide (HX.out.new hb1); replace HRR := hide (HRR.out.new hb1); replace HBW := hide (bchain HBW.out hb1)
      clear hb1
      have x1c := HX.out.cell (j := 1) rfl; have r0 := HRR.out.cell (j := 0) rfl; have r1 := HRR.out.cell (j := 1) rfl; have r2 := HRR.out.frozen 0; have r3 := HRR.out.frozen 1; have hlr := HRR.out.lt
      go_wp2_with fail
      refine bodyPost_ret (v := (.tuple #[.agg #[.string (⟨#[]⟩), .string (⟨#[]⟩)], .int .i64 (0)])) (by simp [results, Tryz.results152, go_sem, *]) rfl ?_
      have hbw := HBW.out
      have hsz := HBW.out.size
      exact ⟨rfl, (by repeat' (first | (with_reducible exact hbw) | (with_reducible refine Below.setCell ?_ ?_ _) | (with_reducible refine Below.alloc ?_ ?_ _) | (with_reducible refine Below.drew ?_) | (with_reducible refine bo_drewN _ ?_) | omega | (simp; done) | (simp; omega)))⟩
    cases hin : inB n 0 L.length
    · rw [if_pos (Or.inr hin)] at hD
      subst hD
      go_enter Tryz.func152, Tryz.ntmps152; go_wp2_with fail
      obtain ⟨V, hV⟩ : ∃ V, (w.alloc (.cells #[.int .i64 room, .slice ad L.length cap] 40)).alloc (.cells #[.string ⟨#[]⟩, .string ⟨#[]⟩] 146) = V := ⟨_, rfl⟩
      have HBW : Hid (Below w.heap.size w V) := by show Below _ _ _; rw [← hV]; exact bo_alloc ((Below.refl _ _).alloc (Nat.le_refl _) _) _
      have HX : Hid (RowIs V w.heap.size 40 [.int .i64 room, .slice ad L.length cap]) := by show RowIs _ _ _ _; rw [← hV]; exact (rowIs_new w 40 [.int .i64 room, .slice ad L.length cap]).alloc _
      have HRR : Hid (RowIs V (w.heap.size + 1) 146 [.string ⟨#[]⟩, .string ⟨#[]⟩]) := by show RowIs _ _ _ _; rw [← hV]; simpa using rowIs_new (w.alloc (.cells #[.int .i64 room, .slice ad L.length cap] 40)) 146 [.string ⟨#[]⟩, .string ⟨#[]⟩]
      rw [hV]
      clear hV
      refine (specRead s 6 _ hs).mono ?_; rw [hP]; rintro x w1 ⟨rfl, hb1⟩
      replace HX := hide (HX.out.new hb1); replace HRR := hide (HRR.out.new hb1); replace HBW := hide (bchain HBW.out hb1)
      clear hb1
      have x1c := HX.out.cell (j := 1) rfl; have r0 := HRR.out.cell (j := 0) rfl; have r1 := HRR.out.cell (j := 1) rfl; have r2 := HRR.out.frozen 0; have r3 := HRR.out.frozen 1; have hlr := HRR.out.lt
      go_wp2_with fail
      refine (specIn _ _ _ _).mono ?_; rw [hin]; rintro x w2 ⟨rfl, rfl⟩
      go_wp2_with fail
      refine bodyPost_ret (v := (.tuple #[.agg #[.string (⟨#[]⟩), .string (⟨#[]⟩)], .int .i64 (0)])) (by simp [results, Tryz.results152, go_sem, *]) rfl ?_
      have hbw := HBW.out
      have hsz := HBW.out.size
      exact ⟨rfl, (by repeat' (first | (with_reducible exact hbw) | (with_reducible refine Below.setCell ?_ ?_ _) | (with_reducible refine Below.alloc ?_ ?_ _) | (with_reducible refine Below.drew ?_) | (with_reducible refine bo_drewN _ ?_) | omega | (simp; done) | (simp; omega)))⟩
    rw [if_neg (fun h => h.elim hk0 (fun h => by rw [hin] at h; cases h))] at hD
    obtain ⟨hn1, hn2⟩ := inB_true hin
    obtain ⟨T, hT⟩ : ∃ T, s.extract k.toNat s.size = T := ⟨_, rfl⟩
    have hsl : ∀ w : World, (Instr.slice 9 (.string s) (some (.int .i64 k)) none none).run Tryz.prog w = .ok (.string T) w := by
      intro w
      rw [run_slice_string_from_if (P := Tryz.prog) w 9 s .i64 k Tryz.underlying9, if_pos ⟨k0, k1⟩, hT]
    have hTs : T.size + k.toNat = s.size := by rw [← hT, ba_extract_size (Nat.le_refl _) (by omega)]; omega
    have hTm : T.size ≤ maxLen := by unfold maxLen; omega
    rw [hT] at hD
    have hlt := rl_upto T
    obtain ⟨⟨x1, j⟩, hQ⟩ : ∃ Q, rlV T = Q := ⟨_, rfl⟩
    rw [hQ] at hD hlt
    simp only at hD hlt
    obtain ⟨j0, j1, _⟩ := hlt
    clear hT
    by_cases h0 : n = 0
    · subst h0
      rw [if_pos rfl] at hD
      by_cases hj : j = 0
      · subst hj
        rw [if_pos rfl] at hD
        subst hD
        go_enter Tryz.func152, Tryz.ntmps152; go_wp2_with fail
        obtain ⟨V, hV⟩ : ∃ V, (w.alloc (.cells #[.int .i64 room, .slice ad L.length cap] 40)).alloc (.cells #[.string ⟨#[]⟩, .string ⟨#[]⟩] 146) = V := ⟨_, rfl⟩
        have HBW : Hid (Below w.heap.size w V) := by show Below _ _ _; rw [← hV]; exact bo_alloc ((Below.refl _ _).alloc (Nat.le_refl _) _) _
        have HX : Hid (RowIs V w.heap.size 40 [.int .i64 room, .slice ad L.length cap]) := by show RowIs _ _ _ _; rw [← hV]; exact (rowIs_new w 40 [.int .i64 room, .slice ad L.length cap]).alloc _
        have HRR : Hid (RowIs V (w.heap.size + 1) 146 [.string ⟨#[]⟩, .string ⟨#[]⟩]) := by show RowIs _ _ _ _; rw [← hV]; simpa using rowIs_new (w.alloc (.cells #[.int .i64 room, .slice ad L.length cap] 40)) 146 [.string ⟨#[]⟩, .string ⟨#[]⟩]
        rw [hV]
        clear hV
        refine (specRead s 6 _ hs).mono ?_; rw [hP]; rintro x w1 ⟨rfl, hb1⟩
        replace HX := hide (HX.out.new hb1); replace HRR := hide (HRR.out.new hb1); replace HBW := hide (bchain HBW.out hb1)
        clear hb1
        have x1c := HX.out.cell (j := 1) rfl; have r0 := HRR.out.cell (j := 0) rfl; have r1 := HRR.out.cell (j := 1) rfl; have r2 := HRR.out.frozen 0; have r3 := HRR.out.frozen 1; have hlr := HRR.out.lt
        go_wp2_with fail
        refine (specIn _ _ _ _).mono ?_; rw [hin]; rintro x w2 ⟨rfl, rfl⟩
        go_upto_region 12 with fail; clear x1c r0 r1 r2 r3 hlr; have hl9 := HRR.out.lt; obtain ⟨v10, hW⟩ : ∃ v10, (w2).alloc (.cells #[.string ⟨#[]⟩, .string ⟨#[]⟩] 146) = v10 := ⟨_, rfl⟩; have hbW : Below (w2).heap.size (w2) v10 := (by rw [← hW]; exact (Below.refl _ _).alloc (Nat.le_refl _) _); have H10 : Hid (RowIs v10 (w2).heap.size 146 [.string ⟨#[]⟩, .string ⟨#[]⟩]) := (by show RowIs _ _ _ _; rw [← hW]; exact rowIs_new _ _ _); replace HX := hide (HX.out.new hbW); replace HRR := hide (HRR.out.new hbW); replace HBW := hide (bchain HBW.out hbW); clear hbW; rw [hW]; clear hW; have x1c := HX.out.cell (j := 1) rfl; have r0 := HRR.out.cell (j := 0) rfl; have r1 := HRR.out.cell (j := 1) rfl; have r2 := HRR.out.frozen 0; have r3 := HRR.out.frozen 1; have hlr := HRR.out.lt; have t0 := H10.out.cell (j := 0) rfl; have t1 := H10.out.cell (j := 1) rfl; have t2 := H10.out.frozen 0; have t3 := H10.out.frozen 1; have hlt10 := H10.out.lt
        go_wp2_with fail
        clear x1c r0 r1 r2 r3 hlr t0 t1 t2 t3 hlt10
        refine (specReadL T _ hTm).mono ?_; rw [hQ]; rintro x w3 ⟨rfl, hb3⟩
        replace HX := hide (HX.out.new hb3); replace HRR := hide (HRR.out.new hb3); replace HBW := hide (bchain HBW.out hb3)
        replace H10 := hide (H10.out.new hb3)
        clear hb3
        have x1c := HX.out.cell (j := 1) rfl; have r0 := HRR.out.cell (j := 0) rfl; have r1 := HRR.out.cell (j := 1) rfl; have r2 := HRR.out.frozen 0; have r3 := HRR.out.frozen 1; have hlr := HRR.out.lt
        have t0 := H10.out.cell (j := 0) rfl; have t1 := H10.out.cell (j := 1) rfl; have t2 := H10.out.frozen 0; have t3 := H10.out.frozen 1; have hlt10 := H10.out.lt
        go_wp2_with fail
        refine bodyPost_ret (v := (.tuple #[.agg #[.string (⟨#[]⟩), .string (⟨#[]⟩)], .int .i64 (0)])) (by simp [results, Tryz.results152, go_sem, *]) rfl ?_
        have hbw := HBW.out
        have hsz := HBW.out.size
        exact ⟨rfl, (by repeat' (first | (with_reducible exact hbw) | (with_reducible refine Below.setCell ?_ ?_ _) | (with_reducible refine Below.alloc ?_ ?_ _) | (with_reducible refine Below.drew ?_) | (with_reducible refine bo_drewN _ ?_) | omega | (simp; done) | (simp; omega)))⟩
      rw [if_neg hj] at hD
      obtain ⟨T2, hT2⟩ : ∃ T2, s.extract (k + j).toNat s.size = T2 := ⟨_, rfl⟩
      have hsl2 : ∀ w : World, (Instr.slice 9 (.string s) (some (.int .i64 (k + j))) none none).run Tryz.prog w = .ok (.string T2) w := by
        intro w
        rw [run_slice_string_from_if (P := Tryz.prog) w 9 s .i64 (k + j) Tryz.underlying9, if_pos ⟨by omega, by omega⟩, hT2]
      have hT2s : T2.size + (k + j).toNat = s.size := by rw [← hT2, ba_extract_size (Nat.le_refl _) (by omega)]; omega
      have hT2m : T2.size ≤ maxLen := by unfold maxLen; omega
      rw [hT2] at hD
      have hlt2 := rl_upto T2
      obtain ⟨⟨x2, j2⟩, hQ2⟩ : ∃ Q, rlV T2 = Q := ⟨_, rfl⟩
      rw [hQ2] at hD hlt2
      simp only at hD hlt2
      obtain ⟨i0, i1, _⟩ := hlt2
      clear hT2
      by_cases hj2 : j2 = 0
      · subst hj2
        rw [if_pos rfl] at hD
        subst hD
        go_enter Tryz.func152, Tryz.ntmps152; go_wp2_with fail
        obtain ⟨V, hV⟩ : ∃ V, (w.alloc (.cells #[.int .i64 room, .slice ad L.length cap] 40)).alloc (.cells #[.string ⟨#[]⟩, .string ⟨#[]⟩] 146) = V := ⟨_, rfl⟩
        have HBW : Hid (Below w.heap.size w V) := by show Below _ _ _; rw [← hV]; exact bo_alloc ((Below.refl _ _).alloc (Nat.le_refl _) _) _
        have HX : Hid (RowIs V w.heap.size 40 [.int .i64 room, .slice ad L.length cap]) := by show RowIs _ _ _ _; rw [← hV]; exact (rowIs_new w 40 [.int .i64 room, .slice ad L.length cap]).alloc _
        have HRR : Hid (RowIs V (w.heap.size + 1) 146 [.string ⟨#[]⟩, .string ⟨#[]⟩]) := by show RowIs _ _ _ _; rw [← hV]; simpa using rowIs_new (w.alloc (.cells #[.int .i64 room, .slice ad L.length cap] 40)) 146 [.string ⟨#[]⟩, .string ⟨#[]⟩]
        rw [hV]
        clear hV
        refine (specRead s 6 _ hs).mono ?_; rw [hP]; rintro x w1 ⟨rfl, hb1⟩
        replace HX := hide (HX.out.new hb1); replace HRR := hide (HRR.out.new hb1); replace HBW := hide (bchain HBW.out hb1)
        clear hb1
        have x1c := HX.out.cell (j := 1) rfl; have r0 := HRR.out.cell (j := 0) rfl; have r1 := HRR.out.cell (j := 1) rfl; have r2 := HRR.out.frozen 0; have r3 := HRR.out.frozen 1; have hlr := HRR.out.lt
        go_wp2_with fail
        refine (specIn _ _ _ _).mono ?_; rw [hin]; rintro x w2 ⟨rfl, rfl⟩
        go_upto_region 12 with fail; clear x1c r0 r1 r2 r3 hlr; have hl9 := HRR.out.lt; obtain ⟨v10, hW⟩ : ∃ v10, (w2).alloc (.cells #[.string ⟨#[]⟩, .string ⟨#[]⟩] 146) = v10 := ⟨_, rfl⟩; have hbW : Below (w2).heap.size (w2) v10 := (by rw [← hW]; exact (Below.refl _ _).alloc (Nat.le_refl _) _); have H10 : Hid (RowIs v10 (w2).heap.size 146 [.string ⟨#[]⟩, .string ⟨#[]⟩]) := (by show RowIs _ _ _ _; rw [← hW]; exact rowIs_new _ _ _); replace HX := hide (HX.out.new hbW); replace HRR := hide (HRR.out.new hbW); replace HBW := hide (bchain HBW.out hbW); clear hbW; rw [hW]; clear hW; have x1c := HX.out.cell (j := 1) rfl; have r0 := HRR.out.cell (j := 0) rfl; have r1 := HRR.out.cell (j := 1) rfl; have r2 := HRR.out.frozen 0; have r3 := HRR.out.frozen 1; have hlr := HRR.out.lt; have t0 := H10.out.cell (j := 0) rfl; have t1 := H10.out.cell (j := 1) rfl; have t2 := H10.out.frozen 0; have t3 := H10.out.frozen 1; have hlt10 := H10.out.lt
        go_wp2_with fail
        clear x1c r0 r1 r2 r3 hlr t0 t1 t2 t3 hlt10
        refine (specReadL T _ hTm).mono ?_; rw [hQ]; rintro x w3 ⟨rfl, hb3⟩
        replace HX := hide (HX.out.new hb3); replace HRR := hide (HRR.out.new hb3); replace HBW := hide (bchain HBW.out hb3)
        replace H10 := hide (H10.out.new hb3)
        clear hb3
        have x1c := HX.out.cell (j := 1) rfl; have r0 := HRR.out.cell (j := 0) rfl; have r1 := HRR.out.cell (j := 1) rfl; have r2 := HRR.out.frozen 0; have r3 := HRR.out.frozen 1; have hlr := HRR.out.lt
        have t0 := H10.out.cell (j := 0) rfl; have t1 := H10.out.cell (j := 1) rfl; have t2 := H10.out.frozen 0; have t3 := H10.out.frozen 1; have hlt10 := H10.out.lt
        go_upto_region 19 with fail
        clear x1c r0 r1 r2 r3 hlr t0 t1 t2 t3 hlt10
        obtain ⟨u9, hu9⟩ : ∃ u, World.setCell (w3) ⟨w2.heap.size, 0, none⟩ (.string x1) = u := ⟨_, rfl⟩; (try rw [hu9]); have hn1 : w2.heap.size ≠ w.heap.size := (by omega); have hn2 : w2.heap.size ≠ w.heap.size + 1 := (by omega); replace H10 : Hid (RowIs u9 w2.heap.size 146 [.string x1, .string ⟨#[]⟩]) := hide (hu9 ▸ H10.out.set 0 (.string x1)); replace HX := hide (HX.out.far ⟨w2.heap.size, 0, none⟩ (.string x1) hn1); replace HRR := hide (HRR.out.far ⟨w2.heap.size, 0, none⟩ (.string x1) hn2); replace HBW := hide (HBW.out.setCell (p := ⟨w2.heap.size, 0, none⟩) (show w.heap.size ≤ w2.heap.size by omega) (.string x1)); rw [hu9] at HX HRR HBW; clear hu9
        go_wp2_with fail
        refine (specReadL T2 _ hT2m).mono ?_; rw [hQ2]; rintro x w4 ⟨rfl, hb4⟩
        replace HX := hide (HX.out.new hb4); replace HRR := hide (HRR.out.new hb4); replace HBW := hide (bchain HBW.out hb4)
        replace H10 := hide (H10.out.new hb4)
        clear hb4
        have x1c := HX.out.cell (j := 1) rfl; have r0 := HRR.out.cell (j := 0) rfl; have r1 := HRR.out.cell (j := 1) rfl; have r2 := HRR.out.frozen 0; have r3 := HRR.out.frozen 1; have hlr := HRR.out.lt
        have t0 := H10.out.cell (j := 0) rfl; have t1 := H10.out.cell (j := 1) rfl; have t2 := H10.out.frozen 0; have t3 := H10.out.frozen 1; have hlt10 := H10.out.lt
        go_wp2_with fail
        refine bodyPost_ret (v := (.tuple #[.agg #[.string (⟨#[]⟩), .string (⟨#[]⟩)], .int .i64 (0)])) (by simp [results, Tryz.results152, go_sem, *]) rfl ?_
        have hbw := HBW.out
        have hsz := HBW.out.size
        exact ⟨rfl, (by repeat' (first | (with_reducible exact hbw) | (with_reducible refine Below.setCell ?_ ?_ _) | (with_reducible refine Below.alloc ?_ ?_ _) | (with_reducible refine Below.drew ?_) | (with_reducible refine bo_drewN _ ?_) | omega | (simp; done) | (simp; omega)))⟩
      rw [if_neg hj2] at hD
      subst hD
      go_enter Tryz.func152, Tryz.ntmps152; go_wp2_with fail
      obtain ⟨V, hV⟩ : ∃ V, (w.alloc (.cells #[.int .i64 room, .slice ad L.length cap] 40)).alloc (.cells #[.string ⟨#[]⟩, .string ⟨#[]⟩] 146) = V := ⟨_, rfl⟩
      have HBW : Hid (Below w.heap.size w V) := by show Below _ _ _; rw [← hV]; exact bo_alloc ((Below.refl _ _).alloc (Nat.le_refl _) _) _
      have HX : Hid (RowIs V w.heap.size 40 [.int .i64 room, .slice ad L.length cap]) := by show RowIs _ _ _ _; rw [← hV]; exact (rowIs_new w 40 [.int .i64 room, .slice ad L.length cap]).alloc _
      have HRR : Hid (RowIs V (w.heap.size + 1) 146 [.string ⟨#[]⟩, .string ⟨#[]⟩]) := by show RowIs _ _ _ _; rw [← hV]; simpa using rowIs_new (w.alloc (.cells #[.int .i64 room, .slice ad L.length cap] 40)) 146 [.string ⟨#[]⟩, .string ⟨#[]⟩]
      rw [hV]
      clear hV
      refine (specRead s 6 _ hs).mono ?_; rw [hP]; rintro x w1 ⟨rfl, hb1⟩
      replace HX := hide (HX.out.new hb1); replace HRR := hide (HRR.out.new hb1); replace HBW := hide (bchain HBW.out hb1)
      clear hb1
      have x1c := HX.out.cell (j := 1) rfl; have r0 := HRR.out.cell (j := 0) rfl; have r1 := HRR.out.cell (j := 1) rfl; have r2 := HRR.out.frozen 0; have r3 := HRR.out.frozen 1; have hlr := HRR.out.lt
      go_wp2_with fail
      refine (specIn _ _ _ _).mono ?_; rw [hin]; rintro x w2 ⟨rfl, rfl⟩
      go_upto_region 12 with fail; clear x1c r0 r1 r2 r3 hlr; have hl9 := HRR.out.lt; obtain ⟨v10, hW⟩ : ∃ v10, (w2).alloc (.cells #[.string ⟨#[]⟩, .string ⟨#[]⟩] 146) = v10 := ⟨_, rfl⟩; have hbW : Below (w2).heap.size (w2) v10 := (by rw [← hW]; exact (Below.refl _ _).alloc (Nat.le_refl _) _); have H10 : Hid (RowIs v10 (w2).heap.size 146 [.string ⟨#[]⟩, .string ⟨#[]⟩]) := (by show RowIs _ _ _ _; rw [← hW]; exact rowIs_new _ _ _); replace HX := hide (HX.out.new hbW); replace HRR := hide (HRR.out.new hbW); replace HBW := hide (bchain HBW.out hbW); clear hbW; rw [hW]; clear hW; have x1c := HX.out.cell (j := 1) rfl; have r0 := HRR.out.cell (j := 0) rfl; have r1 := HRR.out.cell (j := 1) rfl; have r2 := HRR.out.frozen 0; have r3 := HRR.out.frozen 1; have hlr := HRR.out.lt; have t0 := H10.out.cell (j := 0) rfl; have t1 := H10.out.cell (j := 1) rfl; have t2 := H10.out.frozen 0; have t3 := H10.out.frozen 1; have hlt10 := H10.out.lt
      go_wp2_with fail
      clear x1c r0 r1 r2 r3 hlr t0 t1 t2 t3 hlt10
      refine (specReadL T _ hTm).mono ?_; rw [hQ]; rintro x w3 ⟨rfl, hb3⟩
      replace HX := hide (HX.out.new hb3); replace HRR := hide (HRR.out.new hb3); replace HBW := hide (bchain HBW.out hb3)
      replace H10 := hide (H10.out.new hb3)
      clear hb3
      have x1c := HX.out.cell (j := 1) rfl; have r0 := HRR.out.cell (j := 0) rfl; have r1 := HRR.out.cell (j := 1) rfl; have r2 := HRR.out.frozen 0; have r3 := HRR.out.frozen 1; have hlr := HRR.out.lt
      have t0 := H10.out.cell (j := 0) rfl; have t1 := H10.out.cell (j := 1) rfl; have t2 := H10.out.frozen 0; have t3 := H10.out.frozen 1; have hlt10 := H10.out.lt
      go_upto_region 19 with fail
      clear x1c r0 r1 r2 r3 hlr t0 t1 t2 t3 hlt10
      obtain ⟨u9, hu9⟩ : ∃ u, World.setCell (w3) ⟨w2.heap.size, 0, none⟩ (.string x1) = u := ⟨_, rfl⟩; (try rw [hu9]); have hn1 : w2.heap.size ≠ w.heap.size := (by omega); have hn2 : w2.heap.size ≠ w.heap.size + 1 := (by omega); replace H10 : Hid (RowIs u9 w2.heap.size 146 [.string x1, .string ⟨#[]⟩]) := hide (hu9 ▸ H10.out.set 0 (.string x1)); replace HX := hide (HX.out.far ⟨w2.heap.size, 0, none⟩ (.string x1) hn1); replace HRR := hide (HRR.out.far ⟨w2.heap.size, 0, none⟩ (.string x1) hn2); replace HBW := hide (HBW.out.setCell (p := ⟨w2.heap.size, 0, none⟩) (show w.heap.size ≤ w2.heap.size by omega) (.string x1)); rw [hu9] at HX HRR HBW; clear hu9
      go_wp2_with fail
      refine (specReadL T2 _ hT2m).mono ?_; rw [hQ2]; rintro x w4 ⟨rfl, hb4⟩
      replace HX := hide (HX.out.new hb4); replace HRR := hide (HRR.out.new hb4); replace HBW := hide (bchain HBW.out hb4)
      replace H10 := hide (H10.out.new hb4)
      clear hb4
      have x1c := HX.out.cell (j := 1) rfl; have r0 := HRR.out.cell (j := 0) rfl; have r1 := HRR.out.cell (j := 1) rfl; have r2 := HRR.out.frozen 0; have r3 := HRR.out.frozen 1; have hlr := HRR.out.lt
      have t0 := H10.out.cell (j := 0) rfl; have t1 := H10.out.cell (j := 1) rfl; have t2 := H10.out.frozen 0; have t3 := H10.out.frozen 1; have hlt10 := H10.out.lt
      go_wp2_with fail
      refine bodyPost_ret (v := (.tuple #[.agg #[.string (x1), .string (x2)], .int .i64 (k + j + j2)])) (by simp [results, Tryz.results152, go_sem, *]) rfl ?_
      have hbw := HBW.out
      have hsz := HBW.out.size
      exact ⟨rfl, (by repeat' (first | (with_reducible exact hbw) | (with_reducible refine Below.setCell ?_ ?_ _) | (with_reducible refine Below.alloc ?_ ?_ _) | (with_reducible refine Below.drew ?_) | (with_reducible refine bo_drewN _ ?_) | omega | (simp; done) | (simp; omega)))⟩
    rw [if_neg h0] at hD
    have hn9 : (n == 0) = false := by simp [h0]
    obtain ⟨q, rfl⟩ : ∃ q : Nat, n = (q : Int) + 1 := ⟨(n - 1).toNat, by omega⟩
    have hq : q < L.length := by omega
    rw [show ((q : Int) + 1).toNat - 1 = q by omega, List.getD_eq_getElem?_getD, List.getElem?_eq_getElem hq] at hD
    obtain ⟨b, o, rfl, hbw, hcc⟩ := H3.out (by omega)
    obtain ⟨s0, s1⟩ := fv_get L q hq
    obtain ⟨f, hff⟩ : ∃ f, L[q] = f := ⟨_, rfl⟩
    rw [hff] at s0 s1 hD
    have hD2 : (if j = 0 then (noF, 0) else ((⟨f.n, x1⟩ : Fd), k + j)) = D := hD
    clear hD hff
    have c0 := hcc _ _ s0
    have C0 := hide c0
    clear c0 hcc s0 s1
    by_cases hj : j = 0
    · subst hj
      rw [if_pos rfl] at hD2
      subst hD2
      go_enter Tryz.func152, Tryz.ntmps152; go_wp2_with fail
      obtain ⟨V, hV⟩ : ∃ V, (w.alloc (.cells #[.int .i64 room, .slice (some ⟨b, o, none⟩) L.length cap] 40)).alloc (.cells #[.string ⟨#[]⟩, .string ⟨#[]⟩] 146) = V := ⟨_, rfl⟩
      have HBW : Hid (Below w.heap.size w V) := by show Below _ _ _; rw [← hV]; exact bo_alloc ((Below.refl _ _).alloc (Nat.le_refl _) _) _
      have HX : Hid (RowIs V w.heap.size 40 [.int .i64 room, .slice (some ⟨b, o, none⟩) L.length cap]) := by show RowIs _ _ _ _; rw [← hV]; exact (rowIs_new w 40 [.int .i64 room, .slice (some ⟨b, o, none⟩) L.length cap]).alloc _
      have HRR : Hid (RowIs V (w.heap.size + 1) 146 [.string ⟨#[]⟩, .string ⟨#[]⟩]) := by show RowIs _ _ _ _; rw [← hV]; simpa using rowIs_new (w.alloc (.cells #[.int .i64 room, .slice (some ⟨b, o, none⟩) L.length cap] 40)) 146 [.string ⟨#[]⟩, .string ⟨#[]⟩]
      rw [hV]
      clear hV
      refine (specRead s 6 _ hs).mono ?_; rw [hP]; rintro x w1 ⟨rfl, hb1⟩
      replace HX := hide (HX.out.new hb1); replace HRR := hide (HRR.out.new hb1); replace HBW := hide (bchain HBW.out hb1)
      clear hb1
      have x1c := HX.out.cell (j := 1) rfl; have r0 := HRR.out.cell (j := 0) rfl; have r1 := HRR.out.cell (j := 1) rfl; have r2 := HRR.out.frozen 0; have r3 := HRR.out.frozen 1; have hlr := HRR.out.lt
      go_wp2_with fail
      refine (specIn _ _ _ _).mono ?_; rw [hin]; rintro x w2 ⟨rfl, rfl⟩
      go_upto_region 12 with fail; clear x1c r0 r1 r2 r3 hlr; have hl9 := HRR.out.lt; obtain ⟨v10, hW⟩ : ∃ v10, (w2).alloc (.cells #[.string ⟨#[]⟩, .string ⟨#[]⟩] 146) = v10 := ⟨_, rfl⟩; have hbW : Below (w2).heap.size (w2) v10 := (by rw [← hW]; exact (Below.refl _ _).alloc (Nat.le_refl _) _); have H10 : Hid (RowIs v10 (w2).heap.size 146 [.string ⟨#[]⟩, .string ⟨#[]⟩]) := (by show RowIs _ _ _ _; rw [← hW]; exact rowIs_new _ _ _); replace HX := hide (HX.out.new hbW); replace HRR := hide (HRR.out.new hbW); replace HBW := hide (bchain HBW.out hbW); clear hbW; rw [hW]; clear hW; have x1c := HX.out.cell (j := 1) rfl; have r0 := HRR.out.cell (j := 0) rfl; have r1 := HRR.out.cell (j := 1) rfl; have r2 := HRR.out.frozen 0; have r3 := HRR.out.frozen 1; have hlr := HRR.out.lt; have t0 := H10.out.cell (j := 0) rfl; have t1 := H10.out.cell (j := 1) rfl; have t2 := H10.out.frozen 0; have t3 := H10.out.frozen 1; have hlt10 := H10.out.lt
      have c0 : v10.cell? ⟨b, o + q * 2, none⟩ = some (.string f.n) := (HBW.out.cell (p := ⟨b, o + q * 2, none⟩) hbw).trans C0.out
      have hnb : ¬ b = w2.heap.size := by omega
      go_upto_region 19 with fail
      clear x1c r0 r1 r2 r3 hlr t0 t1 t2 t3 hlt10
      clear c0
      obtain ⟨u9, hu9⟩ : ∃ u, World.setCell (v10) ⟨w2.heap.size, 0, none⟩ (.string f.n) = u := ⟨_, rfl⟩; (try rw [hu9]); have hn1 : w2.heap.size ≠ w.heap.size := (by omega); have hn2 : w2.heap.size ≠ w.heap.size + 1 := (by omega); replace H10 : Hid (RowIs u9 w2.heap.size 146 [.string f.n, .string ⟨#[]⟩]) := hide (hu9 ▸ H10.out.set 0 (.string f.n)); replace HX := hide (HX.out.far ⟨w2.heap.size, 0, none⟩ (.string f.n) hn1); replace HRR := hide (HRR.out.far ⟨w2.heap.size, 0, none⟩ (.string f.n) hn2); replace HBW := hide (HBW.out.setCell (p := ⟨w2.heap.size, 0, none⟩) (show w.heap.size ≤ w2.heap.size by omega) (.string f.n)); rw [hu9] at HX HRR HBW; clear hu9
      go_wp2_with fail
      refine (specReadL T _ hTm).mono ?_; rw [hQ]; rintro x w4 ⟨rfl, hb4⟩
      replace HX := hide (HX.out.new hb4); replace HRR := hide (HRR.out.new hb4); replace HBW := hide (bchain HBW.out hb4)
      replace H10 := hide (H10.out.new hb4)
      clear hb4
      have x1c := HX.out.cell (j := 1) rfl; have r0 := HRR.out.cell (j := 0) rfl; have r1 := HRR.out.cell (j := 1) rfl; have r2 := HRR.out.frozen 0; have r3 := HRR.out.frozen 1; have hlr := HRR.out.lt
      have t0 := H10.out.cell (j := 0) rfl; have t1 := H10.out.cell (j := 1) rfl; have t2 := H10.out.frozen 0; have t3 := H10.out.frozen 1; have hlt10 := H10.out.lt
      go_wp2_with fail
      refine bodyPost_ret (v := (.tuple #[.agg #[.string (⟨#[]⟩), .string (⟨#[]⟩)], .int .i64 (0)])) (by simp [results, Tryz.results152, go_sem, *]) rfl ?_
      have hbw := HBW.out
      have hsz := HBW.out.size
      exact ⟨rfl, (by repeat' (first | (with_reducible exact hbw) | (with_reducible refine Below.setCell ?_ ?_ _) | (with_reducible refine Below.alloc ?_ ?_ _) | (with_reducible refine Below.drew ?_) | (with_reducible refine bo_drewN _ ?_) | omega | (simp; done) | (simp; omega)))⟩
    rw [if_neg hj] at hD2
    subst hD2
    go_enter Tryz.func152, Tryz.ntmps152; go_wp2_with fail
    obtain ⟨V, hV⟩ : ∃ V, (w.alloc (.cells #[.int .i64 room, .slice (some ⟨b, o, none⟩) L.length cap] 40)).alloc (.cells #[.string ⟨#[]⟩, .string ⟨#[]⟩] 146) = V := ⟨_, rfl⟩
    have HBW : Hid (Below w.heap.size w V) := by show Below _ _ _; rw [← hV]; exact bo_alloc ((Below.refl _ _).alloc (Nat.le_refl _) _) _
    have HX : Hid (RowIs V w.heap.size 40 [.int .i64 room, .slice (some ⟨b, o, none⟩) L.length cap]) := by show RowIs _ _ _ _; rw [← hV]; exact (rowIs_new w 40 [.int .i64 room, .slice (some ⟨b, o, none⟩) L.length cap]).alloc _
    have HRR : Hid (RowIs V (w.heap.size + 1) 146 [.string ⟨#[]⟩, .string ⟨#[]⟩]) := by show RowIs _ _ _ _; rw [← hV]; simpa using rowIs_new (w.alloc (.cells #[.int .i64 room, .slice (some ⟨b, o, none⟩) L.length cap] 40)) 146 [.string ⟨#[]⟩, .string ⟨#[]⟩]
    rw [hV]
    clear hV
    refine (specRead s 6 _ hs).mono ?_; rw [hP]; rintro x w1 ⟨rfl, hb1⟩
    replace HX := hide (HX.out.new hb1); replace HRR := hide (HRR.out.new hb1); replace HBW := hide (bchain HBW.out hb1)
    clear hb1
    have x1c := HX.out.cell (j := 1) rfl; have r0 := HRR.out.cell (j := 0) rfl; have r1 := HRR.out.cell (j := 1) rfl; have r2 := HRR.out.frozen 0; have r3 := HRR.out.frozen 1; have hlr := HRR.out.lt
    go_wp2_with fail
    refine (specIn _ _ _ _).mono ?_; rw [hin]; rintro x w2 ⟨rfl, rfl⟩
    go_upto_region 12 with fail; clear x1c r0 r1 r2 r3 hlr; have hl9 := HRR.out.lt; obtain ⟨v10, hW⟩ : ∃ v10, (w2).alloc (.cells #[.string ⟨#[]⟩, .string ⟨#[]⟩] 146) = v10 := ⟨_, rfl⟩; have hbW : Below (w2).heap.size (w2) v10 := (by rw [← hW]; exact (Below.refl _ _).alloc (Nat.le_refl _) _); have H10 : Hid (RowIs v10 (w2).heap.size 146 [.string ⟨#[]⟩, .string ⟨#[]⟩]) := (by show RowIs _ _ _ _; rw [← hW]; exact rowIs_new _ _ _); replace HX := hide (HX.out.new hbW); replace HRR := hide (HRR.out.new hbW); replace HBW := hide (bchain HBW.out hbW); clear hbW; rw [hW]; clear hW; have x1c := HX.out.cell (j := 1) rfl; have r0 := HRR.out.cell (j := 0) rfl; have r1 := HRR.out.cell (j := 1) rfl; have r2 := HRR.out.frozen 0; have r3 := HRR.out.frozen 1; have hlr := HRR.out.lt; have t0 := H10.out.cell (j := 0) rfl; have t1 := H10.out.cell (j := 1) rfl; have t2 := H10.out.frozen 0; have t3 := H10.out.frozen 1; have hlt10 := H10.out.lt
    have c0 : v10.cell? ⟨b, o + q * 2, none⟩ = some (.string f.n) := (HBW.out.cell (p := ⟨b, o + q * 2, none⟩) hbw).trans C0.out
    have hnb : ¬ b = w2.heap.size := by omega
    go_upto_region 19 with fail
    clear x1c r0 r1 r2 r3 hlr t0 t1 t2 t3 hlt10
    clear c0
    obtain ⟨u9, hu9⟩ : ∃ u, World.setCell (v10) ⟨w2.heap.size, 0, none⟩ (.string f.n) = u := ⟨_, rfl⟩; (try rw [hu9]); have hn1 : w2.heap.size ≠ w.heap.size := (by omega); have hn2 : w2.heap.size ≠ w.heap.size + 1 := (by omega); replace H10 : Hid (RowIs u9 w2.heap.size 146 [.string f.n, .string ⟨#[]⟩]) := hide (hu9 ▸ H10.out.set 0 (.string f.n)); replace HX := hide (HX.out.far ⟨w2.heap.size, 0, none⟩ (.string f.n) hn1); replace HRR := hide (HRR.out.far ⟨w2.heap.size, 0, none⟩ (.string f.n) hn2); replace HBW := hide (HBW.out.setCell (p := ⟨w2.heap.size, 0, none⟩) (show w.heap.size ≤ w2.heap.size by omega) (.string f.n)); rw [hu9] at HX HRR HBW; clear hu9
    go_wp2_with fail
    refine (specReadL T _ hTm).mono ?_; rw [hQ]; rintro x w4 ⟨rfl, hb4⟩
    replace HX := hide (HX.out.new hb4); replace HRR := hide (HRR.out.new hb4); replace HBW := hide (bchain HBW.out hb4)
    replace H10 := hide (H10.out.new hb4)
    clear hb4
    have x1c := HX.out.cell (j := 1) rfl; have r0 := HRR.out.cell (j := 0) rfl; have r1 := HRR.out.cell (j := 1) rfl; have r2 := HRR.out.frozen 0; have r3 := HRR.out.frozen 1; have hlr := HRR.out.lt
    have t0 := H10.out.cell (j := 0) rfl; have t1 := H10.out.cell (j := 1) rfl; have t2 := H10.out.frozen 0; have t3 := H10.out.frozen 1; have hlt10 := H10.out.lt
    go_wp2_with fail
    refine bodyPost_ret (v := (.tuple #[.agg #[.string (f.n), .string (x1)], .int .i64 (k + j)])) (by simp [results, Tryz.results152, go_sem, *]) rfl ?_
    have hbw := HBW.out
    have hsz := HBW.out.size
    exact ⟨rfl, (by repeat' (first | (with_reducible exact hbw) | (with_reducible refine Below.setCell ?_ ?_ _) | (with_reducible refine Below.alloc ?_ ?_ _) | (with_reducible refine Below.drew ?_) | (with_reducible refine bo_drewN _ ?_) | omega | (simp; done) | (simp; omega)))⟩
end Go.Proofs.YtllaeakeaabiaaaGreat
/- Connections in plain words: what is sent is right, no more than both windows let, and is all that could go. -/
namespace Go.Proofs.YtllaeakeaabiaaaGreat
open Go.RowKit
set_option maxRecDepth 100000
set_option linter.unusedSimpArgs false
set_option linter.unusedVariables false
theorem dat_fr {x : Fr} (h1 : x.k = 1) (h2 : x.fl = 0 ∨ x.fl = 1) (h3 : 0 < x.st ∧ x.st ≤ 100000) (h4 : x.b.size ≤ 1000) : okFr x = true := by
  unfold okFr hdOk
  have e1 : inB x.fl 0 3 = true := inB_of (by omega) (by omega)
  have e2 : inB x.st 0 100000 = true := inB_of (by omega) h3.2
  have e3 : inB (x.b.size : Int) 0 1000 = true := inB_of (by omega) (by omega)
  rw [e1, e2, e3, if_neg (by simp), if_pos h1, if_neg (by omega), if_neg (by omega)]
  simp
  omega
/-- FnSends in plain words. -/
theorem flush_law {c : CnD} (h : okCn c = true) : ∃ d L, flushRaw c = (d, L) ∧ okCn d = true ∧ d.flows.length = c.flows.length ∧ (∀ x ∈ L, x.k = 1 ∧ okFr x = true ∧ msV (stateD c.reg x.st) = true) ∧ c.give - d.give = (catB L).size ∧ (0 < (catB L).size → 0 ≤ d.give) ∧
    (∀ j (h : j < c.flows.length) (h' : j < d.flows.length), catB (ofS c.flows[j].id L) ++ d.flows[j].tun.dn.b = c.flows[j].tun.dn.b ∧ c.flows[j].give - d.flows[j].give = (catB (ofS c.flows[j].id L)).size ∧ (0 < (catB (ofS c.flows[j].id L)).size → 0 ≤ d.flows[j].give)) ∧ flushRaw d = (d, []) := by
  have hz : ((catB []).size : Int) = 0 := rfl
  by_cases hd : c.dead = true
  · have he : flushRaw c = (c, []) := by unfold flushRaw; rw [if_pos hd]
    refine ⟨c, [], he, h, rfl, fun x hx => (by cases hx), by omega, fun hp => absurd hp (by decide), fun j g g' => ⟨ba_nil_append _, ?_, fun hp => absurd (show 0 < 0 from hp) (Nat.lt_irrefl _)⟩, he⟩
    have : ((catB (ofS c.flows[j].id [])).size : Int) = 0 := rfl
    omega
  · have he : flushRaw c = flushTo c c.flows.length := by unfold flushRaw; rw [if_neg hd]
    have hT := flT_all h c.flows.length (Nat.le_refl _)
    have hrg := okRg_iff.1 (okCn_iff.1 h).1
    rw [he]
    generalize (flushTo c c.flows.length) = q at hT ⊢
    obtain ⟨d, L⟩ := q
    dsimp only at hT
    refine ⟨d, L, rfl, hT.ok, hT.len, fun x hx => ?_, by have := hT.give.1; omega, hT.give.2, fun j g g' => ?_, ?_⟩
    · obtain ⟨x1, x2, x3, j, hj, _, hst, hm⟩ := hT.told x hx
      have he := entOk_iff.1 (hrg.2.2.2.1 j hj).1
      have hi := idB_iff.1 he.1
      refine ⟨x1, dat_fr x1 x2 (by rw [hst]; omega) x3, ?_⟩
      rw [hst, stateD_some (at_k (okCn_iff.1 h).1 hj) hj]
      exact hm
    · obtain ⟨b1, b2, b3, _⟩ := hT.each j g g'
      exact ⟨b1, by omega, b3⟩
    · unfold flushRaw
      rw [if_neg (by rw [hT.dead]; exact hd)]
      exact flush_still (fun j g g' => hT.still j g g' (by rw [← hT.len]; exact g)) _
end Go.Proofs.YtllaeakeaabiaaaGreat
/- The program's copy of a Flow, of a Conn; its link. -/
namespace Go.Proofs.YtllaeakeaabiaaaGreat
open Go.RowKit
set_option maxRecDepth 100000
set_option linter.unusedSimpArgs false
set_option linter.unusedVariables false
theorem fv_same (L : List Fd) (k : Nat) (h : k < L.length) : ((fv L).set (k * 2) (.string L[k].n)).set (k * 2 + 1) (.string L[k].v) = fv L := by
  obtain ⟨s0, s1⟩ := fv_get L k h
  rw [list_set_same s0, list_set_same s1]
set_option maxHeartbeats 8000000 in
theorem implFlowApart (x : FlD) (v : Value) (w : World) (hr : RdR fieldS w v x.fds) (hok : okFs x.fds = true) (h1 : x.tun.up.b.size ≤ 1000000) (h2 : x.tun.dn.b.size ≤ 1000000) :
    Calls Tryz.prog 125 #[.agg (flcs x v).toArray] w fun e w' => ∃ v', e = .returned (.agg (flcs x v').toArray) ∧ w'.ownsRow w.heap.size 146 2 v' x.fds.length (fv x.fds) ∧ Below w.heap.size w w' := by
  obtain ⟨aa, pa, rfl, q1, q2⟩ := hr.form
  have hall : ∀ f ∈ x.fds, okF f = true := by unfold okFs at hok; simp only [Bool.and_eq_true] at hok; exact fun f hf => List.all_eq_true.1 hok.1 f hf
  have h20 : x.fds.length ≤ 20 := by unfold okFs at hok; simp only [Bool.and_eq_true, decide_eq_true_eq] at hok; exact hok.2
  have HV := hide hr; have HALL := hide hall
  clear hr hall hok
  have hbA : Below w.heap.size w ((w.alloc (.cells #[.int .i64 x.id, .int .i64 x.get, .int .i64 x.give, .slice aa x.fds.length pa, .int .i64 x.tun.up.r, .string x.tun.up.b, .bool x.tun.up.e, .bool x.tun.up.k, .int .i64 x.tun.dn.r, .string x.tun.dn.b, .bool x.tun.dn.e, .bool x.tun.dn.k, .int .i64 x.tun.went, .int .i64 x.tun.came, .bool x.ended] 89)).alloc (.cells #[.int .i64 0, .int .i64 0, .int .i64 0, .slice none 0 0, .int .i64 0, .string ⟨#[]⟩, .bool false, .bool false, .int .i64 0, .string ⟨#[]⟩, .bool false, .bool false, .int .i64 0, .int .i64 0, .bool false] 89)) := ((Below.refl _ _).alloc (Nat.le_refl _) _).alloc (by simp) _
  have RA := (rowIs_new w 89 [.int .i64 x.id, .int .i64 x.get, .int .i64 x.give, .slice aa x.fds.length pa, .int .i64 x.tun.up.r, .string x.tun.up.b, .bool x.tun.up.e, .bool x.tun.up.k, .int .i64 x.tun.dn.r, .string x.tun.dn.b, .bool x.tun.dn.e, .bool x.tun.dn.k, .int .i64 x.tun.went, .int .i64 x.tun.came, .bool x.ended]).alloc (.cells #[.int .i64 0, .int .i64 0, .int .i64 0, .slice none 0 0, .int .i64 0, .string ⟨#[]⟩, .bool false, .bool false, .int .i64 0, .string ⟨#[]⟩, .bool false, .bool false, .int .i64 0, .int .i64 0, .bool false] 89)
  have RZ := rowIs_new (w.alloc (.cells #[.int .i64 x.id, .int .i64 x.get, .int .i64 x.give, .slice aa x.fds.length pa, .int .i64 x.tun.up.r, .string x.tun.up.b, .bool x.tun.up.e, .bool x.tun.up.k, .int .i64 x.tun.dn.r, .string x.tun.dn.b, .bool x.tun.dn.e, .bool x.tun.dn.k, .int .i64 x.tun.went, .int .i64 x.tun.came, .bool x.ended] 89)) 89 [.int .i64 0, .int .i64 0, .int .i64 0, .slice none 0 0, .int .i64 0, .string ⟨#[]⟩, .bool false, .bool false, .int .i64 0, .string ⟨#[]⟩, .bool false, .bool false, .int .i64 0, .int .i64 0, .bool false]
  have hsz : (w.alloc (.cells #[.int .i64 x.id, .int .i64 x.get, .int .i64 x.give, .slice aa x.fds.length pa, .int .i64 x.tun.up.r, .string x.tun.up.b, .bool x.tun.up.e, .bool x.tun.up.k, .int .i64 x.tun.dn.r, .string x.tun.dn.b, .bool x.tun.dn.e, .bool x.tun.dn.k, .int .i64 x.tun.went, .int .i64 x.tun.came, .bool x.ended] 89)).heap.size = w.heap.size + 1 := by simp
  have hs2 : ((w.alloc (.cells #[.int .i64 x.id, .int .i64 x.get, .int .i64 x.give, .slice aa x.fds.length pa, .int .i64 x.tun.up.r, .string x.tun.up.b, .bool x.tun.up.e, .bool x.tun.up.k, .int .i64 x.tun.dn.r, .string x.tun.dn.b, .bool x.tun.dn.e, .bool x.tun.dn.k, .int .i64 x.tun.went, .int .i64 x.tun.came, .bool x.ended] 89)).alloc (.cells #[.int .i64 0, .int .i64 0, .int .i64 0, .slice none 0 0, .int .i64 0, .string ⟨#[]⟩, .bool false, .bool false, .int .i64 0, .string ⟨#[]⟩, .bool false, .bool false, .int .i64 0, .int .i64 0, .bool false] 89)).heap.size = w.heap.size + 2 := by simp
  rw [hsz] at RZ
  obtain ⟨V, hV⟩ : ∃ V, (w.alloc (.cells #[.int .i64 x.id, .int .i64 x.get, .int .i64 x.give, .slice aa x.fds.length pa, .int .i64 x.tun.up.r, .string x.tun.up.b, .bool x.tun.up.e, .bool x.tun.up.k, .int .i64 x.tun.dn.r, .string x.tun.dn.b, .bool x.tun.dn.e, .bool x.tun.dn.k, .int .i64 x.tun.went, .int .i64 x.tun.came, .bool x.ended] 89)).alloc (.cells #[.int .i64 0, .int .i64 0, .int .i64 0, .slice none 0 0, .int .i64 0, .string ⟨#[]⟩, .bool false, .bool false, .int .i64 0, .string ⟨#[]⟩, .bool false, .bool false, .int .i64 0, .int .i64 0, .bool false] 89) = V := ⟨_, rfl⟩
  rw [hV] at hbA RA RZ hs2
  have HB := hide hbA; have HZ := hide RZ
  have HS2 : Hid (w.heap.size + 2 ≤ V.heap.size) := by show _ ≤ _; omega
  clear hsz hs2 hbA RZ
  go_enter Tryz.func125, Tryz.ntmps125
  go_upto_region 1 with fail
  try rw [hV]
  clear hV
  have x3 := RowIs.cell (j := 3) RA rfl
  go_wp2_with fail
  refine (implCloneField _ x.fds.length (fv x.fds) _ (rd_fv (HV.out.new HB.out)) (fv_one _) (by omega)).mono ?_; rintro e w1 ⟨vb, rfl, ho, hb⟩
  obtain ⟨ab, pb, rfl, p1, p2⟩ := owns_form ho
  have RB := RA.new hb
  have hzb := HZ.out.new hb
  have HBB := hide (bchain HB.out hb)
  have HS3 : Hid (w.heap.size + 2 ≤ w1.heap.size) := Nat.le_trans HS2.out hb.size
  have HO := hide (owns_base (base' := w.heap.size + 2) ho (fun q hq => Nat.le_trans HS2.out (owns_lt ho q hq).1))
  clear x3 RA HZ HB hb ho
  have x3 := RowIs.cell (j := 3) RB rfl
  have xf := RowIs.frozen RB 3
  have xl := RB.lt
  go_upto_region 2 with fail
  have HR2 := hide (RB.set 3 (.slice ab x.fds.length pb))
  have HZ2 := hide (hzb.far ⟨w.heap.size, 3, none⟩ (.slice ab x.fds.length pb) (by simp))
  have HO2 := hide (owns_apart HO.out ⟨w.heap.size, 3, none⟩ (.slice ab x.fds.length pb) (fun e => by have := (owns_lt HO.out _ e).1; dsimp only at this; omega))
  have HB2 := hide (HBB.out.setCell (p := ⟨w.heap.size, 3, none⟩) (Nat.le_refl _) (.slice ab x.fds.length pb))
  have HS4 : Hid (w.heap.size + 2 ≤ (w1.setCell ⟨w.heap.size, 3, none⟩ (.slice ab x.fds.length pb)).heap.size) := by show _ ≤ _; simpa using HS3.out
  clear x3 xf xl RB hzb HO HBB HS3 HS2
  generalize w1.setCell ⟨w.heap.size, 3, none⟩ (.slice ab x.fds.length pb) = w2 at *
  replace HR2 : Hid (RowIs w2 w.heap.size 89 [.int .i64 x.id, .int .i64 x.get, .int .i64 x.give, .slice ab x.fds.length pb, .int .i64 x.tun.up.r, .string x.tun.up.b, .bool x.tun.up.e, .bool x.tun.up.k, .int .i64 x.tun.dn.r, .string x.tun.dn.b, .bool x.tun.dn.e, .bool x.tun.dn.k, .int .i64 x.tun.went, .int .i64 x.tun.came, .bool x.ended]) := HR2.out
  have x3 := RowIs.cell (j := 3) HR2.out rfl
  go_wp2_with fail
  clear x3
  go_loopw [11] (fun i wr => ∃ k : Nat, i = .int .i64 k ∧ k ≤ x.fds.length ∧ Hid (RowIs wr w.heap.size 89 [.int .i64 x.id, .int .i64 x.get, .int .i64 x.give, .slice ab x.fds.length pb, .int .i64 x.tun.up.r, .string x.tun.up.b, .bool x.tun.up.e, .bool x.tun.up.k, .int .i64 x.tun.dn.r, .string x.tun.dn.b, .bool x.tun.dn.e, .bool x.tun.dn.k, .int .i64 x.tun.went, .int .i64 x.tun.came, .bool x.ended]) ∧ Hid (RowIs wr (w.heap.size + 1) 89 [.int .i64 0, .int .i64 0, .int .i64 0, .slice none 0 0, .int .i64 0, .string ⟨#[]⟩, .bool false, .bool false, .int .i64 0, .string ⟨#[]⟩, .bool false, .bool false, .int .i64 0, .int .i64 0, .bool false]) ∧ Hid (wr.ownsRow (w.heap.size + 2) 146 2 (.slice ab x.fds.length pb) x.fds.length (fv x.fds)) ∧ Hid (Below w.heap.size w wr)) (fun i _ => x.fds.length - (intOf i).toNat)
  case atStart => exact ⟨0, rfl, Nat.zero_le _, HR2, HZ2, HO2, HB2⟩
  case round =>
    clear HR2 HZ2 HO2 HB2 HS4
    obtain ⟨k, rfl, hk, HR, HZ, HO, HB⟩ := hrel
    by_cases hlt : k < x.fds.length
    rotate_left
    · have hkn : k = x.fds.length := by omega
      have hltI : ¬ (k : Int) < x.fds.length := by omega
      have hp : MidIs wr w.heap.size 89 [.int .i64 x.id, .int .i64 x.get, .int .i64 x.give, .slice ab x.fds.length pb] [.bool x.ended] 4 (tucs x.tun) := ⟨HR.out, rfl⟩
      have HP := hide hp
      clear hp hkn
      go_wp2_with (refine wpList_load_mid (by rfl) 87 _ (by rfl) w.heap.size 4 (by rfl) (tucs x.tun) _ (fun j u hu => HP.out.cell hu) Tryz.underlying87 rfl (by kernel_rfl) ?_)
      refine (lanes16 x.tun _).mono ?_; rintro e w3 ⟨rfl, hb3⟩
      replace HP := hide (HP.out.new hb3)
      replace HZ := hide (HZ.out.new hb3)
      replace HO := hide (owns_new HO.out hb3)
      replace HB := hide (bchain HB.out hb3)
      clear hb3 HR
      go_wp2_with fail
      refine (lanesTunnel16 x.tun _ (by omega) (by omega)).mono ?_; rintro e w4 ⟨rfl, hb4⟩
      replace HP := hide (HP.out.new hb4)
      replace HZ := hide (HZ.out.new hb4)
      replace HO := hide (owns_new HO.out hb4)
      replace HB := hide (bchain HB.out hb4)
      clear hb4
      go_upto_region 8 with (refine wpList_store_mid (by rfl) 87 _ _ (by rfl) w.heap.size 4 (tucs x.tun) (by rfl) (by rfl) 89 _ _ _ HP.out (by kernel_rfl) rfl (by intro u hu; simp at hu; rcases hu with rfl | rfl | rfl | rfl | rfl | rfl | rfl | rfl | rfl | rfl <;> rfl) ?_; intro w5 hm5 ht5)
      have HR5 : Hid (RowIs w5 w.heap.size 89 [.int .i64 x.id, .int .i64 x.get, .int .i64 x.give, .slice ab x.fds.length pb, .int .i64 x.tun.up.r, .string x.tun.up.b, .bool x.tun.up.e, .bool x.tun.up.k, .int .i64 x.tun.dn.r, .string x.tun.dn.b, .bool x.tun.dn.e, .bool x.tun.dn.k, .int .i64 x.tun.went, .int .i64 x.tun.came, .bool x.ended]) := hm5.row
      have HZ5 := hide (HZ.out.kept (ht5.block _ HZ.out.lt (by simp)))
      have HO5 := hide (owns_kept HO.out (fun q hq hl => ht5.block q hl (by have := (owns_lt HO.out q hq).1; simp; omega)))
      have HB5 : Hid (Below w.heap.size w w5) := ⟨ht5.os.trans HB.out.os, ht5.tape.trans HB.out.tape, ht5.output.trans HB.out.output, Nat.le_trans HB.out.size ht5.size, fun q hq => (ht5.block q (Nat.lt_of_lt_of_le hq HB.out.size) (by simp; omega)).trans (HB.out.block q hq)⟩
      clear hm5 ht5 HP HZ HO HB
      have HZ6 := hide (rowIs_setRow (cs' := [.int .i64 x.id, .int .i64 x.get, .int .i64 x.give, .slice ab x.fds.length pb, .int .i64 x.tun.up.r, .string x.tun.up.b, .bool x.tun.up.e, .bool x.tun.up.k, .int .i64 x.tun.dn.r, .string x.tun.dn.b, .bool x.tun.dn.e, .bool x.tun.dn.k, .int .i64 x.tun.went, .int .i64 x.tun.came, .bool x.ended]) HZ5.out)
      have HB6 := hide (below_setRow HB5.out (show w.heap.size ≤ w.heap.size + 1 by omega) #[.int .i64 x.id, .int .i64 x.get, .int .i64 x.give, .slice ab x.fds.length pb, .int .i64 x.tun.up.r, .string x.tun.up.b, .bool x.tun.up.e, .bool x.tun.up.k, .int .i64 x.tun.dn.r, .string x.tun.dn.b, .bool x.tun.dn.e, .bool x.tun.dn.k, .int .i64 x.tun.went, .int .i64 x.tun.came, .bool x.ended])
      have HO6 := hide (owns_kept HO5.out (w' := w5.setRow (w.heap.size + 1) #[.int .i64 x.id, .int .i64 x.get, .int .i64 x.give, .slice ab x.fds.length pb, .int .i64 x.tun.up.r, .string x.tun.up.b, .bool x.tun.up.e, .bool x.tun.up.k, .int .i64 x.tun.dn.r, .string x.tun.dn.b, .bool x.tun.dn.e, .bool x.tun.dn.k, .int .i64 x.tun.went, .int .i64 x.tun.came, .bool x.ended]) (fun q hq hl => setRow_other _ _ _ _ (by have := (owns_lt HO5.out q hq).1; omega)))
      go_wp2_with (first | (refine wpList_load_row (by rfl) 89 _ (by rfl) w.heap.size (by rfl) [.int .i64 x.id, .int .i64 x.get, .int .i64 x.give, .slice ab x.fds.length pb, .int .i64 x.tun.up.r, .string x.tun.up.b, .bool x.tun.up.e, .bool x.tun.up.k, .int .i64 x.tun.dn.r, .string x.tun.dn.b, .bool x.tun.dn.e, .bool x.tun.dn.k, .int .i64 x.tun.went, .int .i64 x.tun.came, .bool x.ended] _ 89 HR5.out Tryz.underlying89 rfl (by kernel_rfl) ?_) | (refine wpList_store_row (by rfl) 89 _ _ (by rfl) (w.heap.size + 1) [.int .i64 x.id, .int .i64 x.get, .int .i64 x.give, .slice ab x.fds.length pb, .int .i64 x.tun.up.r, .string x.tun.up.b, .bool x.tun.up.e, .bool x.tun.up.k, .int .i64 x.tun.dn.r, .string x.tun.dn.b, .bool x.tun.dn.e, .bool x.tun.dn.k, .int .i64 x.tun.went, .int .i64 x.tun.came, .bool x.ended] (by rfl) (by rfl) 89 [.int .i64 0, .int .i64 0, .int .i64 0, .slice none 0 0, .int .i64 0, .string ⟨#[]⟩, .bool false, .bool false, .int .i64 0, .string ⟨#[]⟩, .bool false, .bool false, .int .i64 0, .int .i64 0, .bool false] HZ5.out (by kernel_rfl) rfl (by intro u hu; simp at hu; rcases hu with rfl | rfl | rfl | rfl | rfl | rfl | rfl | rfl | rfl | rfl | rfl | rfl | rfl | rfl | rfl <;> rfl) ?_))
      generalize w5.setRow (w.heap.size + 1) #[.int .i64 x.id, .int .i64 x.get, .int .i64 x.give, .slice ab x.fds.length pb, .int .i64 x.tun.up.r, .string x.tun.up.b, .bool x.tun.up.e, .bool x.tun.up.k, .int .i64 x.tun.dn.r, .string x.tun.dn.b, .bool x.tun.dn.e, .bool x.tun.dn.k, .int .i64 x.tun.went, .int .i64 x.tun.came, .bool x.ended] = w6 at *
      have z0 := RowIs.cell (j := 0) HZ6.out rfl
      have z1 := RowIs.cell (j := 1) HZ6.out rfl
      have z2 := RowIs.cell (j := 2) HZ6.out rfl
      have z3 := RowIs.cell (j := 3) HZ6.out rfl
      have z4 := RowIs.cell (j := 4) HZ6.out rfl
      have z5 := RowIs.cell (j := 5) HZ6.out rfl
      have z6 := RowIs.cell (j := 6) HZ6.out rfl
      have z7 := RowIs.cell (j := 7) HZ6.out rfl
      have z8 := RowIs.cell (j := 8) HZ6.out rfl
      have z9 := RowIs.cell (j := 9) HZ6.out rfl
      have z10 := RowIs.cell (j := 10) HZ6.out rfl
      have z11 := RowIs.cell (j := 11) HZ6.out rfl
      have z12 := RowIs.cell (j := 12) HZ6.out rfl
      have z13 := RowIs.cell (j := 13) HZ6.out rfl
      have z14 := RowIs.cell (j := 14) HZ6.out rfl
      have zf := fun j => RowIs.frozen HZ6.out j
      refine bodyPost_ret (v := .agg #[.int .i64 x.id, .int .i64 x.get, .int .i64 x.give, .slice ab x.fds.length pb, .int .i64 x.tun.up.r, .string x.tun.up.b, .bool x.tun.up.e, .bool x.tun.up.k, .int .i64 x.tun.dn.r, .string x.tun.dn.b, .bool x.tun.dn.e, .bool x.tun.dn.k, .int .i64 x.tun.went, .int .i64 x.tun.came, .bool x.ended]) (by simp [results, Tryz.results125, go_sem, *]) rfl ?_
      exact ⟨_, rfl, owns_base HO6.out (fun q hq => by have := (owns_lt HO6.out q hq).1; omega), HB6.out⟩
    · have hltI : (k : Int) < x.fds.length := by omega
      obtain ⟨gc, cap2, hvc, hob, hlo, hgcl, _, _, _⟩ := owns_open HO.out (by omega)
      simp only [Value.slice.injEq, true_and] at hvc
      obtain ⟨rfl, rfl⟩ := hvc
      obtain ⟨s0, s1⟩ := fv_get x.fds k hlt
      have hfl2 : (fv x.fds).length = x.fds.length * 2 := fv_len _
      have c0 : wr.cell? ⟨gc, k * 2, none⟩ = some (.string x.fds[k].n) := by rw [HO.out.cellAt _ (by omega)]; exact s0
      have c1 : wr.cell? ⟨gc, k * 2 + 1, none⟩ = some (.string x.fds[k].v) := by rw [HO.out.cellAt _ (by omega)]; exact s1
      have HSAME := hide (fv_same x.fds k hlt)
      have hokk := HALL.out _ (List.getElem_mem hlt)
      obtain ⟨y, hy⟩ : ∃ y, x.fds[k] = y := ⟨_, rfl⟩
      rw [hy] at c0 c1 HSAME hokk s0 s1
      have HFG := hide (And.intro s0 s1)
      clear s0 s1 hy hfl2
      go_upto_region 5 with fail
      have hD : Below wr.heap.size wr (World.drew wr) := (Below.refl _ _).drew
      have HSS : Hid (RowIs (World.drew wr) w.heap.size 89 [.int .i64 x.id, .int .i64 x.get, .int .i64 x.give, .slice (some ⟨gc, 0, none⟩) x.fds.length pb, .int .i64 x.tun.up.r, .string x.tun.up.b, .bool x.tun.up.e, .bool x.tun.up.k, .int .i64 x.tun.dn.r, .string x.tun.dn.b, .bool x.tun.dn.e, .bool x.tun.dn.k, .int .i64 x.tun.went, .int .i64 x.tun.came, .bool x.ended] ∧ (World.drew wr).cell? ⟨gc, k * 2, none⟩ = some (.string y.n) ∧ (World.drew wr).cell? ⟨gc, k * 2 + 1, none⟩ = some (.string y.v)) := ⟨HR.out.new hD, (hD.cell (p := ⟨gc, k * 2, none⟩) hgcl).trans c0, (hD.cell (p := ⟨gc, k * 2 + 1, none⟩) hgcl).trans c1⟩
      replace HZ := hide (HZ.out.new hD)
      replace HO := hide (owns_new HO.out hD)
      replace HB := hide (bchain HB.out hD)
      have hgc2 := Nat.lt_of_lt_of_le hgcl hD.size
      clear hD c0 c1 hgcl HR
      refine wp_region_held_drew (S := fun u => RowIs u w.heap.size 89 [.int .i64 x.id, .int .i64 x.get, .int .i64 x.give, .slice (some ⟨gc, 0, none⟩) x.fds.length pb, .int .i64 x.tun.up.r, .string x.tun.up.b, .bool x.tun.up.e, .bool x.tun.up.k, .int .i64 x.tun.dn.r, .string x.tun.dn.b, .bool x.tun.dn.e, .bool x.tun.dn.k, .int .i64 x.tun.went, .int .i64 x.tun.came, .bool x.ended] ∧ u.cell? ⟨gc, k * 2, none⟩ = some (.string y.n) ∧ u.cell? ⟨gc, k * 2 + 1, none⟩ = some (.string y.v)) (by kernel_rfl) HSS.out (fun hS => ?_)
      generalize World.drew wr = u1 at *
      refine wpAnyH_take (i := 0) (v := ?_) rfl (by kernel_rfl) (by kernel_rfl) (by kernel_rfl) (fun _ _ _ h => h) (Or.inl ⟨by rfl, ?_⟩) hS ?_; rotate_left; focus (intro w hw; clear hw; go_simp; try with_reducible rfl)
      refine wpAnyH_take (i := 1) (v := .slice (some ⟨gc, 0, none⟩) x.fds.length pb) rfl (by kernel_rfl) (by kernel_rfl) (by kernel_rfl) (fun _ _ _ h => h) (Or.inl ⟨by kernel_rfl, ?ld⟩) hS ?_; case ld => (intro uu hu; have z2 := RowIs.cell (j := 3) hu.1 rfl; have z8 := hu.1.lt; clear hu; go_simp)
      refine wpAnyH_take (i := 2) (v := ?_) rfl (by kernel_rfl) (by kernel_rfl) (by kernel_rfl) (fun _ _ _ h => h) (Or.inl ⟨by rfl, ?_⟩) hS ?_; rotate_left; focus (intro w hw; clear hw; go_simp; try with_reducible rfl)
      refine wpAnyH_take (i := 3) (v := ?_) rfl (by kernel_rfl) (by kernel_rfl) (by kernel_rfl) (fun _ _ _ h => h) (Or.inl ⟨by rfl, ?_⟩) hS ?_; rotate_left; focus (intro w hw; clear hw; go_simp; try with_reducible rfl)
      refine wpAnyH_take (i := 4) (v := .slice (some ⟨gc, 0, none⟩) x.fds.length pb) rfl (by kernel_rfl) (by kernel_rfl) (by kernel_rfl) (fun _ _ _ h => h) (Or.inl ⟨by kernel_rfl, ?ld⟩) hS ?_; case ld => (intro uu hu; have z2 := RowIs.cell (j := 3) hu.1 rfl; have z8 := hu.1.lt; clear hu; go_simp)
      refine wpAnyH_take (i := 5) (v := ?_) rfl (by kernel_rfl) (by kernel_rfl) (by kernel_rfl) (fun _ _ _ h => h) (Or.inl ⟨by rfl, ?_⟩) hS ?_; rotate_left; focus (intro w hw; clear hw; go_simp; try with_reducible rfl)
      refine wpAnyH_take (i := 6) (v := ?_) rfl (by kernel_rfl) (by kernel_rfl) (by kernel_rfl) (fun _ _ _ h => h) (Or.inl ⟨by rfl, ?_⟩) hS ?_; rotate_left; focus (intro w hw; clear hw; go_simp; try with_reducible rfl)
      refine wpAnyH_take (i := 7) (v := .agg #[.string y.n, .string y.v]) rfl (by kernel_rfl) (by kernel_rfl) (by kernel_rfl) (fun _ _ _ h => h) (Or.inl ⟨by kernel_rfl, ?ld⟩) hS ?_; case ld => (intro uu hu; obtain ⟨_, z2, z3⟩ := hu; go_simp)
      refine wpAnyH_ready (rs := [8]) (by kernel_rfl) (by simp) ?_; refine AllReadyH.cons rfl (fun K hK => ?_) AllReadyH.nil; go_simp
      refine (apart1 y _ hokk).mono ?_; rintro e u2 ⟨rfl, hb2⟩
      have HS2 : Hid (RowIs u2 w.heap.size 89 [.int .i64 x.id, .int .i64 x.get, .int .i64 x.give, .slice (some ⟨gc, 0, none⟩) x.fds.length pb, .int .i64 x.tun.up.r, .string x.tun.up.b, .bool x.tun.up.e, .bool x.tun.up.k, .int .i64 x.tun.dn.r, .string x.tun.dn.b, .bool x.tun.dn.e, .bool x.tun.dn.k, .int .i64 x.tun.went, .int .i64 x.tun.came, .bool x.ended] ∧ u2.cell? ⟨gc, k * 2, none⟩ = some (.string y.n) ∧ u2.cell? ⟨gc, k * 2 + 1, none⟩ = some (.string y.v)) := ⟨HSS.out.1.new hb2, (hb2.cell (p := ⟨gc, k * 2, none⟩) hgc2).trans HSS.out.2.1, (hb2.cell (p := ⟨gc, k * 2 + 1, none⟩) hgc2).trans HSS.out.2.2⟩
      replace HZ := hide (HZ.out.new hb2)
      replace HO := hide (owns_new HO.out hb2)
      replace HB := hide (bchain HB.out hb2)
      refine hK.out _ _ HS2.out (fun hS => ?_)
      clear hK K hb2 HSS
      try simp only [Act.put, List.getElem_toArray, List.getElem_cons_succ, List.getElem_cons_zero, List.setIfInBounds_toArray, List.set_cons_zero, List.set_cons_succ]
      refine wpAnyH_take (i := 9) (v := ?_) rfl (by kernel_rfl) (by kernel_rfl) (by kernel_rfl) (fun _ _ _ h => h) (Or.inl ⟨by rfl, ?_⟩) hS ?_; rotate_left; focus (intro w hw; clear hw; go_simp; try with_reducible rfl)
      have z2 := HS2.out.2.1
      have z3 := HS2.out.2.2
      have zf := fun j => HO.out.frozenAt j
      have zl := (owns_lt HO.out gc rfl).2
      have hne : gc ≠ w.heap.size := by omega
      have hne1 : gc ≠ w.heap.size + 1 := by omega
      have hge : w.heap.size ≤ gc := by omega
      refine wpAnyH_ready (rs := [10]) (by kernel_rfl) (by simp) ?_; refine AllReadyH.cons rfl (fun K hK => ?_) AllReadyH.nil; go_simp
      have ho3 := owns_set (owns_set HO.out (g := gc) rfl (k * 2) (.string y.n)) (g := gc) rfl (k * 2 + 1) (.string y.v)
      rw [HSAME.out] at ho3
      have HO3 := hide ho3
      have hr3 := (HS2.out.1.far ⟨gc, k * 2, none⟩ (.string y.n) hne).far ⟨gc, k * 2 + 1, none⟩ (.string y.v) hne
      have HZ3 := hide ((HZ.out.far ⟨gc, k * 2, none⟩ (.string y.n) hne1).far ⟨gc, k * 2 + 1, none⟩ (.string y.v) hne1)
      have HB3 := hide ((HB.out.setCell (p := ⟨gc, k * 2, none⟩) hge (.string y.n)).setCell (p := ⟨gc, k * 2 + 1, none⟩) hge (.string y.v))
      have HR3 := hide hr3
      have hfl2 : (fv x.fds).length = x.fds.length * 2 := fv_len _
      refine hK.out _ _ ⟨hr3, by rw [HO3.out.cellAt _ (by omega)]; exact HFG.out.1, by rw [HO3.out.cellAt _ (by omega)]; exact HFG.out.2⟩ (fun hS => ?_)
      clear hK K ho3 hr3 z2 z3 zf zl HS2
      try simp only [Act.put, List.getElem_toArray, List.getElem_cons_succ, List.getElem_cons_zero, List.setIfInBounds_toArray, List.set_cons_zero, List.set_cons_succ]
      refine wpAnyH_done (by kernel_rfl) ?_ _
      go_wp2_with fail
      go_roundw
      case rel => exact ⟨k + 1, by go_num, by omega, HR3, HZ3, HO3, HB3⟩
      case measure => simp [intOf]; omega
end Go.Proofs.YtllaeakeaabiaaaGreat
/- The program's link in a block: a Conn in memory of its own, and what is told beside it; what a step leaves. -/
namespace Go.Proofs.YtllaeakeaabiaaaGreat
open Go.RowKit
set_option maxRecDepth 100000
set_option linter.unusedSimpArgs false
set_option linter.unusedVariables false
abbrev lkcs (d : CnD) (ve vi vo vf tv : Value) : List Value := [.int .i64 d.reg.lim, .int .i64 d.reg.top, ve, .int .i64 d.inr, vi, .int .i64 d.outr, vo, .int .i64 d.get, .int .i64 d.give, .int .i64 d.first, vf, .bool d.away, .bool d.dead, tv]
/-- A link in block g: its lists lie among the blocks bs, all of them from lo on. -/
structure LkM (w : World) (lo g : Nat) (d : CnD) (L : List Fr) (bs : List Nat) : Prop where
  ex : ∃ ve vi vo vf tv cb, RowIs w g 69 (lkcs d ve vi vo vf tv) ∧ CnOw w cb d ve vi vo vf ∧ w.ownsRow lo 48 4 tv L.length (fr L) ∧ (∀ x ∈ cb, x ∈ bs) ∧ ∀ q, tv.ownBlock = some q → q ∈ bs ∧ q ∉ cb
  lt : ∀ b ∈ g :: bs, b < w.heap.size
  low : ∀ b ∈ bs, lo ≤ b
  ng : g ∉ bs
  base : lo ≤ w.heap.size
/-- Where a step stands: the link, what has turned, which blocks are new. -/
structure Lnk (lo g : Nat) (w : World) (bs : List Nat) (W : World) (d : CnD) (L : List Fr) (bx : List Nat) : Prop where
  m : LkM W lo g d L bx
  t : TurnB (g :: bs) w W
  n : NewB w bs bx
theorem nodup4a {a a' b c e : List Nat} (h : (a ++ b ++ c ++ e).Nodup) (hn : a'.Nodup) (hd : ∀ q ∈ a', q ∉ a ++ b ++ c ++ e) : (a' ++ b ++ c ++ e).Nodup := by
  simp only [List.append_assoc] at h hd ⊢
  exact nodup_mk hn (nodup_right h) fun x hx hx2 => hd x hx (List.mem_append_right _ hx2)
theorem nodup4b {a b b' c e : List Nat} (h : (a ++ b ++ c ++ e).Nodup) (hn : b'.Nodup) (hd : ∀ q ∈ b', q ∉ a ++ b ++ c ++ e) : (a ++ b' ++ c ++ e).Nodup := by
  simp only [List.append_assoc] at h hd ⊢
  refine nodup_mk (nodup_left h) (nodup_mk hn (nodup_right (nodup_right h)) fun x hx hx2 => hd x hx (by simp only [List.mem_append] at hx2 ⊢; rcases hx2 with e | e <;> simp [e])) fun x hx hx2 => ?_
  rcases List.mem_append.1 hx2 with e | e
  · exact hd x e (List.mem_append_left _ hx)
  · exact nodup_apart h x hx (List.mem_append_right _ e)
theorem nodup4c {a b c c' e : List Nat} (h : (a ++ b ++ c ++ e).Nodup) (hn : c'.Nodup) (hd : ∀ q ∈ c', q ∉ a ++ b ++ c ++ e) : (a ++ b ++ c' ++ e).Nodup := by
  rw [List.append_assoc (a ++ b)] at h ⊢
  refine nodup_mk (nodup_left h) (nodup_mk hn (nodup_right (nodup_right h)) fun x hx hx2 => hd x hx (by simp [hx2])) fun x hx hx2 => ?_
  rcases List.mem_append.1 hx2 with q | q
  · exact hd x q (List.mem_append_left _ (List.mem_append_left _ hx))
  · exact nodup_apart h x hx (List.mem_append_right _ q)
theorem nodup4d {a b c e e' : List Nat} (h : (a ++ b ++ c ++ e).Nodup) (hn : e'.Nodup) (hd : ∀ q ∈ e', q ∉ a ++ b ++ c) : (a ++ b ++ c ++ e').Nodup :=
  nodup_mk (nodup_left h) hn fun x hx hx2 => hd x hx2 hx
section
variable {w w' : World} {cb : List Nat} {d : CnD} {ve vi vo vf : Value}
theorem CnOw.setE (h : CnOw w cb d ve vi vo vf) (r : RegistryD) (v : Value) (vb : List Nat) (ho : OwR entryS w v r.es vb) (hn : vb.Nodup) (hf : ∀ q ∈ vb, q ∉ cb) : ∃ cb', CnOw w cb' { d with reg := r } v vi vo vf ∧ ∀ b ∈ cb', b ∈ cb ∨ b ∈ vb := by
  obtain ⟨⟨be, bi, bo, bf, h1, h2, h3, h4, rfl⟩, hnd⟩ := h
  exact ⟨vb ++ bi ++ bo ++ bf, ⟨⟨vb, bi, bo, bf, ho, h2, h3, h4, rfl⟩, nodup4a hnd hn hf⟩, fun b hb => by simp only [List.mem_append] at hb ⊢; rcases hb with ((e | e) | e) | e <;> simp [e]⟩
theorem CnOw.setI (h : CnOw w cb d ve vi vo vf) (r : Int) (T : List Fd) (v : Value) (vb : List Nat) (ho : OwR fieldS w v T vb) (hn : vb.Nodup) (hf : ∀ q ∈ vb, q ∉ cb) : ∃ cb', CnOw w cb' { d with inr := r, inT := T } ve v vo vf ∧ ∀ b ∈ cb', b ∈ cb ∨ b ∈ vb := by
  obtain ⟨⟨be, bi, bo, bf, h1, h2, h3, h4, rfl⟩, hnd⟩ := h
  exact ⟨be ++ vb ++ bo ++ bf, ⟨⟨be, vb, bo, bf, h1, ho, h3, h4, rfl⟩, nodup4b hnd hn hf⟩, fun b hb => by simp only [List.mem_append] at hb ⊢; rcases hb with ((e | e) | e) | e <;> simp [e]⟩
theorem CnOw.setO (h : CnOw w cb d ve vi vo vf) (r : Int) (T : List Fd) (v : Value) (vb : List Nat) (ho : OwR fieldS w v T vb) (hn : vb.Nodup) (hf : ∀ q ∈ vb, q ∉ cb) : ∃ cb', CnOw w cb' { d with outr := r, outT := T } ve vi v vf ∧ ∀ b ∈ cb', b ∈ cb ∨ b ∈ vb := by
  obtain ⟨⟨be, bi, bo, bf, h1, h2, h3, h4, rfl⟩, hnd⟩ := h
  exact ⟨be ++ bi ++ vb ++ bf, ⟨⟨be, bi, vb, bf, h1, h2, ho, h4, rfl⟩, nodup4c hnd hn hf⟩, fun b hb => by simp only [List.mem_append] at hb ⊢; rcases hb with ((e | e) | e) | e <;> simp [e]⟩
end
section
variable {w w' W W' : World} {lo g : Nat} {d d' : CnD} {L L' : List Fr} {bs bx by_ : List Nat}
theorem LkM.new (h : LkM w lo g d L bs) (hb : Below w.heap.size w w') : LkM w' lo g d L bs := by
  obtain ⟨⟨ve, vi, vo, vf, tv, cb, h1, h2, h3, h4, h5⟩, hl, hlo, hn, hbs⟩ := h
  exact ⟨⟨ve, vi, vo, vf, tv, cb, h1.new hb, h2.new hb, owns_new h3 hb, h4, h5⟩, fun b hb' => Nat.lt_of_lt_of_le (hl b hb') hb.size, hlo, hn, Nat.le_trans hbs hb.size⟩
theorem LkM.glt (h : LkM w lo g d L bs) : g < w.heap.size := h.lt g (by simp)
theorem Lnk.start (h : LkM w lo g d L bs) : Lnk lo g w bs w d L bs := ⟨h, TurnB.refl _ _, NewB.refl _ _⟩
theorem Lnk.new (h : Lnk lo g w bs W d L bx) (hb : Below W.heap.size W W') : Lnk lo g w bs W' d L bx := ⟨h.m.new hb, h.t.trans (TurnB.new hb), h.n⟩
theorem Lnk.step (h : Lnk lo g w bs W d L bx) (k : Lnk lo g W bx W' d' L' by_) : Lnk lo g w bs W' d' L' by_ := ⟨k.m, h.t.then h.n k.t, h.n.trans k.n h.t.size⟩
theorem Lnk.after (hb : Below w.heap.size w W) (h : Lnk lo g W bs W' d L bx) : Lnk lo g w bs W' d L bx := ⟨h.m, (TurnB.new hb).trans h.t, fun b hb' => (h.n b hb').imp id (Nat.le_trans hb.size)⟩
/-- A box that was there ahead of the steps, apart from the link. -/
theorem Lnk.box {q : Nat} {ty : TypeId} {cs : List Value} (h : Lnk lo g w bs W d L bx) (hr : RowIs w q ty cs) (hn : q ∉ g :: bs) : RowIs W q ty cs := hr.kept (h.t.block q hr.lt hn)
theorem LkM.far {q : Nat} (h : LkM w lo g d L bs) (hq : w.heap.size ≤ q) : q ∉ g :: bs := fun hx => by have := h.lt q hx; omega
/-- One cell of the link set. -/
theorem LkM.set (h : LkM w lo g d L bs) (j : Nat) (v : Value) (d' : CnD) (hd : ∀ ve vi vo vf tv, (lkcs d ve vi vo vf tv).set j v = lkcs d' ve vi vo vf tv) (hc : ∀ u cb ve vi vo vf, CnOw u cb d ve vi vo vf → CnOw u cb d' ve vi vo vf) :
    Lnk lo g w bs (w.setCell ⟨g, j, none⟩ v) d' L bs := by
  obtain ⟨⟨ve, vi, vo, vf, tv, cb, h1, h2, h3, h4, h5⟩, hl, hlo, hn, hbs⟩ := h
  have hk : ∀ b ∈ bs, (w.setCell ⟨g, j, none⟩ v).heap[b]? = w.heap[b]? := CnM.keepSet hn rfl v
  have hr := h1.set j v
  rw [hd] at hr
  exact ⟨⟨⟨ve, vi, vo, vf, tv, cb, hr, hc _ _ _ _ _ _ (h2.keep (by simp) (fun b hb => hk b (h4 b hb))), owns_kept h3 (fun q hq _ => hk q (h5 q hq).1), h4, h5⟩, fun b hb => by have := hl b hb; simpa using this, hlo, hn, by simpa using hbs⟩, (TurnB.refl _ _).set _ _ (by simp), NewB.refl _ _⟩
theorem LkM.setGet (h : LkM w lo g d L bs) (n : Int) : Lnk lo g w bs (w.setCell ⟨g, 7, none⟩ (.int .i64 n)) { d with get := n } L bs := h.set 7 _ _ (fun _ _ _ _ _ => rfl) (fun _ _ _ _ _ _ h => ⟨h.1, h.2⟩)
theorem LkM.setGive (h : LkM w lo g d L bs) (n : Int) : Lnk lo g w bs (w.setCell ⟨g, 8, none⟩ (.int .i64 n)) { d with give := n } L bs := h.set 8 _ _ (fun _ _ _ _ _ => rfl) (fun _ _ _ _ _ _ h => ⟨h.1, h.2⟩)
theorem LkM.setFirst (h : LkM w lo g d L bs) (n : Int) : Lnk lo g w bs (w.setCell ⟨g, 9, none⟩ (.int .i64 n)) { d with first := n } L bs := h.set 9 _ _ (fun _ _ _ _ _ => rfl) (fun _ _ _ _ _ _ h => ⟨h.1, h.2⟩)
theorem LkM.setAway (h : LkM w lo g d L bs) : Lnk lo g w bs (w.setCell ⟨g, 11, none⟩ (.bool true)) { d with away := true } L bs := h.set 11 _ _ (fun _ _ _ _ _ => rfl) (fun _ _ _ _ _ _ h => ⟨h.1, h.2⟩)
theorem LkM.setDead (h : LkM w lo g d L bs) : Lnk lo g w bs (w.setCell ⟨g, 12, none⟩ (.bool true)) { d with dead := true } L bs := h.set 12 _ _ (fun _ _ _ _ _ => rfl) (fun _ _ _ _ _ _ h => ⟨h.1, h.2⟩)
/-- Some cells of the link set, with another list in them, which a call made since u. -/
theorem LkM.swap {u : World} (h : LkM u lo g d L bs) (hb : Below u.heap.size u w) (W : World) (d' : CnD) (vb : List Nat) (hsz : W.heap.size = w.heap.size) (hos : W.os = w.os) (htp : W.tape = w.tape) (hou : W.output = w.output) (hk : ∀ b, b ≠ g → W.heap[b]? = w.heap[b]?)
    (hvb : ∀ q ∈ vb, u.heap.size ≤ q ∧ q < w.heap.size)
    (hc : ∀ ve vi vo vf tv cb, RowIs w g 69 (lkcs d ve vi vo vf tv) → CnOw w cb d ve vi vo vf → (∀ q ∈ vb, q ∉ cb) → ∃ ve' vi' vo' vf' cb', RowIs W g 69 (lkcs d' ve' vi' vo' vf' tv) ∧ CnOw w cb' d' ve' vi' vo' vf' ∧ ∀ b ∈ cb', b ∈ cb ∨ b ∈ vb) : Lnk lo g u bs W d' L (bs ++ vb) := by
  have hltu := h.lt
  have hbu := h.base
  have hgu := h.glt
  obtain ⟨⟨ve, vi, vo, vf, tv, cb, h1, h2, h3, h4, h5⟩, hl, hlo, hn, hbs⟩ := h.new hb
  have hold : ∀ q ∈ vb, q ∉ bs := fun q hq hx => by have := hltu q (by simp [hx]); have := (hvb q hq).1; omega
  obtain ⟨ve', vi', vo', vf', cb', r1, r2, r3⟩ := hc ve vi vo vf tv cb h1 h2 (fun q hq hx => hold q hq (h4 q hx))
  have hgc : ∀ b ∈ cb', b ≠ g := fun b hb => by
    rcases r3 b hb with e | e
    · exact fun e2 => hn (e2 ▸ h4 b e)
    · have := (hvb b e).1; omega
  refine ⟨⟨⟨ve', vi', vo', vf', tv, cb', r1, r2.keep (by omega) (fun b hb => hk b (hgc b hb)), owns_kept h3 (fun q hq _ => hk q (fun e => hn (e ▸ (h5 q hq).1))), fun x hx => List.mem_append.2 ((r3 x hx).imp (h4 x) id), fun q hq => ⟨List.mem_append_left _ (h5 q hq).1, fun hx => ?_⟩⟩, fun b hb => ?_, fun b hb => ?_, fun hx => ?_, by omega⟩, ⟨hos.trans hb.os, htp.trans hb.tape, hou.trans hb.output, by have := hb.size; omega, fun k hk1 hk2 => (hk k (fun e => hk2 (by simp [e]))).trans (hb.block k hk1)⟩, fun b hb => ?_⟩
  · rcases r3 q hx with e | e
    · exact (h5 q hq).2 e
    · exact hold q e (h5 q hq).1
  · rw [hsz]
    rcases List.mem_cons.1 hb with e | e
    · exact hl b (by simp [e])
    · rcases List.mem_append.1 e with e | e
      · exact hl b (by simp [e])
      · exact (hvb b e).2
  · rcases List.mem_append.1 hb with e | e
    · exact hlo b e
    · have := (hvb b e).1; omega
  · rcases List.mem_append.1 hx with e | e
    · exact hn e
    · have := (hvb g e).1; omega
  · exact (List.mem_append.1 hb).imp id (fun e => (hvb b e).1)
theorem LkM.setReg {u : World} (h : LkM u lo g d L bs) (hb : Below u.heap.size u w) (r : RegistryD) (v : Value) (ho : OwX entryS w u.heap.size w.heap.size v r.es) :
    ∃ bx, Lnk lo g u bs (((w.setCell ⟨g, 0, none⟩ (.int .i64 r.lim)).setCell ⟨g, 1, none⟩ (.int .i64 r.top)).setCell ⟨g, 2, none⟩ v) { d with reg := r } L bx := by
  obtain ⟨vb, o1, o2, o3⟩ := ho
  refine ⟨_, h.swap hb _ _ vb (by simp) rfl rfl rfl (fun b hb' => by rw [Below.heap_setCell _ _ _ b hb', Below.heap_setCell _ _ _ b hb', Below.heap_setCell _ _ _ b hb']) o3 ?_⟩
  intro ve vi vo vf tv cb h1 h2 h3
  obtain ⟨cb', c1, c2⟩ := h2.setE r v vb o1 o2 h3
  exact ⟨v, vi, vo, vf, cb', ((h1.set 0 _).set 1 _).set 2 _, c1, c2⟩
theorem LkM.setIn {u : World} (h : LkM u lo g d L bs) (hb : Below u.heap.size u w) (r : Int) (T : List Fd) (v : Value) (ho : OwX fieldS w u.heap.size w.heap.size v T) :
    ∃ vb, OwR fieldS w v T vb ∧ Lnk lo g u bs ((w.setCell ⟨g, 3, none⟩ (.int .i64 r)).setCell ⟨g, 4, none⟩ v) { d with inr := r, inT := T } L (bs ++ vb) := by
  obtain ⟨vb, o1, o2, o3⟩ := ho
  refine ⟨vb, o1, h.swap hb _ _ vb (by simp) rfl rfl rfl (fun b hb' => by rw [Below.heap_setCell _ _ _ b hb', Below.heap_setCell _ _ _ b hb']) o3 ?_⟩
  intro ve vi vo vf tv cb h1 h2 h3
  obtain ⟨cb', c1, c2⟩ := h2.setI r T v vb o1 o2 h3
  exact ⟨ve, v, vo, vf, cb', (h1.set 3 _).set 4 _, c1, c2⟩
theorem LkM.setOut {u : World} (h : LkM u lo g d L bs) (hb : Below u.heap.size u w) (r : Int) (T : List Fd) (v : Value) (ho : OwX fieldS w u.heap.size w.heap.size v T) :
    ∃ bx, Lnk lo g u bs ((w.setCell ⟨g, 5, none⟩ (.int .i64 r)).setCell ⟨g, 6, none⟩ v) { d with outr := r, outT := T } L bx := by
  obtain ⟨vb, o1, o2, o3⟩ := ho
  refine ⟨_, h.swap hb _ _ vb (by simp) rfl rfl rfl (fun b hb' => by rw [Below.heap_setCell _ _ _ b hb', Below.heap_setCell _ _ _ b hb']) o3 ?_⟩
  intro ve vi vo vf tv cb h1 h2 h3
  obtain ⟨cb', c1, c2⟩ := h2.setO r T v vb o1 o2 h3
  exact ⟨ve, vi, v, vf, cb', (h1.set 5 _).set 6 _, c1, c2⟩
/-- What is told, opened for one more frame. -/
theorem LkM.told (h : LkM w lo g d L bs) : ∃ ve vi vo vf tv, RowIs w g 69 (lkcs d ve vi vo vf tv) ∧ w.ownsRow lo 48 4 tv L.length (fr L) ∧ (∀ q, tv.ownBlock = some q → g ≠ q) ∧ ∀ (w1 : World) (v' : Value) (f : Fr) (n : Nat), w1.ownsRow lo 48 4 v' n (fr L ++ fr [f]) → n = L.length + 1 → w.grownBy w1 tv.ownBlock → (v'.ownBlock = tv.ownBlock ∨ v'.ownBlock = some w.heap.size) →
      ∃ bx, Lnk lo g w bs (w1.setCell ⟨g, 13, none⟩ v') d (L ++ [f]) bx := by
  have hlts := h.lt
  have hb0 := h.base
  obtain ⟨⟨ve, vi, vo, vf, tv, cb, h1, h2, h3, h4, h5⟩, hl, hlo, hn, hbs⟩ := h
  refine ⟨ve, vi, vo, vf, tv, h1, h3, fun q hq e => hn (e ▸ (h5 q hq).1), fun w1 v' f n ho hn1 hg hat => ?_⟩
  subst hn1
  have hgl := hl g (by simp)
  have hk : ∀ b, b < w.heap.size → b ≠ g → (∀ q, tv.ownBlock = some q → b ≠ q) → (w1.setCell ⟨g, 13, none⟩ v').heap[b]? = w.heap[b]? := fun b hb hbg hbt => by
    rw [Below.heap_setCell _ _ _ b hbg]
    exact hg.block b hb (fun e => hbt b e.symm rfl)
  have hgt : ∀ q, tv.ownBlock = some q → g ≠ q := fun q hq e => hn (e ▸ (h5 q hq).1)
  have hgv : ∀ q, v'.ownBlock = some q → q ≠ g := fun q hq e => by
    rcases hat with a | a
    · exact hgt q (a ▸ hq) e.symm
    · rw [hq] at a; have := Option.some.inj a; omega
  have r1 : RowIs w1 g 69 (lkcs d ve vi vo vf tv) := h1.kept (hg.block g hgl (fun e => hgt g e.symm rfl))
  have hsz : (w1.setCell ⟨g, 13, none⟩ v').heap.size = w1.heap.size := by simp
  have hgs := hg.size
  refine ⟨bs ++ v'.ownBlock.toList, ⟨⟨ve, vi, vo, vf, v', cb, r1.set 13 v', h2.keep (by omega) (fun b hb => hk b (hl b (by simp [h4 b hb])) (fun e => hn (e ▸ h4 b hb)) (fun q hq e => (h5 q hq).2 (e ▸ hb))), ?_, fun x hx => List.mem_append_left _ (h4 x hx), fun q hq => ⟨by simp [hq], fun hx => ?_⟩⟩, fun b hb => ?_, fun b hb => ?_, fun hx => ?_, by omega⟩, ?_, fun b hb => ?_⟩
  · have e : fr (L ++ [f]) = fr L ++ fr [f] := by simp [fr]
    rw [e, List.length_append]
    exact owns_kept ho (fun q hq _ => Below.heap_setCell _ _ _ q (hgv q hq))
  · rcases hat with a | a
    · exact (h5 q (a ▸ hq)).2 hx
    · rw [hq] at a; have := Option.some.inj a; have := hl q (by simp [h4 q hx]); omega
  · rw [hsz]
    rcases List.mem_cons.1 hb with e | e
    · have := hl b (by simp [e]); omega
    · rcases List.mem_append.1 e with e | e
      · have := hl b (by simp [e]); omega
      · have hq : v'.ownBlock = some b := by cases hv : v'.ownBlock <;> simp [hv] at e ⊢; exact e.symm
        exact (owns_lt ho b hq).2
  · rcases List.mem_append.1 hb with e | e
    · exact hlo b e
    · have hq : v'.ownBlock = some b := by cases hv : v'.ownBlock <;> simp [hv] at e ⊢; exact e.symm
      exact (owns_lt ho b hq).1
  · rcases List.mem_append.1 hx with e | e
    · exact hn e
    · have hq : v'.ownBlock = some g := by cases hv : v'.ownBlock <;> simp [hv] at e ⊢; exact e.symm
      exact hgv g hq rfl
  · exact ⟨hg.os, hg.tape, hg.output, by omega, fun k hk1 hk2 => hk k hk1 (fun e => hk2 (by simp [e])) (fun q hq e => hk2 (by rw [e]; simp [(h5 q hq).1]))⟩
  · rcases List.mem_append.1 hb with e | e
    · exact .inl e
    · have hq : v'.ownBlock = some b := by cases hv : v'.ownBlock <;> simp [hv] at e ⊢; exact e.symm
      rcases hat with a | a
      · exact .inl (h5 b (a ▸ hq)).1
      · rw [hq] at a; have := Option.some.inj a; exact .inr (by omega)
/-- The k-th Flow of a link, and the link behind a change of it that leaves its Fields. -/
theorem LkM.flw (h : LkM w lo g d L bs) (k : Nat) (hk : k < d.flows.length) :
    ∃ gf A C ve vi vo cap v0 tv, RowIs w g 69 (lkcs d ve vi vo (.slice (some ⟨gf, 0, none⟩) d.flows.length cap) tv) ∧ gf ∈ bs ∧ gf < w.heap.size ∧ g ≠ gf ∧ MidIs w gf 89 A C (k * 15) (flcs d.flows[k] v0) ∧ d.flows[k].tun.up.b.size ≤ 9223372036854775807 ∧ d.flows[k].tun.dn.b.size ≤ 9223372036854775807 ∧
      ∀ w' f', f'.fds = d.flows[k].fds → f'.tun.up.b.size ≤ 9223372036854775807 → f'.tun.dn.b.size ≤ 9223372036854775807 → MidIs w' gf 89 A C (k * 15) (flcs f' v0) → TurnB [gf] w w' → Lnk lo g w bs w' { d with flows := d.flows.set k f' } L bs := by
  obtain ⟨⟨ve, vi, vo, vf, tv, cb, hrow, ⟨⟨be, bi, bo, bf, h1, h2, h3, h4, rfl⟩, hn⟩, h5, h6, h7⟩, hl, hlo, hng, hbs⟩ := h
  have hn4 : bf.Nodup := nodup_right hn
  have hdis : ∀ x ∈ bf, x ∉ be ++ bi ++ bo := fun x hx hx2 => nodup_apart hn x hx2 hx
  obtain ⟨gf, cap, cs, b, A, C, rfl, hgl, hgm, hgb, hsub, hown, hmid, hA, hput⟩ := h4.mid hn4 k hk
  obtain ⟨v0, bq, rfl, f0, f1, g1, rfl⟩ := hown
  have hgm2 : gf ∈ be ++ bi ++ bo ++ bf := by simp [hgm]
  have hgb2 : gf ∈ bs := h6 gf hgm2
  have hgg : g ≠ gf := fun e => hng (by rw [e]; exact hgb2)
  refine ⟨gf, A, C, ve, vi, vo, cap, v0, tv, hrow, hgb2, hgl, hgg, ⟨hmid, by rw [hA]; rfl⟩, f0, f1, ?_⟩
  intro w' f' hfe t1 t2 hm' ht
  have hk1 : ∀ x, x < w.heap.size → x ≠ gf → w'.heap[x]? = w.heap[x]? := fun x hx hne => ht.block x hx (by simpa using hne)
  have hk0 : ∀ x ∈ be ++ bi ++ bo, x ≠ gf := fun x hx e => hdis gf hgm (e ▸ hx)
  have hb0k : ∀ x ∈ b, w'.heap[x]? = w.heap[x]? := fun x hx => hk1 x (g1.lt x hx) (fun e => hgb (e ▸ hx))
  have hO := hput w' _ f' hm'.row ⟨v0, b, rfl, t1, t2, by rw [hfe]; exact g1.keep ht.size hb0k, rfl⟩ ht.size (fun x hx hne => hk1 x (h4.lt x hx) hne)
  have hsz := ht.size
  refine ⟨⟨⟨ve, vi, vo, .slice (some ⟨gf, 0, none⟩) d.flows.length cap, tv, be ++ bi ++ bo ++ bf, hrow.kept (hk1 g hrow.lt hgg), ⟨⟨be, bi, bo, bf, h1.keep hsz (fun x hx => hk1 x (h1.lt x hx) (hk0 x (by simp [hx]))), h2.keep hsz (fun x hx => hk1 x (h2.lt x hx) (hk0 x (by simp [hx]))), h3.keep hsz (fun x hx => hk1 x (h3.lt x hx) (hk0 x (by simp [hx]))), hO, rfl⟩, hn⟩, owns_kept h5 (fun q hq hq2 => hk1 q hq2 (fun e => (h7 q hq).2 (e ▸ hgm2))), h6, h7⟩, fun b hb => Nat.lt_of_lt_of_le (hl b hb) hsz, hlo, hng, by omega⟩, ht.wide (fun x hx => by simp at hx; subst hx; simp [hgb2]), NewB.refl _ _⟩
end
end Go.Proofs.YtllaeakeaabiaaaGreat
