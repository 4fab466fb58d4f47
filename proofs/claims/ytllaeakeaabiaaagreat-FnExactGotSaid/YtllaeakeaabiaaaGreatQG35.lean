/- Several small texts of one level, one behind the other. -/
import Derived.Test.YtllaeakeaabiaaaGreatQG30
import Derived.Test.YtllaeakeaabiaaaGreatQG34
import Derived.Test.YtllaeakeaabiaaaGreatQG31
import Derived.Test.YtllaeakeaabiaaaGreatQG9
import Derived.Deep.DeepMust
import Derived.Test.YtllaeakeaabiaaaGreatQG32
import Derived.Test.YtllaeakeaabiaaaGreatQG27
import Derived.Test.YtllaeakeaabiaaaGreatQG5
import Derived.Test.YtllaeakeaabiaaaGreatQG4
import Derived.Deep.RegionHeld3
/- Chapter 17's model as it is called: given. -/
namespace Go.Proofs.YtllaeakeaabiaaaGreat
open Go.RowKit
set_option maxRecDepth 100000
set_option linter.unusedSimpArgs false
set_option linter.unusedVariables false
/-- What a face answers: a Conn in memory from lo on, and frames in memory apart from it. -/
def FaceF (lo : Nat) (r : CnD × List Fr) (v vfr : Value) (w : World) : Prop := ∃ ve vi vo vf bs, v = cnv r.1 ve vi vo vf ∧ CnOw w bs r.1 ve vi vo vf ∧ (∀ b ∈ bs, lo ≤ b) ∧ w.ownsRow lo 48 4 vfr r.2.length (fr r.2) ∧ ∀ q, vfr.ownBlock = some q → q ∉ bs
theorem zero_new (w : World) (lo : Nat) : NewC lo zCn (.agg #[.int .i64 0, .int .i64 0, .slice none 0 0, .int .i64 0, .slice none 0 0, .int .i64 0, .slice none 0 0, .int .i64 0, .int .i64 0, .int .i64 0, .slice none 0 0, .bool false, .bool false]) w := by
  obtain ⟨bs, h, hlo⟩ := cnow_of (w := w) (d := zCn) (owX_nil (E := entryS) w lo lo) (owX_nil (E := fieldS) w lo lo) (owX_nil (E := fieldS) w lo lo) (owX_nil (E := flowS) w lo lo) (Nat.le_refl _) (Nat.le_refl _) (Nat.le_refl _) (Nat.le_refl _) (Nat.le_refl _) (Nat.le_refl _)
  exact ⟨_, _, _, _, bs, rfl, h, hlo⟩
/-- Stands a Conn in a box, all of whose blocks are new, it may be handed back. -/
theorem CnM.handed {w : World} {g lo : Nat} {d : CnD} {bs : List Nat} (h : CnM w g d bs) (hb : ∀ b ∈ bs, lo ≤ b) : ∃ ve vi vo vf, RowIs w g 43 (cncs d ve vi vo vf) ∧ NewC lo d (cnv d ve vi vo vf) w ∧ CnOw w bs d ve vi vo vf := by
  obtain ⟨⟨ve, vi, vo, vf, h1, h2⟩, h3⟩ := h
  exact ⟨ve, vi, vo, vf, h1, ⟨ve, vi, vo, vf, bs, rfl, h2, hb⟩, h2⟩
end Go.Proofs.YtllaeakeaabiaaaGreat
/- Chapter 17's model in place: a frame of data. -/
namespace Go.Proofs.YtllaeakeaabiaaaGreat
open Go.RowKit
set_option maxRecDepth 100000
set_option linter.unusedSimpArgs false
set_option linter.unusedVariables false
theorem grant_short (c : CnD) (id n : Int) : (grantD c id n).2.length ≤ 1 := by
  unfold grantD
  repeat' split
  all_goals simp
/-- A Flow's Get set in place. -/
theorem CnM.flGet {w : World} {g : Nat} {d : CnD} {bs : List Nat} (h : CnM w g d bs) (k : Nat) (hk : k < d.flows.length) :
    ∃ gf ve vi vo cap, RowIs w g 43 (cncs d ve vi vo (.slice (some ⟨gf, 0, none⟩) d.flows.length cap)) ∧ gf ∈ bs ∧ gf < w.heap.size ∧ g ≠ gf ∧ w.cell? ⟨gf, k * 15 + 1, none⟩ = some (.int .i64 d.flows[k].get) ∧ w.frozen? ⟨gf, k * 15 + 1, none⟩ = false ∧
      ∀ n : Int, CnM (w.setCell ⟨gf, k * 15 + 1, none⟩ (.int .i64 n)) g { d with flows := d.flows.set k { d.flows[k] with get := n } } bs ∧ TurnB (g :: bs) w (w.setCell ⟨gf, k * 15 + 1, none⟩ (.int .i64 n)) := by
  obtain ⟨gf, A, C, ve, vi, vo, cap, v0, hrow, hgm, hgfl, hgg, hmid, s1, s2, _, hput⟩ := h.flw k hk
  refine ⟨gf, ve, vi, vo, cap, hrow, hgm, hgfl, hgg, MidIs.cell (j := 1) hmid rfl, MidIs.frozen hmid _, fun n => ⟨?_, (TurnB.refl _ _).set _ _ (by simp [hgm])⟩⟩
  have hm2 := MidIs.set hmid 1 (.int .i64 n) (by simp)
  exact hput _ { d.flows[k] with get := n } rfl s1 s2 hm2 ((TurnB.refl _ _).set _ _ (by simp))
theorem in_noR {t : TuD} {p : ByteArray} {fin : Bool} (hk : okTu t = true) (h : (!(t.up.e || t.up.k) && decide ((p.size : Int) ≤ t.up.r - t.up.b.size)) = false) : inTu t p fin = (t, false) := by
  unfold inTu
  rw [if_neg (by rw [hk]; decide), if_pos]
  simp only [Bool.and_eq_false_iff, Bool.not_eq_false', Bool.or_eq_true, decide_eq_false_iff_not] at h
  rcases h with (h | h) | h
  · exact .inl h
  · exact .inr (.inl h)
  · exact .inr (.inr (by omega))
theorem in_yesR {t : TuD} {p : ByteArray} {fin : Bool} (hk : okTu t = true) (h : (!(t.up.e || t.up.k) && decide ((p.size : Int) ≤ t.up.r - t.up.b.size)) = true) : inTu t p fin = (⟨⟨t.up.r, t.up.b ++ p, fin, t.up.k⟩, t.dn, t.went, t.came⟩, true) := by
  unfold inTu
  simp only [Bool.and_eq_true, Bool.not_eq_true', Bool.or_eq_false_iff, decide_eq_true_eq] at h
  rw [if_neg (by rw [hk]; decide), if_neg]
  rintro (c | c | c)
  · rw [h.1.1] at c; cases c
  · rw [h.1.2] at c; cases c
  · omega
theorem hap_atE {c : CnD} {id ev : Int} {k : Nat} (h : atE c.reg.es id = some k) : ∃ j, atE (hapD c id ev).reg.es id = some j := by
  cases h2 : atE (hapD c id ev).reg.es id with
  | some j => exact ⟨j, rfl⟩
  | none =>
    exfalso
    obtain ⟨hk, hi, _⟩ := atE_some h
    have hids := hap_ids c.reg id ev
    have hl : (happenRaw c.reg id ev).1.es.length = c.reg.es.length := hap_len c.reg id ev
    have hk2 : k < (happenRaw c.reg id ev).1.es.length := by omega
    have e1 : ((happenRaw c.reg id ev).1.es.map EntryD.id)[k]? = (c.reg.es.map EntryD.id)[k]? := by rw [hids]
    rw [List.getElem?_map, List.getElem?_map, List.getElem?_eq_getElem hk2, List.getElem?_eq_getElem hk] at e1
    simp only [Option.map_some, Option.some.injEq] at e1
    exact atE_none h2 _ (List.getElem_mem hk2) (e1.trans hi)
/-- Given back to the connection, and the stream fails. -/
def brkD (c : CnD) (id n code : Int) : CnD × List Fr := ((breakD (grantD c 0 n).1 id code).1, (grantD c 0 n).2 ++ [(breakD (grantD c 0 n).1 id code).2])
theorem data_over {d : CnD} {f : Fr} (h : d.get < f.b.size) : dataD d f = failD d 2 := by unfold dataD; dsimp only; rw [if_pos h]
theorem data_in {d : CnD} {f : Fr} (h : ¬ d.get < f.b.size) : dataD d f = (if stateD d.reg f.st = 0 then failD { d with get := d.get - f.b.size } 1
    else if mgV (stateD d.reg f.st) = false then (if stateD d.reg f.st = 4 then grantD { d with get := d.get - f.b.size } 0 f.b.size else brkD { d with get := d.get - f.b.size } f.st f.b.size 3)
    else if getAt d f.st < f.b.size then brkD { d with get := d.get - f.b.size } f.st f.b.size 2
    else if roomAt (atFl { d with get := d.get - f.b.size } f.st (fun x => { x with get := x.get - f.b.size })) f.st (payV f).size = false then brkD (atFl { d with get := d.get - f.b.size } f.st (fun x => { x with get := x.get - f.b.size })) f.st f.b.size 2
    else
      let c := atFl (atFl { d with get := d.get - f.b.size } f.st (fun x => { x with get := x.get - f.b.size })) f.st (putUp (payV f) (decide (f.fl % 2 = 1)))
      let c := if decide (f.fl % 2 = 1) then hapD c f.st 2 else c
      let left := (f.b.size : Int) - (payV f).size
      ((grantD (grantD c f.st left).1 0 left).1, (grantD c f.st left).2 ++ (grantD (grantD c f.st left).1 0 left).2)) := by
  unfold dataD
  dsimp only
  rw [if_neg h]
  rfl
set_option maxHeartbeats 8000000 in
theorem dataM (g : Nat) (d : CnD) (bs : List Nat) (fk fl id : Int) (b : ByteArray) (w : World) (h : CnM w g d bs) (hok : okCn d = true) (hb : b.size ≤ 1048576) (hfl : 0 ≤ fl) (hid : id ≠ 0) :
    Calls Tryz.prog 60 #[.pointer (some ⟨g, 0, none⟩), .agg #[.int .i64 fk, .int .i64 fl, .int .i64 id, .string b]] w (StepC w g bs (dataD d ⟨fk, fl, id, b⟩)) := by
  obtain ⟨n, hn⟩ : ∃ n : Int, (b.size : Int) = n := ⟨_, rfl⟩
  have h0 : 0 ≤ n := by omega
  have h1 : n ≤ 16777215 := by omega
  have hM0 := mild_ok hok
  obtain ⟨hlen, h60⟩ := cn_len hok
  have hfle : d.flows.length ≤ 60 := by omega
  have hgets := (cn_wins hok).1
  have hgl := h.lt
  have HH := hide (Here.start h ⟨fk, fl, id, b⟩)
  have HDI := hide (fun h => data_in (d := d) (f := ⟨fk, fl, id, b⟩) h)
  have HDO := hide (fun h => data_over (d := d) (f := ⟨fk, fl, id, b⟩) h)
  dsimp only at HH HDI HDO
  rw [hn] at HDI HDO
  have r3 := HH.out.r.cell (j := 3) rfl
  have rl := HH.out.r.lt
  dsimp only at r3
  obtain ⟨⟨qe, qi, qo, qf, hrow, hcw⟩, _⟩ := HH.out.c
  have x7 := RowIs.cell (j := 7) hrow rfl
  have xf := RowIs.frozen hrow 7
  have xl := hrow.lt
  clear h hrow hcw
  by_cases hov : d.get < n
  · have HW := hide (HDO.out hov)
    go_enter Tryz.func60, Tryz.ntmps60
    go_wp2_with fail
    generalize w.alloc (.cells #[.int .i64 fk, .int .i64 fl, .int .i64 id, .string b] 48) = W at *
    refine (failC g d bs 2 _ HH.out.c (by decide) (by decide) (by omega)).mono ?_
    intro x w3 hst
    have hst2 := HH.out.done hst
    obtain ⟨v3, bs3, rfl, hrest⟩ := hst2
    go_wp2_with fail
    go_ret
    rw [HW.out]
    exact ⟨v3, bs3, rfl, hrest⟩
  have HW0 := hide (HDI.out hov)
  have hws : IntKind.i64.wrap (d.get - n) = d.get - n := by rw [IntKind.wrap_i64]; omega
  have HH1 := hide (HH.out.turn (HH.out.c.setGet (d.get - n)) ((TurnB.refl _ _).set ⟨g, 7, none⟩ (.int .i64 (d.get - n)) (by simp)) (NewB.refl _ _))
  have HM := hide (hM0.setGet (n := d.get - n) (by omega))
  have hov' : ¬ n > d.get := by omega
  clear HDI HDO hM0
  go_enter Tryz.func60, Tryz.ntmps60
  go_upto_region 2 with fail
  generalize w.alloc (.cells #[.int .i64 fk, .int .i64 fl, .int .i64 id, .string b] 48) = W0 at *
  go_upto_region 5 with fail
  clear HH x7 xf xl r3 rl
  have HH := HH1
  clear HH1
  generalize W0.setCell ⟨g, 7, none⟩ (.int .i64 (d.get - n)) = W at *
  obtain ⟨d1, hd1⟩ : ∃ x, ({ d with get := d.get - n } : CnD) = x := ⟨_, rfl⟩
  have hr1 : d1.reg = d.reg := by rw [← hd1]
  have hf1 : d1.flows = d.flows := by rw [← hd1]
  rw [hd1] at HH HM HW0
  have HD1 := hide hd1
  have hS := fun v w h => specState0 d1.reg v id w h
  obtain ⟨s, hs⟩ : ∃ s, stateD d.reg id = s := ⟨_, rfl⟩
  rw [hr1, hs] at hS
  rw [← hr1] at hS
  have HS := hide hs
  rw [hs] at HW0
  have HR1 := hide hr1; have HF1 := hide hf1
  clear hs hd1 hr1 hf1
  obtain ⟨⟨qe, qi, qo, qf, hrow, hcw⟩, _⟩ := HH.out.c
  have x0 := RowIs.cell (j := 0) hrow rfl
  have x1 := RowIs.cell (j := 1) hrow rfl
  have x2 := RowIs.cell (j := 2) hrow rfl
  have xl := hrow.lt
  have HE := hide hcw.rd.e
  have r2 := HH.out.r.cell (j := 2) rfl
  have rl := HH.out.r.lt
  clear hrow hcw
  dsimp only at x0 x1 x2 r2 HE
  go_upto_region 5 with fail
  have y0 : ∀ y : Later W, y.w.cell? ⟨g, 0, none⟩ = some (.int .i64 d1.reg.lim) := fun y => (y.b.cell (p := ⟨g, 0, none⟩) xl).trans x0
  have y1 : ∀ y : Later W, y.w.cell? ⟨g, 1, none⟩ = some (.int .i64 d1.reg.top) := fun y => (y.b.cell (p := ⟨g, 1, none⟩) xl).trans x1
  have y2 : ∀ y : Later W, y.w.cell? ⟨g, 2, none⟩ = some qe := fun y => (y.b.cell (p := ⟨g, 2, none⟩) xl).trans x2
  have z2 : ∀ y : Later W, y.w.cell? ⟨w.heap.size, 2, none⟩ = some (.int .i64 id) := fun y => (y.b.cell (p := ⟨w.heap.size, 2, none⟩) rl).trans r2
  have hne : Nonempty (Later W) := ⟨⟨W, Below.refl _ _⟩⟩; refine region_later (by kernel_rfl) (by kernel_rfl) ?_
  repeat (go_big_quiet_step (fail))
  go_big_quiet_want; go_big_quiet_op; refine ⟨.int .i64 s, fun y => later_calls (x := y) (hS _ y.w (HE.out.new y.b)), ?_⟩; go_big_quiet_on
  repeat (go_big_quiet_step (fail))
  refine wpQuiet_nil ?_; intro _ hw'; obtain ⟨y, hw''⟩ := hw'; subst hw''; have hby := y.b
  generalize y.w = W2 at *
  replace HH := hide (HH.out.new hby)
  clear hby x0 x1 x2 xl HE y0 y1 y2 z2 r2 rl hne
  clear hS
  have HM5 := HM.out
  have hd60 := HM5.sixty
  have hdle := HM5.len
  by_cases hs0 : s = 0
  · subst hs0
    rw [if_pos rfl] at HW0
    go_wp2_with fail
    refine (failC g d1 bs 1 _ HH.out.c (by decide) (by decide) (by omega)).mono ?_
    intro x w3 hst
    have hst2 := HH.out.done hst
    obtain ⟨v3, bs3, rfl, hrest⟩ := hst2
    go_wp2_with fail
    go_ret
    rw [HW0.out]
    exact ⟨v3, bs3, rfl, hrest⟩
  rw [if_neg hs0] at HW0
  have hs0b : (s == 0) = false := by simpa using hs0
  have hMG := fun w => specMayGet s w
  cases hmg : mgV s
  · rw [hmg] at hMG
    rw [if_pos hmg] at HW0
    go_wp2_with fail
    refine (hMG _).mono ?_; rintro e w9 ⟨rfl, hsame⟩; obtain rfl := hsame.symm; clear hsame
    go_wp2_with fail
    refine (HH.out.grant 0 n 16777215 HM.out (by decide) h0 h1 (.inl rfl)).mono ?_
    rintro x v2 ⟨vg, rfl, hh2, ho2, hv2, _⟩
    have HO2 := hide ho2; have HV2 := hide hv2
    replace HH := hide hh2
    have HM2 := hide (HM.out.grant (id := 0) h0)
    clear ho2 hv2 hh2
    by_cases hs4 : s = 4
    · subst hs4
      rw [if_pos rfl] at HW0
      go_wp2_with fail
      go_ret
      rw [HW0.out]
      exact ⟨vg, bs, rfl, HH.out.c, HO2.out, HH.out.t, HH.out.n, fun q hq => (HV2.out q hq).2.2.2⟩
    have hs4b : (s == 4) = false := by simpa using hs4
    have hs4n : (s != 4) = true := by simpa using hs4
    rw [if_neg hs4] at HW0
    have r2 := HH.out.r.cell (j := 2) rfl
    have rl := HH.out.r.lt
    dsimp only at r2
    obtain ⟨af, pf, hvf, _, _⟩ := owns_form HO2.out
    subst hvf
    go_wp2_with fail
    refine (HH.out.break id 3 _ HM2.out (by decide) (by decide)).mono ?_
    rintro x v3 ⟨bz, rfl, hh3, ht3, hn3⟩
    have HO3 := hide (frames_turn HO2.out ht3 (fun q hq => (HV2.out q hq).2.2.2))
    have HV3 : Hid (∀ q, (Value.slice af (grantD d1 0 n).2.length pf).ownBlock = some q → w.heap.size ≤ q ∧ q ∉ g :: bz) := fun q hq => ⟨(HV2.out q hq).2.2.1, fun hx => by
      rcases List.mem_cons.1 hx with e | e
      · exact (HV2.out q hq).2.2.2 (by simp [e])
      · rcases hn3 q e with e | e
        · exact (HV2.out q hq).2.2.2 (by simp [e])
        · have := (HV2.out q hq).2.1; omega⟩
    replace HH := hide hh3
    clear ht3 hn3 hh3 HO2 HV2 HM2 r2 rl
    replace HW0 : Hid (dataD d ⟨fk, fl, id, b⟩ = ((breakD (grantD d1 0 n).1 id 3).1, (grantD d1 0 n).2 ++ [(breakD (grantD d1 0 n).1 id 3).2])) := HW0
    obtain ⟨B, hB⟩ : ∃ B, (breakD (grantD d1 0 n).1 id 3).2 = B := ⟨_, rfl⟩
    rw [hB] at HW0
    rw [hB]
    dsimp only [frv]
    clear hB
    have hb4 : Below v3.heap.size v3 (v3.alloc (.cells #[.int .i64 B.k, .int .i64 B.fl, .int .i64 B.st, .string B.b] 48)) := (Below.refl _ _).alloc (Nat.le_refl _) _
    have hrd := reads_of_owns (frw_one v3 B)
    replace HH := hide (HH.out.new hb4)
    have ho3 := owns_new HO3.out hb4
    have hgl2 := grant_short d1 0 n
    have hz4 := Nat.le_of_lt HH.out.lt
    go_wp2_with (at_builtin; go_must (refine wpList_app _ (by rfl) _ _ 44 (by rfl) 48 (.agg #[.int .i64 0, .int .i64 0, .int .i64 0, .string ⟨#[]⟩]) 4 40 Tryz.underlying44 (by kernel_rfl) rfl (by decide) w.heap.size _ (grantD d1 0 n).2.length (fr (grantD d1 0 n).2) (by rfl) ho3 _ 1 (fr [B]) (by rfl) hrd (fr_one _) (by omega) (by decide) hz4 ?_))
    intro ad8 cp8 v5 hown8 hg8 hat8
    have HFIN := hide (StepC.appended (L := (grantD d1 0 n).2) (M := [B]) HH.out.c HH.out.t HH.out.n HV3.out hown8 hg8 (hat8.imp (fun h => h) (fun h => h.trans (by simp))))
    clear hown8 hg8 hat8 ho3 hrd hb4
    go_wp2_with fail
    go_ret
    rw [HW0.out]
    exact HFIN.out
  rw [hmg] at hMG
  rw [if_neg (by rw [hmg]; decide)] at HW0
  obtain ⟨k, hat⟩ := may_at (r := d.reg) (id := id) (by rw [HS.out]; exact hmg)
  obtain ⟨hk, _, _⟩ := atE_some hat
  have hkd : k < d.flows.length := by omega
  rw [getAt_some hat hkd] at HW0
  have hat1 : atE d1.reg.es id = some k := by rw [HR1.out]; exact hat
  have hkf : k < d1.flows.length := by rw [HF1.out]; exact hkd
  have hA := fun v w h => specAt d1.reg id v w h
  rw [atI_some hat1] at hA
  obtain ⟨f, hf⟩ : ∃ f, d1.flows[k] = f := ⟨_, rfl⟩
  have hfd : d.flows[k] = f := by rw [← hf]; congr 1; exact HF1.out.symm
  rw [hfd] at HW0
  have hfk : okTu f.tun = true ∧ (-16777215 ≤ f.get ∧ f.get ≤ 16777215) := by rw [← hfd]; have := cn_flow hok (List.getElem_mem hkd); exact ⟨this.2.2.1, this.1⟩
  have hkI : (k : Int) < d1.flows.length := by omega
  have HAT := hide hat1; have HFK := hide hf
  clear hat hfd hf
  go_wp2_with fail
  refine (hMG _).mono ?_; rintro e w9 ⟨rfl, hsame⟩; obtain rfl := hsame.symm; clear hsame
  clear hMG
  obtain ⟨⟨qe, qi, qo, qf, hrow, hcw⟩, _⟩ := HH.out.c
  have x0 := RowIs.cell (j := 0) hrow rfl
  have x1 := RowIs.cell (j := 1) hrow rfl
  have x2 := RowIs.cell (j := 2) hrow rfl
  have xl := hrow.lt
  have HE := hide hcw.rd.e
  have r2 := HH.out.r.cell (j := 2) rfl
  have rl := HH.out.r.lt
  clear hrow hcw
  dsimp only at x0 x1 x2 r2 HE
  go_upto_region 13 with fail
  have y0 : ∀ y : Later W2, y.w.cell? ⟨g, 0, none⟩ = some (.int .i64 d1.reg.lim) := fun y => (y.b.cell (p := ⟨g, 0, none⟩) xl).trans x0
  have y1 : ∀ y : Later W2, y.w.cell? ⟨g, 1, none⟩ = some (.int .i64 d1.reg.top) := fun y => (y.b.cell (p := ⟨g, 1, none⟩) xl).trans x1
  have y2 : ∀ y : Later W2, y.w.cell? ⟨g, 2, none⟩ = some qe := fun y => (y.b.cell (p := ⟨g, 2, none⟩) xl).trans x2
  have z2 : ∀ y : Later W2, y.w.cell? ⟨w.heap.size, 2, none⟩ = some (.int .i64 id) := fun y => (y.b.cell (p := ⟨w.heap.size, 2, none⟩) rl).trans r2
  have hne : Nonempty (Later W2) := ⟨⟨W2, Below.refl _ _⟩⟩; refine region_later (by kernel_rfl) (by kernel_rfl) ?_
  repeat (go_big_quiet_step (fail))
  go_big_quiet_want; go_big_quiet_op; refine ⟨.int .i64 k, fun y => later_calls (x := y) (hA _ y.w (HE.out.new y.b)), ?_⟩; go_big_quiet_on
  repeat (go_big_quiet_step (fail))
  refine wpQuiet_nil ?_; intro _ hw'; obtain ⟨y, hw''⟩ := hw'; subst hw''; have hby := y.b
  generalize y.w = W3 at *
  replace HH := hide (HH.out.new hby)
  clear hby x0 x1 x2 xl HE y0 y1 y2 z2 r2 rl hne
  clear hA
  obtain ⟨gf, ve, vi, vo, cap, hrow, hgm, hgfl, hgg, c1, cf, _⟩ := HH.out.c.flGet k hkf
  have x10 := RowIs.cell (j := 10) hrow rfl
  have xl := hrow.lt
  rw [HFK.out] at c1
  clear hrow
  by_cases hgo : f.get < n
  · rw [if_pos hgo] at HW0
    have HW : Hid (dataD d ⟨fk, fl, id, b⟩ = ((breakD (grantD d1 0 n).1 id 2).1, (grantD d1 0 n).2 ++ [(breakD (grantD d1 0 n).1 id 2).2])) := HW0
    clear HW0
    go_upto_region 15 with fail
    have hD : Below W3.heap.size W3 (World.drew W3) := (Below.refl _ _).drew
    replace HH := hide (HH.out.new hD)
    clear hD
    refine wp_region_held_drew (S := fun u => RowIs u w.heap.size 48 [.int .i64 fk, .int .i64 fl, .int .i64 id, .string b]) (by kernel_rfl) HH.out.r (fun hS => ?_)
    generalize World.drew W3 = v1 at *
    refine wpAnyH_take (i := 0) (v := ?_) rfl (by kernel_rfl) (by kernel_rfl) (by kernel_rfl) (fun _ _ _ h => h) (Or.inl ⟨by rfl, ?_⟩) hS ?_; rotate_left; focus (intro w hw; clear hw; go_simp; try with_reducible rfl)
    refine wpAnyH_take (i := 1) (v := ?_) rfl (by kernel_rfl) (by kernel_rfl) (by kernel_rfl) (fun _ _ _ h => h) (Or.inl ⟨by rfl, ?_⟩) hS ?_; rotate_left; focus (intro w hw; clear hw; go_simp; try with_reducible rfl)
    refine wpAnyH_take (i := 3) (v := ?_) rfl (by kernel_rfl) (by kernel_rfl) (by kernel_rfl) (fun _ _ _ h => h) (Or.inl ⟨by rfl, ?_⟩) hS ?_; rotate_left; focus (intro w hw; clear hw; go_simp; try with_reducible rfl)
    refine wpAnyH_take (i := 4) (v := ?_) rfl (by kernel_rfl) (by kernel_rfl) (by kernel_rfl) (fun _ _ _ h => h) (Or.inl ⟨by rfl, ?_⟩) hS ?_; rotate_left; focus (intro w hw; clear hw; go_simp; try with_reducible rfl)
    refine wpAnyH_take (i := 5) (v := .int .i64 id) rfl (by kernel_rfl) (by kernel_rfl) (by kernel_rfl) (fun _ _ _ h => h) (Or.inl ⟨by kernel_rfl, ?ld⟩) hS ?_; case ld => (intro uu hu; have z2 := RowIs.cell (j := 2) hu rfl; have z8 := hu.lt; clear hu; go_simp)
    refine wpAnyH_ready (rs := [2]) (by kernel_rfl) (by simp) ?_; refine AllReadyH.cons rfl (fun K hK => ?_) AllReadyH.nil; go_simp
    refine (HH.out.grant 0 n 16777215 HM.out (by omega) h0 h1 (.inl rfl)).mono ?_
    rintro x v2 ⟨vg, rfl, hh2, ho2, hv2, _⟩
    have HO2 := hide ho2; have HV2 := hide hv2
    have hlv1 := HH.out.lt
    have HQ : Hid (∀ q, vg.ownBlock = some q → w.heap.size < q) := fun q hq => Nat.lt_of_lt_of_le hlv1 (hv2 q hq).1
    clear hlv1
    replace HH := hide hh2
    have HM2 := hide (HM.out.grant (id := 0) h0)
    refine hK.out _ _ HH.out.r (fun hS => ?_)
    clear hK K ho2 hv2 hh2
    try simp only [Act.put, List.getElem_toArray, List.getElem_cons_succ, List.getElem_cons_zero, List.setIfInBounds_toArray, List.set_cons_zero, List.set_cons_succ]
    refine wpAnyH_ready (rs := [6]) (by kernel_rfl) (by simp) ?_; refine AllReadyH.cons rfl (fun K hK => ?_) AllReadyH.nil; go_simp
    refine (HH.out.break id 2 _ HM2.out (by decide) (by decide)).mono ?_
    rintro x v3 ⟨bz, rfl, hh3, ht3, hn3⟩
    have HO3 := hide (frames_turn HO2.out ht3 (fun q hq => (HV2.out q hq).2.2.2))
    have HV3 : Hid (∀ q, vg.ownBlock = some q → w.heap.size ≤ q ∧ q ∉ g :: bz) := fun q hq => ⟨(HV2.out q hq).2.2.1, fun hx => by
      rcases List.mem_cons.1 hx with e | e
      · exact (HV2.out q hq).2.2.2 (by simp [e])
      · rcases hn3 q e with e | e
        · exact (HV2.out q hq).2.2.2 (by simp [e])
        · have := (HV2.out q hq).2.1; omega⟩
    replace HH := hide hh3
    refine hK.out _ _ HH.out.r (fun hS => ?_)
    clear hK K ht3 hn3 hh3 HO2 HV2 HM2
    try simp only [Act.put, List.getElem_toArray, List.getElem_cons_succ, List.getElem_cons_zero, List.setIfInBounds_toArray, List.set_cons_zero, List.set_cons_succ]
    obtain ⟨B, hB⟩ : ∃ B, (breakD (grantD d1 0 n).1 id 2).2 = B := ⟨_, rfl⟩
    rw [hB] at HW
    rw [hB]
    dsimp only [frv]
    clear hB
    refine wpAnyH_ready (rs := [7]) (by kernel_rfl) (by simp) ?_; refine AllReadyH.cons rfl (fun K hK => ?_) AllReadyH.nil; go_simp
    have hb4 : Below v3.heap.size v3 (v3.alloc (.cells #[.int .i64 B.k, .int .i64 B.fl, .int .i64 B.st, .string B.b] 48)) := (Below.refl _ _).alloc (Nat.le_refl _) _
    have HRD := hide (reads_of_owns (frw_one v3 B))
    replace HH := hide (HH.out.new hb4)
    replace HO3 := hide (owns_new HO3.out hb4)
    refine hK.out _ _ HH.out.r (fun hS => ?_)
    clear hK K hb4
    try simp only [Act.put, List.getElem_toArray, List.getElem_cons_succ, List.getElem_cons_zero, List.setIfInBounds_toArray, List.set_cons_zero, List.set_cons_succ]
    generalize hv4 : v3.alloc (.cells #[.int .i64 B.k, .int .i64 B.fl, .int .i64 B.st, .string B.b] 48) = v4 at *
    clear hv4
    have hgl2 := grant_short d1 0 n
    have hz4 := Nat.le_of_lt HH.out.lt
    refine wpAnyH_ready (rs := [8]) (by kernel_rfl) (by simp) ?_
    refine AllReadyH.cons rfl (fun K hK => ?_) AllReadyH.nil
    refine step_app _ (by rfl) _ _ 44 (by rfl) 48 (.agg #[.int .i64 0, .int .i64 0, .int .i64 0, .string ⟨#[]⟩]) 4 40 Tryz.underlying44 (by kernel_rfl) rfl (by decide) w.heap.size _ (grantD d1 0 n).2.length (fr (grantD d1 0 n).2) (by rfl) HO3.out _ 1 (fr [B]) (by rfl) HRD.out (fr_one _) (by omega) (by decide) hz4 ?_
    intro ad8 cp8 v5 hown8 hg8 hat8
    have HFIN := hide (StepC.appended (L := (grantD d1 0 n).2) (M := [B]) HH.out.c HH.out.t HH.out.n HV3.out hown8 hg8 (hat8.imp (fun h => h) (fun h => h.trans (by simp))))
    have hr5 := HH.out.r.kept (hg8.block _ HH.out.r.lt (fun e => by have := HQ.out _ e.symm; omega))
    refine hK.out _ _ hr5 (fun hS => ?_)
    clear hK K hown8 hg8 hat8 hr5 HO3 HRD
    try simp only [Act.put, List.getElem_toArray, List.getElem_cons_succ, List.getElem_cons_zero, List.setIfInBounds_toArray, List.set_cons_zero, List.set_cons_succ]
    refine wpAnyH_take (i := 9) (v := ?_) rfl (by kernel_rfl) (by kernel_rfl) (by kernel_rfl) (fun _ _ _ h => h) (Or.inl ⟨by rfl, ?_⟩) hS ?_; rotate_left; focus (intro w hw; clear hw; go_simp; try with_reducible rfl)
    try simp only [Act.put, List.getElem_toArray, List.getElem_cons_succ, List.getElem_cons_zero, List.setIfInBounds_toArray, List.set_cons_zero, List.set_cons_succ]
    refine wpAnyH_done (by kernel_rfl) ?_ _
    go_wp2_with fail
    go_ret
    rw [HW.out]
    exact HFIN.out
  rw [if_neg hgo] at HW0
  have hgo2 : ¬ n > f.get := by omega
  obtain ⟨d2, hd2⟩ : ∃ x, ({ d1 with flows := d1.flows.set k { f with get := f.get - n } } : CnD) = x := ⟨_, rfl⟩
  have ha2 : atFl d1 id (fun x => { x with get := x.get - n }) = d2 := by rw [atFl_at hat1 hkf, HFK.out, hd2]
  rw [ha2] at HW0
  have HM3 : Hid (Mild d2 33554430) := by show Mild _ _; rw [← hd2]; exact (HM.out.wide (by decide)).setFlow k _ (by dsimp only; omega)
  have hat2 : atE d2.reg.es id = some k := by rw [← hd2]; exact hat1
  have hkf2 : k < d2.flows.length := by rw [← hd2]; simpa using hkf
  have hfl2 : d2.flows[k] = { f with get := f.get - n } := by simp only [← hd2]; simp
  have hws2 : IntKind.i64.wrap (f.get - n) = f.get - n := by rw [IntKind.wrap_i64]; omega
  have HD2 := hide hd2
  go_upto_region 16 with fail
  have hkE : (k : Int) < d1.reg.es.length := by omega
  clear x10 xl c1 cf hlen
  have HDLE := hide hdle
  clear hdle
  go_cut [85] (fun x wc => x = .pointer (some ⟨g, 0, none⟩) ∧ Hid (Here w g bs ⟨fk, fl, id, b⟩ wc d2 bs))
  case first =>
    obtain ⟨gf, ve, vi, vo, cap, hrow, hgm, hgfl, hgg, c1, cf, hput⟩ := HH.out.c.flGet k hkf
    have x10 := RowIs.cell (j := 10) hrow rfl
    have xl := hrow.lt
    obtain ⟨hc6, ht6⟩ := hput (f.get - n)
    rw [HFK.out] at c1 hc6
    rw [HD2.out] at hc6
    have HH6 := hide ((HH.out.turn hc6 ht6 (NewB.refl _ _)).new (W' := World.drew (W3.setCell ⟨gf, k * 15 + 1, none⟩ (.int .i64 (f.get - n)))) (Below.refl _ _).drew)
    clear hrow hput hc6 ht6
    go_wp2_with fail
    refine wp_region_any (by kernel_rfl) ?_; change wpAny _ _ _ _ _ _ _ (World.drew _)
    refine wpAny_take (i := 0) (v := ?_) rfl (by kernel_rfl) (by kernel_rfl) (by kernel_rfl) (fun _ _ _ h => h) (Or.inl ⟨by rfl, ?_⟩) ?_; rotate_left; focus (intro w; go_simp; try with_reducible rfl)
    refine wpAny_take (i := 1) (v := ?_) rfl (by kernel_rfl) (by kernel_rfl) (by kernel_rfl) (fun _ _ _ h => h) (Or.inl ⟨by rfl, ?_⟩) ?_; rotate_left; focus (intro w; go_simp; try with_reducible rfl)
    refine wpAny_take (i := 2) (v := ?_) rfl (by kernel_rfl) (by kernel_rfl) (by kernel_rfl) (fun _ _ _ h => h) (Or.inl ⟨by rfl, ?_⟩) ?_; rotate_left; focus (intro w; go_simp; try with_reducible rfl)
    refine wpAny_take (i := 4) (v := ?_) rfl (by kernel_rfl) (by kernel_rfl) (by kernel_rfl) (fun _ _ _ h => h) (Or.inl ⟨by rfl, ?_⟩) ?_; rotate_left; focus (intro w; go_simp; try with_reducible rfl)
    refine wpAny_take (i := 5) (v := ?_) rfl (by kernel_rfl) (by kernel_rfl) (by kernel_rfl) (fun _ _ _ h => h) (Or.inl ⟨by rfl, ?_⟩) ?_; rotate_left; focus (intro w; go_simp; try with_reducible rfl)
    refine wpAny_take (i := 6) (v := ?_) rfl (by kernel_rfl) (by kernel_rfl) (by kernel_rfl) (fun _ _ _ h => h) (Or.inl ⟨by rfl, ?_⟩) ?_; rotate_left; focus (intro w; go_simp; try with_reducible rfl)
    refine wpAny_take (i := 7) (v := ?_) rfl (by kernel_rfl) (by kernel_rfl) (by kernel_rfl) (fun _ _ _ h => h) (Or.inl ⟨by rfl, ?_⟩) ?_; rotate_left; focus (intro w; go_simp; try with_reducible rfl)
    refine wpAny_take (i := 9) (v := ?_) rfl (by kernel_rfl) (by kernel_rfl) (by kernel_rfl) (fun _ _ _ h => h) (Or.inl ⟨by rfl, ?_⟩) ?_; rotate_left; focus (intro w; go_simp; try with_reducible rfl)
    refine wpAny_take (i := 13) (v := ?_) rfl (by kernel_rfl) (by kernel_rfl) (by kernel_rfl) (fun _ _ _ h => h) (Or.inl ⟨by rfl, ?_⟩) ?_; rotate_left; focus (intro w; go_simp; try with_reducible rfl)
    refine wpAny_ready (rs := [3, 8]) (by kernel_rfl) (by simp) ?_; refine AllReady.cons rfl (fun K hK => ?_) (AllReady.cons rfl (fun K hK => ?_) AllReady.nil)
    · go_simp; refine hK _ _ ?_; clear hK K
      refine wpAny_ready (rs := [8]) (by kernel_rfl) (by simp) ?_; refine AllReady.cons rfl (fun K hK => ?_) AllReady.nil
      go_simp; refine hK _ _ ?_; clear hK K
      refine wpAny_take (i := 10) (v := ?_) rfl (by kernel_rfl) (by kernel_rfl) (by kernel_rfl) (fun _ _ _ h => h) (Or.inl ⟨by rfl, ?_⟩) ?_; rotate_left; focus (intro w; go_simp; try with_reducible rfl)
      refine wpAny_take (i := 11) (v := ?_) rfl (by kernel_rfl) (by kernel_rfl) (by kernel_rfl) (fun _ _ _ h => h) (Or.inl ⟨by rfl, ?_⟩) ?_; rotate_left; focus (intro w; go_simp; try with_reducible rfl)
      refine wpAny_ready (rs := [12]) (by kernel_rfl) (by simp) ?_; refine AllReady.cons rfl (fun K hK => ?_) AllReady.nil
      go_simp; refine hK _ _ ?_; clear hK K
      refine wpAny_take (i := 14) (v := ?_) rfl (by kernel_rfl) (by kernel_rfl) (by kernel_rfl) (fun _ _ _ h => h) (Or.inl ⟨by rfl, ?_⟩) ?_; rotate_left; focus (intro w; go_simp; try with_reducible rfl)
      refine wpAny_take (i := 15) (v := ?_) rfl (by kernel_rfl) (by kernel_rfl) (by kernel_rfl) (fun _ _ _ h => h) (Or.inl ⟨by rfl, ?_⟩) ?_; rotate_left; focus (intro w; go_simp; try with_reducible rfl)
      refine wpAny_take (i := 16) (v := ?_) rfl (by kernel_rfl) (by kernel_rfl) (by kernel_rfl) (fun _ _ _ h => h) (Or.inl ⟨by rfl, ?_⟩) ?_; rotate_left; focus (intro w; go_simp; try with_reducible rfl)
      refine wpAny_ready (rs := [17]) (by kernel_rfl) (by simp) ?_; refine AllReady.cons rfl (fun K hK => ?_) AllReady.nil
      go_simp; refine hK _ _ ?_; clear hK K
      refine wpAny_done (by kernel_rfl) ?_ _
      go_wp2_with fail
      go_meet
      exact ⟨rfl, HH6⟩
    · go_simp; refine hK _ _ ?_; clear hK K
      refine wpAny_take (i := 10) (v := ?_) rfl (by kernel_rfl) (by kernel_rfl) (by kernel_rfl) (fun _ _ _ h => h) (Or.inl ⟨by rfl, ?_⟩) ?_; rotate_left; focus (intro w; go_simp; try with_reducible rfl)
      refine wpAny_take (i := 11) (v := ?_) rfl (by kernel_rfl) (by kernel_rfl) (by kernel_rfl) (fun _ _ _ h => h) (Or.inl ⟨by rfl, ?_⟩) ?_; rotate_left; focus (intro w; go_simp; try with_reducible rfl)
      refine wpAny_ready (rs := [3, 12]) (by kernel_rfl) (by simp) ?_; refine AllReady.cons rfl (fun K hK => ?_) (AllReady.cons rfl (fun K hK => ?_) AllReady.nil)
      · go_simp; refine hK _ _ ?_; clear hK K
        refine wpAny_ready (rs := [12]) (by kernel_rfl) (by simp) ?_; refine AllReady.cons rfl (fun K hK => ?_) AllReady.nil
        go_simp; refine hK _ _ ?_; clear hK K
        refine wpAny_take (i := 14) (v := ?_) rfl (by kernel_rfl) (by kernel_rfl) (by kernel_rfl) (fun _ _ _ h => h) (Or.inl ⟨by rfl, ?_⟩) ?_; rotate_left; focus (intro w; go_simp; try with_reducible rfl)
        refine wpAny_take (i := 15) (v := ?_) rfl (by kernel_rfl) (by kernel_rfl) (by kernel_rfl) (fun _ _ _ h => h) (Or.inl ⟨by rfl, ?_⟩) ?_; rotate_left; focus (intro w; go_simp; try with_reducible rfl)
        refine wpAny_take (i := 16) (v := ?_) rfl (by kernel_rfl) (by kernel_rfl) (by kernel_rfl) (fun _ _ _ h => h) (Or.inl ⟨by rfl, ?_⟩) ?_; rotate_left; focus (intro w; go_simp; try with_reducible rfl)
        refine wpAny_ready (rs := [17]) (by kernel_rfl) (by simp) ?_; refine AllReady.cons rfl (fun K hK => ?_) AllReady.nil
        go_simp; refine hK _ _ ?_; clear hK K
        refine wpAny_done (by kernel_rfl) ?_ _
        go_wp2_with fail
        go_meet
        exact ⟨rfl, HH6⟩
      · go_simp; refine hK _ _ ?_; clear hK K
        refine wpAny_take (i := 14) (v := ?_) rfl (by kernel_rfl) (by kernel_rfl) (by kernel_rfl) (fun _ _ _ h => h) (Or.inl ⟨by rfl, ?_⟩) ?_; rotate_left; focus (intro w; go_simp; try with_reducible rfl)
        refine wpAny_ready (rs := [3]) (by kernel_rfl) (by simp) ?_; refine AllReady.cons rfl (fun K hK => ?_) AllReady.nil
        go_simp; refine hK _ _ ?_; clear hK K
        refine wpAny_take (i := 15) (v := ?_) rfl (by kernel_rfl) (by kernel_rfl) (by kernel_rfl) (fun _ _ _ h => h) (Or.inl ⟨by rfl, ?_⟩) ?_; rotate_left; focus (intro w; go_simp; try with_reducible rfl)
        refine wpAny_take (i := 16) (v := ?_) rfl (by kernel_rfl) (by kernel_rfl) (by kernel_rfl) (fun _ _ _ h => h) (Or.inl ⟨by rfl, ?_⟩) ?_; rotate_left; focus (intro w; go_simp; try with_reducible rfl)
        refine wpAny_ready (rs := [17]) (by kernel_rfl) (by simp) ?_; refine AllReady.cons rfl (fun K hK => ?_) AllReady.nil
        go_simp; refine hK _ _ ?_; clear hK K
        refine wpAny_done (by kernel_rfl) ?_ _
        go_wp2_with fail
        go_meet
        exact ⟨rfl, HH6⟩
  rename_i wc
  obtain ⟨rfl, HH2⟩ := hcut
  clear HH
  have HH := HH2
  clear HH2

  obtain ⟨p, hp⟩ : ∃ p, payV ⟨fk, fl, id, b⟩ = p := ⟨_, rfl⟩
  have hps : p.size ≤ b.size := by rw [← hp]; exact pay_size ⟨fk, fl, id, b⟩
  have hPay := fun w => specPayload fk fl id b w (by unfold maxLen; omega)
  rw [hp] at hPay HW0
  clear hp
  have hrm := roomAt_some (n := p.size) hat2 hkf2
  rw [hfl2] at hrm
  dsimp only at hrm
  obtain ⟨fin, hfin⟩ : ∃ fin, decide (fl % 2 = 1) = fin := ⟨_, rfl⟩
  rw [hfin] at HW0
  have htm : (fl % 2 == 1) = fin := by rw [← hfin]; exact Bool.beq_eq_decide_eq _ _
  clear hfin
  have r0 := HH.out.r.cell (j := 0) rfl
  have r1 := HH.out.r.cell (j := 1) rfl
  have r2 := HH.out.r.cell (j := 2) rfl
  have r3 := HH.out.r.cell (j := 3) rfl
  have rl := HH.out.r.lt
  dsimp only at r0 r1 r2 r3
  go_wp2_with fail
  refine (hPay _).mono ?_; rintro x w5 ⟨rfl, hb5⟩
  replace HH := hide (HH.out.new hb5)
  clear hb5 r0 r1 r2 r3 rl hPay
  have r1 := HH.out.r.cell (j := 1) rfl
  have rl := HH.out.r.lt
  dsimp only at r1
  obtain ⟨gf, A, C, qe, qi, qo, cap, hrow, hgm, hgfl, hmid, s1, s2, hput⟩ := HH.out.c.tun k hkf2
  have x10 := RowIs.cell (j := 10) hrow rfl
  have xl := hrow.lt
  have HMID := hide hmid; have HPUT := hide hput
  have hkJ : (k : Int) < d2.flows.length := by omega
  rw [hfl2] at HMID
  dsimp only at HMID
  clear hrow hmid hput
  have hin := inM f.tun p fin gf (k * 15 + 4) _ A C w5 HMID.out hfk.1 (by omega)
  go_wp2_with fail
  try rw [htm]
  have HRM := hide hrm
  clear hrm htm x10
  rw [hfl2] at s1 s2
  dsimp only at s1 s2
  cases hroom : (!(f.tun.up.e || f.tun.up.k) && decide ((p.size : Int) ≤ f.tun.up.r - f.tun.up.b.size))
  · rw [in_noR hfk.1 hroom] at hin
    have HW : Hid (dataD d ⟨fk, fl, id, b⟩ = ((breakD (grantD d2 0 n).1 id 2).1, (grantD d2 0 n).2 ++ [(breakD (grantD d2 0 n).1 id 2).2])) := by
      show _ = _
      rw [HW0.out, if_pos (by rw [HRM.out]; exact hroom)]
      rfl
    refine hin.mono ?_; clear hin
    rintro x w6 ⟨rfl, hm6, ht6⟩
    have hc6 := HPUT.out w6 f.tun s1 s2 hm6 (turnB_of ht6)
    have he6 : ({ d2 with flows := d2.flows.set k { d2.flows[k] with tun := f.tun } } : CnD) = d2 := by
      have : ({ d2.flows[k] with tun := f.tun } : FlD) = d2.flows[k] := by rw [hfl2]
      rw [this, List.set_getElem_self]
    rw [he6] at hc6
    replace HH := hide (HH.out.turn hc6 ((turnB_of ht6).wide (fun x hx => by simp at hx; subst hx; simp [hgm])) (NewB.refl _ _))
    have HM := HM3
    clear hc6 ht6 hm6 he6 HMID HPUT HW0 r1 rl xl
    go_upto_region 20 with fail
    have hD : Below w6.heap.size w6 (World.drew w6) := (Below.refl _ _).drew
    replace HH := hide (HH.out.new hD)
    clear hD
    refine wp_region_held_drew (S := fun u => RowIs u w.heap.size 48 [.int .i64 fk, .int .i64 fl, .int .i64 id, .string b]) (by kernel_rfl) HH.out.r (fun hS => ?_)
    generalize World.drew w6 = v1 at *
    refine wpAnyH_take (i := 0) (v := ?_) rfl (by kernel_rfl) (by kernel_rfl) (by kernel_rfl) (fun _ _ _ h => h) (Or.inl ⟨by rfl, ?_⟩) hS ?_; rotate_left; focus (intro w hw; clear hw; go_simp; try with_reducible rfl)
    refine wpAnyH_take (i := 1) (v := ?_) rfl (by kernel_rfl) (by kernel_rfl) (by kernel_rfl) (fun _ _ _ h => h) (Or.inl ⟨by rfl, ?_⟩) hS ?_; rotate_left; focus (intro w hw; clear hw; go_simp; try with_reducible rfl)
    refine wpAnyH_take (i := 3) (v := ?_) rfl (by kernel_rfl) (by kernel_rfl) (by kernel_rfl) (fun _ _ _ h => h) (Or.inl ⟨by rfl, ?_⟩) hS ?_; rotate_left; focus (intro w hw; clear hw; go_simp; try with_reducible rfl)
    refine wpAnyH_take (i := 4) (v := ?_) rfl (by kernel_rfl) (by kernel_rfl) (by kernel_rfl) (fun _ _ _ h => h) (Or.inl ⟨by rfl, ?_⟩) hS ?_; rotate_left; focus (intro w hw; clear hw; go_simp; try with_reducible rfl)
    refine wpAnyH_take (i := 5) (v := .int .i64 id) rfl (by kernel_rfl) (by kernel_rfl) (by kernel_rfl) (fun _ _ _ h => h) (Or.inl ⟨by kernel_rfl, ?ld⟩) hS ?_; case ld => (intro uu hu; have z2 := RowIs.cell (j := 2) hu rfl; have z8 := hu.lt; clear hu; go_simp)
    refine wpAnyH_ready (rs := [2]) (by kernel_rfl) (by simp) ?_; refine AllReadyH.cons rfl (fun K hK => ?_) AllReadyH.nil; go_simp
    refine (HH.out.grant 0 n 33554430 HM.out (by omega) h0 h1 (.inl rfl)).mono ?_
    rintro x v2 ⟨vg, rfl, hh2, ho2, hv2, _⟩
    have HO2 := hide ho2; have HV2 := hide hv2
    have hlv1 := HH.out.lt
    have HQ : Hid (∀ q, vg.ownBlock = some q → w.heap.size < q) := fun q hq => Nat.lt_of_lt_of_le hlv1 (hv2 q hq).1
    clear hlv1
    replace HH := hide hh2
    have HM2 := hide (HM.out.grant (id := 0) h0)
    refine hK.out _ _ HH.out.r (fun hS => ?_)
    clear hK K ho2 hv2 hh2
    try simp only [Act.put, List.getElem_toArray, List.getElem_cons_succ, List.getElem_cons_zero, List.setIfInBounds_toArray, List.set_cons_zero, List.set_cons_succ]
    refine wpAnyH_ready (rs := [6]) (by kernel_rfl) (by simp) ?_; refine AllReadyH.cons rfl (fun K hK => ?_) AllReadyH.nil; go_simp
    refine (HH.out.break id 2 _ HM2.out (by decide) (by decide)).mono ?_
    rintro x v3 ⟨bz, rfl, hh3, ht3, hn3⟩
    have HO3 := hide (frames_turn HO2.out ht3 (fun q hq => (HV2.out q hq).2.2.2))
    have HV3 : Hid (∀ q, vg.ownBlock = some q → w.heap.size ≤ q ∧ q ∉ g :: bz) := fun q hq => ⟨(HV2.out q hq).2.2.1, fun hx => by
      rcases List.mem_cons.1 hx with e | e
      · exact (HV2.out q hq).2.2.2 (by simp [e])
      · rcases hn3 q e with e | e
        · exact (HV2.out q hq).2.2.2 (by simp [e])
        · have := (HV2.out q hq).2.1; omega⟩
    replace HH := hide hh3
    refine hK.out _ _ HH.out.r (fun hS => ?_)
    clear hK K ht3 hn3 hh3 HO2 HV2 HM2
    try simp only [Act.put, List.getElem_toArray, List.getElem_cons_succ, List.getElem_cons_zero, List.setIfInBounds_toArray, List.set_cons_zero, List.set_cons_succ]
    obtain ⟨B, hB⟩ : ∃ B, (breakD (grantD d2 0 n).1 id 2).2 = B := ⟨_, rfl⟩
    rw [hB] at HW
    rw [hB]
    dsimp only [frv]
    clear hB
    refine wpAnyH_ready (rs := [7]) (by kernel_rfl) (by simp) ?_; refine AllReadyH.cons rfl (fun K hK => ?_) AllReadyH.nil; go_simp
    have hb4 : Below v3.heap.size v3 (v3.alloc (.cells #[.int .i64 B.k, .int .i64 B.fl, .int .i64 B.st, .string B.b] 48)) := (Below.refl _ _).alloc (Nat.le_refl _) _
    have HRD := hide (reads_of_owns (frw_one v3 B))
    replace HH := hide (HH.out.new hb4)
    replace HO3 := hide (owns_new HO3.out hb4)
    refine hK.out _ _ HH.out.r (fun hS => ?_)
    clear hK K hb4
    try simp only [Act.put, List.getElem_toArray, List.getElem_cons_succ, List.getElem_cons_zero, List.setIfInBounds_toArray, List.set_cons_zero, List.set_cons_succ]
    generalize hv4 : v3.alloc (.cells #[.int .i64 B.k, .int .i64 B.fl, .int .i64 B.st, .string B.b] 48) = v4 at *
    clear hv4
    have hgl2 := grant_short d2 0 n
    have hz4 := Nat.le_of_lt HH.out.lt
    refine wpAnyH_ready (rs := [8]) (by kernel_rfl) (by simp) ?_
    refine AllReadyH.cons rfl (fun K hK => ?_) AllReadyH.nil
    refine step_app _ (by rfl) _ _ 44 (by rfl) 48 (.agg #[.int .i64 0, .int .i64 0, .int .i64 0, .string ⟨#[]⟩]) 4 40 Tryz.underlying44 (by kernel_rfl) rfl (by decide) w.heap.size _ (grantD d2 0 n).2.length (fr (grantD d2 0 n).2) (by rfl) HO3.out _ 1 (fr [B]) (by rfl) HRD.out (fr_one _) (by omega) (by decide) hz4 ?_
    intro ad8 cp8 v5 hown8 hg8 hat8
    have HFIN := hide (StepC.appended (L := (grantD d2 0 n).2) (M := [B]) HH.out.c HH.out.t HH.out.n HV3.out hown8 hg8 (hat8.imp (fun h => h) (fun h => h.trans (by simp))))
    have hr5 := HH.out.r.kept (hg8.block _ HH.out.r.lt (fun e => by have := HQ.out _ e.symm; omega))
    refine hK.out _ _ hr5 (fun hS => ?_)
    clear hK K hown8 hg8 hat8 hr5 HO3 HRD
    try simp only [Act.put, List.getElem_toArray, List.getElem_cons_succ, List.getElem_cons_zero, List.setIfInBounds_toArray, List.set_cons_zero, List.set_cons_succ]
    refine wpAnyH_take (i := 9) (v := ?_) rfl (by kernel_rfl) (by kernel_rfl) (by kernel_rfl) (fun _ _ _ h => h) (Or.inl ⟨by rfl, ?_⟩) hS ?_; rotate_left; focus (intro w hw; clear hw; go_simp; try with_reducible rfl)
    try simp only [Act.put, List.getElem_toArray, List.getElem_cons_succ, List.getElem_cons_zero, List.setIfInBounds_toArray, List.set_cons_zero, List.set_cons_succ]
    refine wpAnyH_done (by kernel_rfl) ?_ _
    go_wp2_with fail
    go_ret
    rw [HW.out]
    exact HFIN.out
  rw [in_yesR hfk.1 hroom] at hin
  rw [if_neg (by rw [HRM.out, hroom]; decide)] at HW0
  try dsimp only at HW0
  obtain ⟨d3, hd3⟩ : ∃ x, atFl d2 id (putUp p fin) = x := ⟨_, rfl⟩
  have hd3' : ({ d2 with flows := d2.flows.set k (putUp p fin d2.flows[k]) } : CnD) = d3 := by rw [← hd3, atFl_at hat2 hkf2]
  rw [hd3] at HW0
  refine hin.mono ?_; clear hin
  rintro x w6 ⟨rfl, hm6, ht6⟩
  have hpu := okPp_true (okTu_true hfk.1).1
  have hrl : (p.size : Int) ≤ f.tun.up.r - f.tun.up.b.size := by
    simp only [Bool.and_eq_true, decide_eq_true_eq] at hroom
    exact hroom.2
  try dsimp only
  have hc6 := HPUT.out w6 ⟨⟨f.tun.up.r, f.tun.up.b ++ p, fin, f.tun.up.k⟩, f.tun.dn, f.tun.went, f.tun.came⟩ (by show (f.tun.up.b ++ p).size ≤ _; rw [ByteArray.size_append]; omega) s2 hm6 (turnB_of ht6)
  have he6 : ({ d2 with flows := d2.flows.set k { d2.flows[k] with tun := ⟨⟨f.tun.up.r, f.tun.up.b ++ p, fin, f.tun.up.k⟩, f.tun.dn, f.tun.went, f.tun.came⟩ } } : CnD) = d3 := by
    rw [← hd3']
    congr 2
    unfold putUp
    rw [hfl2]
  rw [he6] at hc6
  replace HH := hide (HH.out.turn hc6 ((turnB_of ht6).wide (fun x hx => by simp at hx; subst hx; simp [hgm])) (NewB.refl _ _))
  have HM : Hid (Mild d3 33554430) := by show Mild _ _; rw [← hd3']; exact HM3.out.setFlow k _ (by unfold putUp; rw [hfl2]; dsimp only; omega)
  have HATD : Hid (atE d3.reg.es id = some k) := by show _ = _; rw [← hd3']; exact hat2
  have hws3 : IntKind.i64.wrap (n - (p.size : Int)) = n - (p.size : Int) := by rw [IntKind.wrap_i64]; omega
  clear hc6 ht6 hm6 he6 HMID HPUT HM3 r1 rl xl hroom hrl hpu hd3 hd3'
  cases fin
  · rw [if_neg (by decide)] at HW0
    have r2 := HH.out.r.cell (j := 2) rfl
    have rl := HH.out.r.lt
    dsimp only at r2
    go_wp2_with fail
    refine (HH.out.grant id (n - (p.size : Int)) 33554430 HM.out (by decide) (by omega) (by omega) (.inr ⟨k, HATD.out⟩)).mono ?_
    rintro x u2 ⟨vg, rfl, hh2, ho2, hv2, _⟩
    have HO2 := hide ho2; have HV2 := hide hv2
    have hlv1 := HH.out.lt
    replace HH := hide hh2
    have HM2 := hide (HM.out.grant (id := id) (n := n - (p.size : Int)) (by omega))
    obtain ⟨af, pf, hvf, _, _⟩ := owns_form HO2.out
    subst hvf
    clear ho2 hv2 hh2 r2 rl
    go_wp2_with fail
    refine (HH.out.grant 0 (n - (p.size : Int)) _ HM2.out (by omega) (by omega) (by omega) (.inl rfl)).mono ?_
    rintro x u3 ⟨vh, rfl, hh3, ho3, hv3, ht3⟩
    have ho2 := frames_turn HO2.out ht3 (fun q hq => (HV2.out q hq).2.2.2)
    replace HH := hide hh3
    obtain ⟨ah, ph, hvh, _, _⟩ := owns_form ho3
    subst hvh
    have hrd := reads_of_owns ho3
    have hgl2 := grant_short d3 id (n - (p.size : Int))
    have hgl3 := grant_short (grantD d3 id (n - (p.size : Int))).1 0 (n - (p.size : Int))
    have hz4 := Nat.le_of_lt HH.out.lt
    clear hh3 hv3 ht3 HO2 HM2
    go_wp2_with (at_builtin; go_must (refine wpList_app _ (by rfl) _ _ 44 (by rfl) 48 (.agg #[.int .i64 0, .int .i64 0, .int .i64 0, .string ⟨#[]⟩]) 4 40 Tryz.underlying44 (by kernel_rfl) rfl (by decide) w.heap.size _ (grantD d3 id (n - (p.size : Int))).2.length (fr (grantD d3 id (n - (p.size : Int))).2) (by rfl) ho2 _ (grantD (grantD d3 id (n - (p.size : Int))).1 0 (n - (p.size : Int))).2.length (fr (grantD (grantD d3 id (n - (p.size : Int))).1 0 (n - (p.size : Int))).2) (by rfl) hrd (fr_one _) (by omega) (by decide) hz4 ?_))
    intro ad8 cp8 v5 hown8 hg8 hat8
    have HFIN := hide (StepC.appended (L := (grantD d3 id (n - (p.size : Int))).2) (M := (grantD (grantD d3 id (n - (p.size : Int))).1 0 (n - (p.size : Int))).2) HH.out.c HH.out.t HH.out.n (fun q hq => ⟨(HV2.out q hq).2.2.1, (HV2.out q hq).2.2.2⟩) hown8 hg8 (hat8.imp (fun h => h) (fun h => h.trans (by simp))))
    clear hown8 hg8 hat8 ho3 ho2 hrd
    go_wp2_with fail
    go_ret
    rw [HW0.out]
    exact HFIN.out
  rw [if_pos rfl] at HW0
  go_upto_region 22 with fail
  have hD : Below w6.heap.size w6 (World.drew w6) := (Below.refl _ _).drew
  replace HH := hide (HH.out.new hD)
  clear hD
  refine wp_region_held_drew (S := fun u => RowIs u w.heap.size 48 [.int .i64 fk, .int .i64 fl, .int .i64 id, .string b]) (by kernel_rfl) HH.out.r (fun hS => ?_)
  generalize World.drew w6 = v1 at *
  refine wpAnyH_take (i := 0) (v := ?_) rfl (by kernel_rfl) (by kernel_rfl) (by kernel_rfl) (fun _ _ _ h => h) (Or.inl ⟨by rfl, ?_⟩) hS ?_; rotate_left; focus (intro w hw; clear hw; go_simp; try with_reducible rfl)
  refine wpAnyH_take (i := 1) (v := ?_) rfl (by kernel_rfl) (by kernel_rfl) (by kernel_rfl) (fun _ _ _ h => h) (Or.inl ⟨by rfl, ?_⟩) hS ?_; rotate_left; focus (intro w hw; clear hw; go_simp; try with_reducible rfl)
  refine wpAnyH_take (i := 2) (v := ?_) rfl (by kernel_rfl) (by kernel_rfl) (by kernel_rfl) (fun _ _ _ h => h) (Or.inl ⟨by rfl, ?_⟩) hS ?_; rotate_left; focus (intro w hw; clear hw; go_simp; try with_reducible rfl)
  refine wpAnyH_take (i := 3) (v := ?_) rfl (by kernel_rfl) (by kernel_rfl) (by kernel_rfl) (fun _ _ _ h => h) (Or.inl ⟨by rfl, ?_⟩) hS ?_; rotate_left; focus (intro w hw; clear hw; go_simp; try with_reducible rfl)
  refine wpAnyH_take (i := 4) (v := .int .i64 id) rfl (by kernel_rfl) (by kernel_rfl) (by kernel_rfl) (fun _ _ _ h => h) (Or.inl ⟨by kernel_rfl, ?ld⟩) hS ?_; case ld => (intro uu hu; have z2 := RowIs.cell (j := 2) hu rfl; have z8 := hu.lt; clear hu; go_simp)
  refine wpAnyH_ready (rs := [5]) (by kernel_rfl) (by simp) ?_; refine AllReadyH.cons rfl (fun K hK => ?_) AllReadyH.nil; go_simp
  refine (HH.out.hap id 2).mono ?_
  rintro x v2 ⟨bz, rfl, hh2⟩
  replace HH := hide hh2
  replace HM := hide (HM.out.hap id 2)
  replace HATD : Hid (∃ j, atE (hapD d3 id 2).reg.es id = some j) := hap_atE HATD.out
  refine hK.out _ _ HH.out.r (fun hS => ?_)
  clear hK K hh2
  try simp only [Act.put, List.getElem_toArray, List.getElem_cons_succ, List.getElem_cons_zero, List.setIfInBounds_toArray, List.set_cons_zero, List.set_cons_succ]
  refine wpAnyH_done (by kernel_rfl) ?_ _
  generalize hapD d3 id 2 = d4 at *
  have r2 := HH.out.r.cell (j := 2) rfl
  have rl := HH.out.r.lt
  dsimp only at r2
  go_wp2_with fail
  refine (HH.out.grant id (n - (p.size : Int)) 33554430 HM.out (by decide) (by omega) (by omega) (.inr HATD.out)).mono ?_
  rintro x u2 ⟨vg, rfl, hh2, ho2, hv2, _⟩
  have HO2 := hide ho2; have HV2 := hide hv2
  have hlv1 := HH.out.lt
  replace HH := hide hh2
  have HM2 := hide (HM.out.grant (id := id) (n := n - (p.size : Int)) (by omega))
  obtain ⟨af, pf, hvf, _, _⟩ := owns_form HO2.out
  subst hvf
  clear ho2 hv2 hh2 r2 rl
  go_wp2_with fail
  refine (HH.out.grant 0 (n - (p.size : Int)) _ HM2.out (by omega) (by omega) (by omega) (.inl rfl)).mono ?_
  rintro x u3 ⟨vh, rfl, hh3, ho3, hv3, ht3⟩
  have ho2 := frames_turn HO2.out ht3 (fun q hq => (HV2.out q hq).2.2.2)
  replace HH := hide hh3
  obtain ⟨ah, ph, hvh, _, _⟩ := owns_form ho3
  subst hvh
  have hrd := reads_of_owns ho3
  have hgl2 := grant_short d4 id (n - (p.size : Int))
  have hgl3 := grant_short (grantD d4 id (n - (p.size : Int))).1 0 (n - (p.size : Int))
  have hz4 := Nat.le_of_lt HH.out.lt
  clear hh3 hv3 ht3 HO2 HM2
  go_wp2_with (at_builtin; go_must (refine wpList_app _ (by rfl) _ _ 44 (by rfl) 48 (.agg #[.int .i64 0, .int .i64 0, .int .i64 0, .string ⟨#[]⟩]) 4 40 Tryz.underlying44 (by kernel_rfl) rfl (by decide) w.heap.size _ (grantD d4 id (n - (p.size : Int))).2.length (fr (grantD d4 id (n - (p.size : Int))).2) (by rfl) ho2 _ (grantD (grantD d4 id (n - (p.size : Int))).1 0 (n - (p.size : Int))).2.length (fr (grantD (grantD d4 id (n - (p.size : Int))).1 0 (n - (p.size : Int))).2) (by rfl) hrd (fr_one _) (by omega) (by decide) hz4 ?_))
  intro ad8 cp8 v5 hown8 hg8 hat8
  have HFIN := hide (StepC.appended (L := (grantD d4 id (n - (p.size : Int))).2) (M := (grantD (grantD d4 id (n - (p.size : Int))).1 0 (n - (p.size : Int))).2) HH.out.c HH.out.t HH.out.n (fun q hq => ⟨(HV2.out q hq).2.2.1, (HV2.out q hq).2.2.2⟩) hown8 hg8 (hat8.imp (fun h => h) (fun h => h.trans (by simp))))
  clear hown8 hg8 hat8 ho3 ho2 hrd
  go_wp2_with fail
  go_ret
  rw [HW0.out]
  exact HFIN.out
end Go.Proofs.YtllaeakeaabiaaaGreat
/- The OutTable of a Conn in place, and the Conn behind a change of it. -/
namespace Go.Proofs.YtllaeakeaabiaaaGreat
open Go.RowKit
set_option maxRecDepth 100000
set_option linter.unusedSimpArgs false
set_option linter.unusedVariables false
theorem CnM.outTab {w : World} {g : Nat} {d : CnD} {bs : List Nat} (h : CnM w g d bs) :
    ∃ (A C : List Value) (bo : List Nat), TabM w g 43 A C 5 (fun k => k ∈ bo ∨ w.heap.size ≤ k) d.outr d.outT ∧ (∀ x ∈ bo, x ∈ bs) ∧ (∀ f ∈ d.outT, f.fine) ∧
      ∀ w' T', TabM w' g 43 A C 5 (fun k => k ∈ bo ∨ w.heap.size ≤ k) d.outr T' → (∀ f ∈ T', f.fine) → TurnB [g] w w' → ∃ bs', CnM w' g { d with outT := T' } bs' ∧ NewB w bs bs' := by
  obtain ⟨⟨ve, vi, vo, vf, hrow, ⟨be, bi, bo, bf, h1, h2, h3, h4, rfl⟩, hn⟩, hng⟩ := h
  have hfin := rd_fine h3.rd
  obtain ⟨ho, rfl⟩ := owr_fv h3
  obtain ⟨ao, po, hvo, _, _⟩ := owns_form ho
  subst hvo
  have hmem : ∀ (v : Value) x, x ∈ v.ownBlock.toList → v.ownBlock = some x := fun v x hx => by cases hv : v.ownBlock <;> simp [hv] at hx ⊢; exact hx.symm
  refine ⟨[.int .i64 d.reg.lim, .int .i64 d.reg.top, ve, .int .i64 d.inr, vi], [.int .i64 d.get, .int .i64 d.give, .int .i64 d.first, vf, .bool d.away, .bool d.dead], (Value.slice ao d.outT.length po).ownBlock.toList, ⟨ao, po, ⟨hrow, rfl⟩, ho, fun e => hng (by simp [e]), fun k hk => .inl (by simp [hk])⟩, fun x hx => by simp only [List.mem_append]; exact .inl (.inr hx), hfin, fun w' T' ht hf' hT => ?_⟩
  obtain ⟨a', p', hm', ho', hne', hok'⟩ := ht.ex
  have hlt : ∀ x ∈ be ++ bi ++ bf, x < w.heap.size := fun x hx => by
    simp only [List.mem_append] at hx
    rcases hx with (hx | hx) | hx
    · exact h1.lt x hx
    · exact h2.lt x hx
    · exact h4.lt x hx
  have hgn : ∀ x ∈ be ++ bi ++ bf, x ≠ g := fun x hx e => hng (by
    rw [← e]
    simp only [List.mem_append] at hx ⊢
    rcases hx with (hx | hx) | hx
    · exact .inl (.inl (.inl hx))
    · exact .inl (.inl (.inr hx))
    · exact .inr hx)
  have hk : ∀ x ∈ be ++ bi ++ bf, w'.heap[x]? = w.heap[x]? := fun x hx => hT.block x (hlt x hx) (by simpa using hgn x hx)
  have hn' : (be ++ bi ++ bf).Nodup := by
    have : List.Sublist (be ++ bi ++ bf) (be ++ bi ++ (Value.slice ao d.outT.length po).ownBlock.toList ++ bf) := by
      rw [List.append_assoc (be ++ bi)]
      exact (List.Sublist.refl (be ++ bi)).append (List.sublist_append_right _ _)
    exact this.nodup hn
  have hdis : ∀ x ∈ be ++ bi ++ bf, x ∉ (Value.slice ao d.outT.length po).ownBlock.toList := fun x hx hx2 => by
    have hn1 := nodup_left hn
    simp only [List.mem_append] at hx
    rcases hx with hx | hx
    · exact nodup_apart hn1 x (List.mem_append.2 hx) hx2
    · exact nodup_apart hn x (List.mem_append_right _ hx2) hx
  have hdis2 : ∀ x ∈ be ++ bi ++ bf, x ∉ (Value.slice a' T'.length p').ownBlock.toList := fun x hx hx2 => by
    rcases hok' x (hmem _ x hx2) with e | e
    · exact hdis x hx e
    · have := hlt x hx; omega
  refine ⟨be ++ bi ++ (Value.slice a' T'.length p').ownBlock.toList ++ bf, ⟨⟨ve, vi, .slice a' T'.length p', vf, hm'.row, ⟨be, bi, (Value.slice a' T'.length p').ownBlock.toList, bf, h1.keep hT.size (fun x hx => hk x (by simp [hx])), h2.keep hT.size (fun x hx => hk x (by simp [hx])), fv_owr ho' hf', h4.keep hT.size (fun x hx => hk x (by simp [hx])), rfl⟩, ?_⟩, ?_⟩, ?_⟩
  · refine nodup_mk (nodup_mk (nodup_left hn') (opt_nodup _) fun x hx hx2 => hdis2 x (List.mem_append_left _ hx) hx2) (nodup_right hn') fun x hx hx2 => ?_
    rcases List.mem_append.1 hx with e | e
    · exact nodup_apart hn' x e hx2
    · exact hdis2 x (List.mem_append_right _ hx2) e
  · intro hx
    simp only [List.mem_append] at hx hng
    rcases hx with ((hx | hx) | hx) | hx
    · exact hng (.inl (.inl (.inl hx)))
    · exact hng (.inl (.inl (.inr hx)))
    · exact hne' (hmem _ g hx)
    · exact hng (.inr hx)
  · intro x hx
    simp only [List.mem_append] at hx ⊢
    rcases hx with ((hx | hx) | hx) | hx
    · exact .inl (.inl (.inl (.inl hx)))
    · exact .inl (.inl (.inl (.inr hx)))
    · rcases hok' x (hmem _ x hx) with e | e
      · exact .inl (.inl (.inr e))
      · exact .inr e
    · exact .inl (.inr hx)
/-- The k-th Flow's Down is ended, in place. -/
theorem CnM.flEndDn {w : World} {g : Nat} {d : CnD} {bs : List Nat} (h : CnM w g d bs) (k : Nat) (hk : k < d.flows.length) :
    ∃ gf ve vi vo cap, RowIs w g 43 (cncs d ve vi vo (.slice (some ⟨gf, 0, none⟩) d.flows.length cap)) ∧ gf ∈ bs ∧ gf < w.heap.size ∧ g ≠ gf ∧ w.cell? ⟨gf, k * 15 + 10, none⟩ = some (.bool d.flows[k].tun.dn.e) ∧ w.frozen? ⟨gf, k * 15 + 10, none⟩ = false ∧
      CnM (w.setCell ⟨gf, k * 15 + 10, none⟩ (.bool true)) g { d with flows := d.flows.set k (endDn d.flows[k]) } bs ∧ TurnB (g :: bs) w (w.setCell ⟨gf, k * 15 + 10, none⟩ (.bool true)) := by
  obtain ⟨gf, A, C, ve, vi, vo, cap, v0, hrow, hgm, hgfl, hgg, hmid, s1, s2, _, hput⟩ := h.flw k hk
  refine ⟨gf, ve, vi, vo, cap, hrow, hgm, hgfl, hgg, MidIs.cell (j := 10) hmid rfl, MidIs.frozen hmid _, ?_, (TurnB.refl _ _).set _ _ (by simp [hgm])⟩
  have hm2 := MidIs.set hmid 10 (.bool true) (by simp)
  exact hput _ (endDn d.flows[k]) rfl s1 s2 hm2 ((TurnB.refl _ _).set _ _ (by simp))
end Go.Proofs.YtllaeakeaabiaaaGreat
/- The program's copy of a Conn; its link. -/
namespace Go.Proofs.YtllaeakeaabiaaaGreat
open Go.RowKit
set_option maxRecDepth 100000
set_option linter.unusedSimpArgs false
set_option linter.unusedVariables false
theorem OwX.keepB {D : Type} {E : Shp D} {w w' : World} {lo hi g : Nat} {v : Value} {L : List D} (h : OwX E w lo hi v L) (ht : TurnB [g] w w') (hg : hi ≤ g ∨ g < lo) : OwX E w' lo hi v L := by
  obtain ⟨bs, h1, h2, h3⟩ := h
  exact ⟨bs, h1.keep ht.size (fun b hb => ht.block b (h1.lt b hb) (by have := h3 b hb; simp; omega)), h2, h3⟩
theorem below_turnB {B : Nat} {a b c : World} {g : Nat} (h : Below B a b) (ht : TurnB [g] b c) (hg : B ≤ g) (hB : B ≤ b.heap.size) : Below B a c :=
  ⟨ht.os.trans h.os, ht.tape.trans h.tape, ht.output.trans h.output, Nat.le_trans h.size ht.size, fun k hk => (ht.block k (by omega) (by simp; omega)).trans (h.block k hk)⟩
theorem own_same {room : Int} {L : List Fd} (h : okT room L = true) : resizedD room L room = ((room, L), true) := by
  have hp := okT_parts h
  unfold resizedD
  rw [if_pos h, if_pos (inB_of hp.1 hp.2.1), shr_stop (by have := hp.2.2.2.1; omega)]
set_option maxHeartbeats 16000000 in
theorem implConnApart (d : CnD) (ve vi vo vf : Value) (w : World) (hv : CnRd w d ve vi vo vf) (hok : okCn d = true) :
    Calls Tryz.prog 70 #[cnv d ve vi vo vf] w fun x w' => ∃ v', x = .returned v' ∧ NewC w.heap.size d v' w' ∧ Below w.heap.size w w' := by
  have hiff := okCn_iff.1 hok
  have h60 := (cn_len hok).2
  have hF60 : d.flows.length ≤ 60 := by have := (cn_len hok).1; omega
  have HFO : Hid (∀ f ∈ d.flows, okFs f.fds = true ∧ okTu f.tun = true) := fun f hf => ⟨(cn_flow hok hf).2.2.2, (cn_flow hok hf).2.2.1⟩
  have HTI := hide (own_same hiff.2.1)
  have HTO := hide (own_same hiff.2.2.1)
  obtain ⟨hv1, hv2, hv3, hv4⟩ := hv
  obtain ⟨ae, pe, rfl, e1, e2⟩ := hv1.form
  obtain ⟨ai, pi, rfl, i1, i2⟩ := hv2.form
  obtain ⟨ao, po, rfl, o1, o2⟩ := hv3.form
  obtain ⟨af, pf, rfl, f1, f2⟩ := hv4.form
  obtain ⟨⟨rl, rt, es⟩, ir, it, orr, ot, gt, gv, fs, fl, aw, de⟩ := d
  dsimp only [cnv] at *
  have HV1 := hide hv1; have HV2 := hide hv2; have HV3 := hide hv3; have HV4 := hide hv4
  clear hok hv1 hv2 hv3 hv4 hiff
  have hbA : Below w.heap.size w ((w.alloc (.cells #[.int .i64 rl, .int .i64 rt, .slice ae es.length pe, .int .i64 ir, .slice ai it.length pi, .int .i64 orr, .slice ao ot.length po, .int .i64 gt, .int .i64 gv, .int .i64 fs, .slice af fl.length pf, .bool aw, .bool de] 43)).alloc (.cells #[.int .i64 0, .int .i64 0, .slice none 0 0, .int .i64 0, .slice none 0 0, .int .i64 0, .slice none 0 0, .int .i64 0, .int .i64 0, .int .i64 0, .slice none 0 0, .bool false, .bool false] 43)) := ((Below.refl _ _).alloc (Nat.le_refl _) _).alloc (by simp) _
  have RA := (rowIs_new w 43 [.int .i64 rl, .int .i64 rt, .slice ae es.length pe, .int .i64 ir, .slice ai it.length pi, .int .i64 orr, .slice ao ot.length po, .int .i64 gt, .int .i64 gv, .int .i64 fs, .slice af fl.length pf, .bool aw, .bool de]).alloc (.cells #[.int .i64 0, .int .i64 0, .slice none 0 0, .int .i64 0, .slice none 0 0, .int .i64 0, .slice none 0 0, .int .i64 0, .int .i64 0, .int .i64 0, .slice none 0 0, .bool false, .bool false] 43)
  have RZ := rowIs_new (w.alloc (.cells #[.int .i64 rl, .int .i64 rt, .slice ae es.length pe, .int .i64 ir, .slice ai it.length pi, .int .i64 orr, .slice ao ot.length po, .int .i64 gt, .int .i64 gv, .int .i64 fs, .slice af fl.length pf, .bool aw, .bool de] 43)) 43 [.int .i64 0, .int .i64 0, .slice none 0 0, .int .i64 0, .slice none 0 0, .int .i64 0, .slice none 0 0, .int .i64 0, .int .i64 0, .int .i64 0, .slice none 0 0, .bool false, .bool false]
  have hsz : (w.alloc (.cells #[.int .i64 rl, .int .i64 rt, .slice ae es.length pe, .int .i64 ir, .slice ai it.length pi, .int .i64 orr, .slice ao ot.length po, .int .i64 gt, .int .i64 gv, .int .i64 fs, .slice af fl.length pf, .bool aw, .bool de] 43)).heap.size = w.heap.size + 1 := by simp
  have hs2 : ((w.alloc (.cells #[.int .i64 rl, .int .i64 rt, .slice ae es.length pe, .int .i64 ir, .slice ai it.length pi, .int .i64 orr, .slice ao ot.length po, .int .i64 gt, .int .i64 gv, .int .i64 fs, .slice af fl.length pf, .bool aw, .bool de] 43)).alloc (.cells #[.int .i64 0, .int .i64 0, .slice none 0 0, .int .i64 0, .slice none 0 0, .int .i64 0, .slice none 0 0, .int .i64 0, .int .i64 0, .int .i64 0, .slice none 0 0, .bool false, .bool false] 43)).heap.size = w.heap.size + 2 := by simp
  rw [hsz] at RZ
  obtain ⟨W1, hV⟩ : ∃ V, (w.alloc (.cells #[.int .i64 rl, .int .i64 rt, .slice ae es.length pe, .int .i64 ir, .slice ai it.length pi, .int .i64 orr, .slice ao ot.length po, .int .i64 gt, .int .i64 gv, .int .i64 fs, .slice af fl.length pf, .bool aw, .bool de] 43)).alloc (.cells #[.int .i64 0, .int .i64 0, .slice none 0 0, .int .i64 0, .slice none 0 0, .int .i64 0, .slice none 0 0, .int .i64 0, .int .i64 0, .int .i64 0, .slice none 0 0, .bool false, .bool false] 43) = V := ⟨_, rfl⟩
  rw [hV] at hbA RA RZ hs2
  have HB := hide hbA
  have hlo : w.heap.size + 2 ≤ W1.heap.size := by omega
  clear hsz hs2 hbA
  go_enter Tryz.func70, Tryz.ntmps70
  go_upto_region 1 with fail
  try rw [hV]
  clear hV
  have a0 := RowIs.cell (j := 0) RA rfl
  have a1 := RowIs.cell (j := 1) RA rfl
  have a2 := RowIs.cell (j := 2) RA rfl
  go_wp2_with fail
  refine (implApart ⟨rl, rt, es⟩ (.slice ae es.length pe) _ (HV1.out.new HB.out) h60).mono ?_; rintro e w2 ⟨vE, rfl, ho, hb⟩
  obtain ⟨ae2, pe2, rfl, qE1, qE2⟩ := owns_form ho
  replace RA := RA.new hb
  replace RZ := RZ.new hb
  replace HB := hide (bchain HB.out hb)
  have hOE := ev_ow (owns_base (base' := (w.heap.size + 2)) ho (fun q hq => by have := (owns_lt ho q hq).1; omega))
  have HE := hide hOE
  have hzw2 := hb.size
  clear ho hb hOE a0 a1 a2
  have a0 := RowIs.cell (j := 0) RA rfl
  have a1 := RowIs.cell (j := 1) RA rfl
  have a2 := RowIs.cell (j := 2) RA rfl
  have hfz := fun j => RowIs.frozen RA j
  have al := RA.lt
  go_upto_region 2 with fail
  have hsv : (((w2.setCell ⟨w.heap.size, 0, none⟩ (.int .i64 rl)).setCell ⟨w.heap.size, 1, none⟩ (.int .i64 rt)).setCell ⟨w.heap.size, 2, none⟩ (.slice ae2 es.length pe2)).heap.size = w2.heap.size := by simp
  have NRA : RowIs (((w2.setCell ⟨w.heap.size, 0, none⟩ (.int .i64 rl)).setCell ⟨w.heap.size, 1, none⟩ (.int .i64 rt)).setCell ⟨w.heap.size, 2, none⟩ (.slice ae2 es.length pe2)) w.heap.size 43 [.int .i64 rl, .int .i64 rt, .slice ae2 es.length pe2, .int .i64 ir, .slice ai it.length pi, .int .i64 orr, .slice ao ot.length po, .int .i64 gt, .int .i64 gv, .int .i64 fs, .slice af fl.length pf, .bool aw, .bool de] := (((RA.set 0 (.int .i64 rl)).set 1 (.int .i64 rt)).set 2 (.slice ae2 es.length pe2))
  have NRZ := (((RZ.far ⟨w.heap.size, 0, none⟩ (.int .i64 rl) (show w.heap.size ≠ w.heap.size + 1 by omega)).far ⟨w.heap.size, 1, none⟩ (.int .i64 rt) (show w.heap.size ≠ w.heap.size + 1 by omega)).far ⟨w.heap.size, 2, none⟩ (.slice ae2 es.length pe2) (show w.heap.size ≠ w.heap.size + 1 by omega))
  have NHB := hide (((HB.out.setCell (p := ⟨w.heap.size, 0, none⟩) (Nat.le_refl _) (.int .i64 rl)).setCell (p := ⟨w.heap.size, 1, none⟩) (Nat.le_refl _) (.int .i64 rt)).setCell (p := ⟨w.heap.size, 2, none⟩) (Nat.le_refl _) (.slice ae2 es.length pe2))
  have NE := hide (((HE.out.far ⟨w.heap.size, 0, none⟩ (.int .i64 rl) (.inl (show w.heap.size < (w.heap.size + 2) by omega))).far ⟨w.heap.size, 1, none⟩ (.int .i64 rt) (.inl (show w.heap.size < (w.heap.size + 2) by omega))).far ⟨w.heap.size, 2, none⟩ (.slice ae2 es.length pe2) (.inl (show w.heap.size < (w.heap.size + 2) by omega)))
  clear RA RZ HB HE a0 a1 a2 hfz al
  generalize (((w2.setCell ⟨w.heap.size, 0, none⟩ (.int .i64 rl)).setCell ⟨w.heap.size, 1, none⟩ (.int .i64 rt)).setCell ⟨w.heap.size, 2, none⟩ (.slice ae2 es.length pe2)) = W2 at *
  have RA := NRA
  have RZ := NRZ
  have HB := NHB
  obtain ⟨e9, he9⟩ : ∃ n, w2.heap.size = n := ⟨_, rfl⟩
  rw [he9] at NE hsv hzw2
  have HE : Hid (OwX entryS W2 (w.heap.size + 2) e9 (.slice ae2 es.length pe2) es) := NE
  clear NRA NRZ NHB NE he9 
  have hsW2 : e9 ≤ W2.heap.size := by omega
  have hloe9 : (w.heap.size + 2) ≤ e9 := by omega
  clear hsv hzw2
  have a3 := RowIs.cell (j := 3) RA rfl
  have a4 := RowIs.cell (j := 4) RA rfl
  go_wp2_with fail
  refine (implOwn it ir (.slice ai it.length pi) _ (rd_fv (HV2.out.new HB.out)) (rd_fine HV2.out)).mono ?_; rw [HTI.out]; rintro e w3 ⟨vI, rfl, ho, hb⟩
  obtain ⟨ai2, pi2, rfl, qI1, qI2⟩ := owns_form ho
  replace RA := RA.new hb
  replace RZ := RZ.new hb
  replace HB := hide (bchain HB.out hb)
  replace HE := hide (HE.out.new hb)
  have hOI := (fun z => fv_ow z (rd_fine HV2.out)) (owns_base (base' := e9) ho (fun q hq => by have := (owns_lt ho q hq).1; omega))
  have HI := hide hOI
  have hzw3 := hb.size
  clear ho hb hOI a3 a4
  have a3 := RowIs.cell (j := 3) RA rfl
  have a4 := RowIs.cell (j := 4) RA rfl
  have hfz := fun j => RowIs.frozen RA j
  have al := RA.lt
  go_upto_region 3 with fail
  have hsv : ((w3.setCell ⟨w.heap.size, 3, none⟩ (.int .i64 ir)).setCell ⟨w.heap.size, 4, none⟩ (.slice ai2 it.length pi2)).heap.size = w3.heap.size := by simp
  have NRA : RowIs ((w3.setCell ⟨w.heap.size, 3, none⟩ (.int .i64 ir)).setCell ⟨w.heap.size, 4, none⟩ (.slice ai2 it.length pi2)) w.heap.size 43 [.int .i64 rl, .int .i64 rt, .slice ae2 es.length pe2, .int .i64 ir, .slice ai2 it.length pi2, .int .i64 orr, .slice ao ot.length po, .int .i64 gt, .int .i64 gv, .int .i64 fs, .slice af fl.length pf, .bool aw, .bool de] := ((RA.set 3 (.int .i64 ir)).set 4 (.slice ai2 it.length pi2))
  have NRZ := ((RZ.far ⟨w.heap.size, 3, none⟩ (.int .i64 ir) (show w.heap.size ≠ w.heap.size + 1 by omega)).far ⟨w.heap.size, 4, none⟩ (.slice ai2 it.length pi2) (show w.heap.size ≠ w.heap.size + 1 by omega))
  have NHB := hide ((HB.out.setCell (p := ⟨w.heap.size, 3, none⟩) (Nat.le_refl _) (.int .i64 ir)).setCell (p := ⟨w.heap.size, 4, none⟩) (Nat.le_refl _) (.slice ai2 it.length pi2))
  have NI := hide ((HI.out.far ⟨w.heap.size, 3, none⟩ (.int .i64 ir) (.inl (show w.heap.size < e9 by omega))).far ⟨w.heap.size, 4, none⟩ (.slice ai2 it.length pi2) (.inl (show w.heap.size < e9 by omega)))
  have NHE := hide (((HE.out.far ⟨w.heap.size, 3, none⟩ (.int .i64 ir) (.inl (show w.heap.size < w.heap.size + 2 by omega))).far ⟨w.heap.size, 4, none⟩ (.slice ai2 it.length pi2) (.inl (show w.heap.size < w.heap.size + 2 by omega))))
  clear RA RZ HB HI a3 a4 hfz al
  clear HE
  generalize ((w3.setCell ⟨w.heap.size, 3, none⟩ (.int .i64 ir)).setCell ⟨w.heap.size, 4, none⟩ (.slice ai2 it.length pi2)) = W3 at *
  have RA := NRA
  have RZ := NRZ
  have HB := NHB
  obtain ⟨i9, hi9⟩ : ∃ n, w3.heap.size = n := ⟨_, rfl⟩
  rw [hi9] at NI hsv hzw3
  have HI : Hid (OwX fieldS W3 e9 i9 (.slice ai2 it.length pi2) it) := NI
  have HE := NHE
  clear NRA NRZ NHB NI hi9 NHE
  have hsW3 : i9 ≤ W3.heap.size := by omega
  have hloi9 : e9 ≤ i9 := by omega
  clear hsv hzw3
  have a5 := RowIs.cell (j := 5) RA rfl
  have a6 := RowIs.cell (j := 6) RA rfl
  go_wp2_with fail
  refine (implOwn ot orr (.slice ao ot.length po) _ (rd_fv (HV3.out.new HB.out)) (rd_fine HV3.out)).mono ?_; rw [HTO.out]; rintro e w4 ⟨vU, rfl, ho, hb⟩
  obtain ⟨ao2, po2, rfl, qU1, qU2⟩ := owns_form ho
  replace RA := RA.new hb
  replace RZ := RZ.new hb
  replace HB := hide (bchain HB.out hb)
  replace HE := hide (HE.out.new hb)
  replace HI := hide (HI.out.new hb)
  have hOU := (fun z => fv_ow z (rd_fine HV3.out)) (owns_base (base' := i9) ho (fun q hq => by have := (owns_lt ho q hq).1; omega))
  have HU := hide hOU
  have hzw4 := hb.size
  clear ho hb hOU a5 a6
  have a5 := RowIs.cell (j := 5) RA rfl
  have a6 := RowIs.cell (j := 6) RA rfl
  have hfz := fun j => RowIs.frozen RA j
  have al := RA.lt
  go_upto_region 4 with fail
  have hsv : ((w4.setCell ⟨w.heap.size, 5, none⟩ (.int .i64 orr)).setCell ⟨w.heap.size, 6, none⟩ (.slice ao2 ot.length po2)).heap.size = w4.heap.size := by simp
  have NRA : RowIs ((w4.setCell ⟨w.heap.size, 5, none⟩ (.int .i64 orr)).setCell ⟨w.heap.size, 6, none⟩ (.slice ao2 ot.length po2)) w.heap.size 43 [.int .i64 rl, .int .i64 rt, .slice ae2 es.length pe2, .int .i64 ir, .slice ai2 it.length pi2, .int .i64 orr, .slice ao2 ot.length po2, .int .i64 gt, .int .i64 gv, .int .i64 fs, .slice af fl.length pf, .bool aw, .bool de] := ((RA.set 5 (.int .i64 orr)).set 6 (.slice ao2 ot.length po2))
  have NRZ := ((RZ.far ⟨w.heap.size, 5, none⟩ (.int .i64 orr) (show w.heap.size ≠ w.heap.size + 1 by omega)).far ⟨w.heap.size, 6, none⟩ (.slice ao2 ot.length po2) (show w.heap.size ≠ w.heap.size + 1 by omega))
  have NHB := hide ((HB.out.setCell (p := ⟨w.heap.size, 5, none⟩) (Nat.le_refl _) (.int .i64 orr)).setCell (p := ⟨w.heap.size, 6, none⟩) (Nat.le_refl _) (.slice ao2 ot.length po2))
  have NU := hide ((HU.out.far ⟨w.heap.size, 5, none⟩ (.int .i64 orr) (.inl (show w.heap.size < i9 by omega))).far ⟨w.heap.size, 6, none⟩ (.slice ao2 ot.length po2) (.inl (show w.heap.size < i9 by omega)))
  have NHE := hide (((HE.out.far ⟨w.heap.size, 5, none⟩ (.int .i64 orr) (.inl (show w.heap.size < w.heap.size + 2 by omega))).far ⟨w.heap.size, 6, none⟩ (.slice ao2 ot.length po2) (.inl (show w.heap.size < w.heap.size + 2 by omega))))
  have NHI := hide (((HI.out.far ⟨w.heap.size, 5, none⟩ (.int .i64 orr) (.inl (show w.heap.size < e9 by omega))).far ⟨w.heap.size, 6, none⟩ (.slice ao2 ot.length po2) (.inl (show w.heap.size < e9 by omega))))
  clear RA RZ HB HU a5 a6 hfz al
  clear HE
  clear HI
  generalize ((w4.setCell ⟨w.heap.size, 5, none⟩ (.int .i64 orr)).setCell ⟨w.heap.size, 6, none⟩ (.slice ao2 ot.length po2)) = W4 at *
  have RA := NRA
  have RZ := NRZ
  have HB := NHB
  obtain ⟨u9, hu9⟩ : ∃ n, w4.heap.size = n := ⟨_, rfl⟩
  rw [hu9] at NU hsv hzw4
  have HU : Hid (OwX fieldS W4 i9 u9 (.slice ao2 ot.length po2) ot) := NU
  have HE := NHE
  have HI := NHI
  clear NRA NRZ NHB NU hu9 NHE NHI
  have hsW4 : u9 ≤ W4.heap.size := by omega
  have hlou9 : i9 ≤ u9 := by omega
  clear hsv hzw4
  obtain ⟨rs, hrs, hrd, hrr⟩ := HV4.out
  have hrl : fl.length = rs.length := by rw [hrs]; simp
  have hone : ∀ u ∈ rs.flatMap (fun t : List Value × FlD => t.1), u.oneCell' = true := fun u hu => by
    obtain ⟨t, ht, hu⟩ := List.mem_flatMap.1 hu
    exact flowS.rd_one (hrr t ht) u hu
  have HRS := hide hrs; have HRD := hide hrd; have HRR := hide hrr; have HRL := hide hrl; have HONE := hide hone
  clear hrs hrd hrr hrl hone
  have a10 := RowIs.cell (j := 10) RA rfl
  go_wp2_with fail
  refine (implCloneFlow _ fl.length _ _ (by have := (HRD.out.new HB.out); rw [← HRL.out] at this; exact this) HONE.out (by omega)).mono ?_; rintro e w5 ⟨vF, rfl, ho, hb⟩

  obtain ⟨ac, pc, rfl, qF1, qF2⟩ := owns_form ho
  replace RA := RA.new hb
  replace RZ := RZ.new hb
  replace HB := hide (bchain HB.out hb)
  replace HE := hide (HE.out.new hb)
  replace HI := hide (HI.out.new hb)
  replace HU := hide (HU.out.new hb)
  have HO := hide (owns_base (base' := u9) ho (fun q hq => Nat.le_trans hsW4 (owns_lt ho q hq).1))
  have hz5 : u9 ≤ w5.heap.size := Nat.le_trans hsW4 hb.size
  clear ho hb a10
  have a10 := RowIs.cell (j := 10) RA rfl
  have hfz := RowIs.frozen RA 10
  have al := RA.lt
  go_upto_region 5 with fail
  have NRA := hide (show RowIs (w5.setCell ⟨w.heap.size, 10, none⟩ (.slice ac fl.length pc)) w.heap.size 43 [.int .i64 rl, .int .i64 rt, .slice ae2 es.length pe2, .int .i64 ir, .slice ai2 it.length pi2, .int .i64 orr, .slice ao2 ot.length po2, .int .i64 gt, .int .i64 gv, .int .i64 fs, .slice ac fl.length pc, .bool aw, .bool de] from RA.set 10 (.slice ac fl.length pc))
  have NRZ := hide (RZ.far ⟨w.heap.size, 10, none⟩ (.slice ac fl.length pc) (show w.heap.size ≠ w.heap.size + 1 by omega))
  have NHB := hide (HB.out.setCell (p := ⟨w.heap.size, 10, none⟩) (Nat.le_refl _) (.slice ac fl.length pc))
  have NHE := hide (HE.out.far ⟨w.heap.size, 10, none⟩ (.slice ac fl.length pc) (.inl (show w.heap.size < w.heap.size + 2 by omega)))
  have NHI := hide (HI.out.far ⟨w.heap.size, 10, none⟩ (.slice ac fl.length pc) (.inl (show w.heap.size < e9 by omega)))
  have NHU := hide (HU.out.far ⟨w.heap.size, 10, none⟩ (.slice ac fl.length pc) (.inl (show w.heap.size < i9 by omega)))
  have NHO := hide (owns_apart HO.out ⟨w.heap.size, 10, none⟩ (.slice ac fl.length pc) (fun e => by have := (owns_lt HO.out _ e).1; dsimp only at this; omega))
  have hsv : (w5.setCell ⟨w.heap.size, 10, none⟩ (.slice ac fl.length pc)).heap.size = w5.heap.size := by simp
  clear RA RZ HB HE HI HU HO a10 hfz al
  generalize w5.setCell ⟨w.heap.size, 10, none⟩ (.slice ac fl.length pc) = W5 at *
  obtain ⟨g9, hg9⟩ : ∃ n, W5.heap.size = n := ⟨_, rfl⟩
  have hug : u9 ≤ g9 := by omega
  have HVB : Hid (∀ q, (Value.slice ac fl.length pc).ownBlock = some q → u9 ≤ q ∧ q < g9) := fun q hq => by have := owns_lt NHO.out q hq; omega
  have hgW : g9 ≤ W5.heap.size := by omega
  clear hsv hz5 hg9 hsW4
  have a10 := RowIs.cell (j := 10) NRA.out rfl
  go_wp2_with fail
  clear a10
  have H0 : Hid (([] : List Ft).map (fun t => t.2.1) = fl.take 0 ∧ (∀ t ∈ ([] : List Ft), flowS.own W5 t.1 t.2.1 t.2.2) ∧ (([] : List Ft).flatMap (fun t => t.2.2)).Nodup ∧ ∀ b ∈ ([] : List Ft).flatMap (fun t => t.2.2), g9 ≤ b ∧ b < W5.heap.size) := ⟨by simp, fun t ht => (by cases ht), by simp, fun b hb => (by simp at hb)⟩
  have HO0 : Hid (W5.ownsRow u9 89 15 (.slice ac fl.length pc) fl.length (([] : List Ft).flatMap (fun t => t.1) ++ (rs.drop 0).flatMap (fun t : List Value × FlD => t.1))) := by show World.ownsRow _ _ _ _ _ _ _; simpa using NHO.out
  go_loopw [29] (fun i wr => ∃ (k : Nat) (ts : List Ft), i = .int .i64 (k : Int) ∧ k ≤ fl.length ∧ Hid (RowIs wr w.heap.size 43 [.int .i64 rl, .int .i64 rt, .slice ae2 es.length pe2, .int .i64 ir, .slice ai2 it.length pi2, .int .i64 orr, .slice ao2 ot.length po2, .int .i64 gt, .int .i64 gv, .int .i64 fs, .slice ac fl.length pc, .bool aw, .bool de]) ∧ Hid (RowIs wr (w.heap.size + 1) 43 [.int .i64 0, .int .i64 0, .slice none 0 0, .int .i64 0, .slice none 0 0, .int .i64 0, .slice none 0 0, .int .i64 0, .int .i64 0, .int .i64 0, .slice none 0 0, .bool false, .bool false]) ∧ Hid (OwX entryS wr (w.heap.size + 2) e9 (.slice ae2 es.length pe2) es) ∧ Hid (OwX fieldS wr e9 i9 (.slice ai2 it.length pi2) it) ∧ Hid (OwX fieldS wr i9 u9 (.slice ao2 ot.length po2) ot) ∧ Hid (ts.map (fun t => t.2.1) = fl.take k ∧ (∀ t ∈ ts, flowS.own wr t.1 t.2.1 t.2.2) ∧ (ts.flatMap (fun t => t.2.2)).Nodup ∧ ∀ b ∈ ts.flatMap (fun t => t.2.2), g9 ≤ b ∧ b < wr.heap.size) ∧ Hid (wr.ownsRow u9 89 15 (.slice ac fl.length pc) fl.length (ts.flatMap (fun t => t.1) ++ (rs.drop k).flatMap (fun t : List Value × FlD => t.1))) ∧ Hid (Below w.heap.size w wr) ∧ g9 ≤ wr.heap.size) (fun i _ => fl.length - (intOf i).toNat)
  case atStart => exact ⟨0, [], rfl, Nat.zero_le _, NRA, NRZ, NHE, NHI, NHU, H0, HO0, NHB, hgW⟩
  case round =>
    clear NRA NRZ NHE NHI NHU H0 HO0 NHB hgW NHO
    obtain ⟨k, ts, rfl, hk, HRA, HRZ, HE, HI, HU, HT, HO, HB, hsr⟩ := hrel
    by_cases hlt : k < fl.length
    rotate_left
    · have hltI : ¬ (k : Int) < fl.length := by omega
      have hkn : k = fl.length := by omega
      have hfin : OwX flowS wr u9 wr.heap.size (.slice ac fl.length pc) fl := by
        obtain ⟨t1, t2, t3, t4⟩ := HT.out
        have ho := HO.out
        rw [hkn, List.take_length] at t1
        rw [hkn, List.drop_eq_nil_of_le (by have := HRL.out; omega)] at ho
        have htl : ts.length = fl.length := by have := congrArg List.length t1; simpa using this
        refine ⟨_, ⟨ts, t1.symm, by have := owns_base (base' := 0) ho (fun _ _ => Nat.zero_le _); rw [htl]; simp only [List.flatMap_nil, List.append_nil] at this; exact this, t2, rfl⟩, nodup_mk (opt_nodup _) t3 fun b hb hb2 => ?_, fun b hb => ?_⟩
        · have h1 := HVB.out b (by cases hv : (Value.slice ac fl.length pc).ownBlock <;> simp [hv] at hb ⊢; exact hb.symm)
          have h2 := t4 b hb2
          omega
        · rcases List.mem_append.1 hb with e | e
          · have h1 := HVB.out b (by cases hv : (Value.slice ac fl.length pc).ownBlock <;> simp [hv] at e ⊢; exact e.symm)
            omega
          · have h2 := t4 b e; omega
      have HF := hide hfin
      clear hfin hkn
      have HR2 := hide (rowIs_setRow (cs' := [.int .i64 rl, .int .i64 rt, .slice ae2 es.length pe2, .int .i64 ir, .slice ai2 it.length pi2, .int .i64 orr, .slice ao2 ot.length po2, .int .i64 gt, .int .i64 gv, .int .i64 fs, .slice ac fl.length pc, .bool aw, .bool de]) HRZ.out)
      have HB2 := hide (below_setRow HB.out (show w.heap.size ≤ w.heap.size + 1 by omega) #[.int .i64 rl, .int .i64 rt, .slice ae2 es.length pe2, .int .i64 ir, .slice ai2 it.length pi2, .int .i64 orr, .slice ao2 ot.length po2, .int .i64 gt, .int .i64 gv, .int .i64 fs, .slice ac fl.length pc, .bool aw, .bool de])
      have hsx : (wr.setRow (w.heap.size + 1) #[.int .i64 rl, .int .i64 rt, .slice ae2 es.length pe2, .int .i64 ir, .slice ai2 it.length pi2, .int .i64 orr, .slice ao2 ot.length po2, .int .i64 gt, .int .i64 gv, .int .i64 fs, .slice ac fl.length pc, .bool aw, .bool de]).heap.size = wr.heap.size := setRow_size _ _ _
      have hkx : ∀ q, w.heap.size + 2 ≤ q → (wr.setRow (w.heap.size + 1) #[.int .i64 rl, .int .i64 rt, .slice ae2 es.length pe2, .int .i64 ir, .slice ai2 it.length pi2, .int .i64 orr, .slice ao2 ot.length po2, .int .i64 gt, .int .i64 gv, .int .i64 fs, .slice ac fl.length pc, .bool aw, .bool de]).heap[q]? = wr.heap[q]? := fun q hq => setRow_other _ _ _ _ (by omega)
      go_wp2_with (first | (refine wpList_load_row (by rfl) 43 _ (by rfl) w.heap.size (by rfl) [.int .i64 rl, .int .i64 rt, .slice ae2 es.length pe2, .int .i64 ir, .slice ai2 it.length pi2, .int .i64 orr, .slice ao2 ot.length po2, .int .i64 gt, .int .i64 gv, .int .i64 fs, .slice ac fl.length pc, .bool aw, .bool de] _ 43 HRA.out Tryz.underlying43 rfl (by kernel_rfl) ?_) | (refine wpList_store_row (by rfl) 43 _ _ (by rfl) (w.heap.size + 1) [.int .i64 rl, .int .i64 rt, .slice ae2 es.length pe2, .int .i64 ir, .slice ai2 it.length pi2, .int .i64 orr, .slice ao2 ot.length po2, .int .i64 gt, .int .i64 gv, .int .i64 fs, .slice ac fl.length pc, .bool aw, .bool de] (by rfl) (by rfl) 43 [.int .i64 0, .int .i64 0, .slice none 0 0, .int .i64 0, .slice none 0 0, .int .i64 0, .slice none 0 0, .int .i64 0, .int .i64 0, .int .i64 0, .slice none 0 0, .bool false, .bool false] HRZ.out (by kernel_rfl) rfl (by intro u hu; simp at hu; rcases hu with rfl | rfl | rfl | rfl | rfl | rfl | rfl | rfl | rfl | rfl | rfl | rfl | rfl <;> rfl) ?_))
      generalize wr.setRow (w.heap.size + 1) #[.int .i64 rl, .int .i64 rt, .slice ae2 es.length pe2, .int .i64 ir, .slice ai2 it.length pi2, .int .i64 orr, .slice ao2 ot.length po2, .int .i64 gt, .int .i64 gv, .int .i64 fs, .slice ac fl.length pc, .bool aw, .bool de] = V at *
      have HE2 := HE.out.keep1 hsx (fun q hq => hkx q (by omega))
      have HI2 := HI.out.keep1 hsx (fun q hq => hkx q (by omega))
      have HU2 := HU.out.keep1 hsx (fun q hq => hkx q (by omega))
      have HF2 := HF.out.keep1 hsx (fun q hq => hkx q (by omega))
      obtain ⟨bs, hcn, hlo2⟩ := cnow_of (d := ⟨⟨rl, rt, es⟩, ir, it, orr, ot, gt, gv, fs, fl, aw, de⟩) HE2 HI2 HU2 HF2 (by omega) (by omega) (by omega) (by omega) (by omega) (by omega)
      have HCN := hide hcn
      clear hcn HE2 HI2 HU2 HF2
      have z0 := RowIs.cell (j := 0) HR2.out rfl
      have z1 := RowIs.cell (j := 1) HR2.out rfl
      have z2 := RowIs.cell (j := 2) HR2.out rfl
      have z3 := RowIs.cell (j := 3) HR2.out rfl
      have z4 := RowIs.cell (j := 4) HR2.out rfl
      have z5 := RowIs.cell (j := 5) HR2.out rfl
      have z6 := RowIs.cell (j := 6) HR2.out rfl
      have z7 := RowIs.cell (j := 7) HR2.out rfl
      have z8 := RowIs.cell (j := 8) HR2.out rfl
      have z9 := RowIs.cell (j := 9) HR2.out rfl
      have z10 := RowIs.cell (j := 10) HR2.out rfl
      have z11 := RowIs.cell (j := 11) HR2.out rfl
      have z12 := RowIs.cell (j := 12) HR2.out rfl
      have zf := fun j => RowIs.frozen HR2.out j
      refine bodyPost_ret (v := .agg #[.int .i64 rl, .int .i64 rt, .slice ae2 es.length pe2, .int .i64 ir, .slice ai2 it.length pi2, .int .i64 orr, .slice ao2 ot.length po2, .int .i64 gt, .int .i64 gv, .int .i64 fs, .slice ac fl.length pc, .bool aw, .bool de]) (by simp [results, Tryz.results70, go_sem, *]) rfl ?_
      exact ⟨_, rfl, ⟨_, _, _, _, bs, rfl, HCN.out, fun q hq => by have := hlo2 q hq; omega⟩, HB2.out⟩
    have hltI : (k : Int) < fl.length := by omega
    have hkr : k < rs.length := by have := HRL.out; omega
    obtain ⟨vq, hx1, s0, s1, hfd⟩ := HRR.out _ (List.getElem_mem hkr)
    have hxk : fl[k] = rs[k].2 := by simp only [HRS.out]; simp
    have hfo := HFO.out fl[k] (List.getElem_mem hlt)
    have hdr : (rs.drop k).flatMap (fun t : List Value × FlD => t.1) = rs[k].1 ++ (rs.drop (k + 1)).flatMap (fun t : List Value × FlD => t.1) := by rw [List.drop_eq_getElem_cons hkr]; rfl
    rw [hx1] at hdr
    have htk : fl.take (k + 1) = fl.take k ++ [fl[k]] := List.take_succ_eq_append_getElem hlt
    rw [hxk] at hfo htk
    obtain ⟨x, hx⟩ : ∃ x, rs[k].2 = x := ⟨_, rfl⟩
    rw [hx] at hdr s0 s1 hfd hfo htk
    have ho := HO.out
    rw [hdr, ← List.append_assoc] at ho
    have htl : ts.length = k := by have := congrArg List.length HT.out.1; simp at this; omega
    have hA15 : (ts.flatMap (fun t : Ft => t.1)).length = k * 15 := by
      rw [flat_len (fun t : Ft => t.1) 15 ts (fun t ht => flowS.rd_len (flowS.own_rd (HT.out.2.1 t ht))), htl]
    obtain ⟨gf, cap2, SS, hvc, hob, hgl1, hgl2, _, _, hmid, hput⟩ := owns_mid ho (by simp)
    simp only [Value.slice.injEq, true_and] at hvc
    obtain ⟨rfl, rfl⟩ := hvc
    rw [hA15] at hmid hput
    have hvb := HVB.out gf rfl
    obtain ⟨hu, hdd, _, _⟩ := okTu_true hfo.2
    have hu2 := okPp_true hu
    have hd2 := okPp_true hdd
    have HXB : Hid (x.tun.up.b.size ≤ 1000000 ∧ x.tun.dn.b.size ≤ 1000000) := ⟨by omega, by omega⟩
    have HFD := hide (hfd.new HB.out)
    have HFS := hide hfo.1
    have HPUT := hide hput
    have HTK := hide htk
    have S0 := hide s0; have S1 := hide s1
    clear hx1 s0 s1 hfd hxk hfo hdr htk hx ho htl hA15 hput hu hdd hu2 hd2
    go_upto_region 8 with fail
    have hD : Below wr.heap.size wr (World.drew wr) := (Below.refl _ _).drew
    replace HRA := hide (HRA.out.new hD); replace HRZ := hide (HRZ.out.new hD)
    replace HE := hide (HE.out.new hD); replace HI := hide (HI.out.new hD); replace HU := hide (HU.out.new hD)
    have HM := hide (hmid.new hD)
    replace HFD := hide (HFD.out.new hD)
    replace HB := hide (bchain HB.out hD)
    have HTO : Hid (∀ t ∈ ts, flowS.own (World.drew wr) t.1 t.2.1 t.2.2) := fun t ht => flowS.own_keep (HT.out.2.1 t ht) hD.size (fun b hb => hD.block b (flowS.own_lt (HT.out.2.1 t ht) b hb))
    have HTB : Hid (∀ b ∈ ts.flatMap (fun t : Ft => t.2.2), g9 ≤ b ∧ b < (World.drew wr).heap.size) := fun b hb => ⟨(HT.out.2.2.2 b hb).1, Nat.lt_of_lt_of_le (HT.out.2.2.2 b hb).2 hD.size⟩
    have hsr2 := Nat.le_trans hsr hD.size
    have HTN := hide HT.out.2.2.1
    have HTM := hide HT.out.1
    clear hD hmid HT HO hsr
    refine wp_region_held_drew (S := fun u => RowIs u w.heap.size 43 [.int .i64 rl, .int .i64 rt, .slice ae2 es.length pe2, .int .i64 ir, .slice ai2 it.length pi2, .int .i64 orr, .slice ao2 ot.length po2, .int .i64 gt, .int .i64 gv, .int .i64 fs, .slice (some ⟨gf, 0, none⟩) fl.length pc, .bool aw, .bool de]) (by kernel_rfl) HRA.out (fun hS => ?_)
    generalize World.drew wr = u1 at *
    refine wpAnyH_take (i := 0) (v := ?_) rfl (by kernel_rfl) (by kernel_rfl) (by kernel_rfl) (fun _ _ _ h => h) (Or.inl ⟨by rfl, ?_⟩) hS ?_; rotate_left; focus (intro w hw; clear hw; go_simp; try with_reducible rfl)
    refine wpAnyH_take (i := 1) (v := .slice (some ⟨gf, 0, none⟩) fl.length pc) rfl (by kernel_rfl) (by kernel_rfl) (by kernel_rfl) (fun _ _ _ h => h) (Or.inl ⟨by kernel_rfl, ?ld⟩) hS ?_; case ld => (intro uu hu; have z2 := RowIs.cell (j := 10) hu rfl; have z8 := hu.lt; clear hu; go_simp)
    refine wpAnyH_take (i := 2) (v := ?_) rfl (by kernel_rfl) (by kernel_rfl) (by kernel_rfl) (fun _ _ _ h => h) (Or.inl ⟨by rfl, ?_⟩) hS ?_; rotate_left; focus (intro w hw; clear hw; go_simp; try with_reducible rfl)
    refine wpAnyH_take (i := 3) (v := ?_) rfl (by kernel_rfl) (by kernel_rfl) (by kernel_rfl) (fun _ _ _ h => h) (Or.inl ⟨by rfl, ?_⟩) hS ?_; rotate_left; focus (intro w hw; clear hw; go_simp; try with_reducible rfl)
    refine wpAnyH_take (i := 4) (v := .slice (some ⟨gf, 0, none⟩) fl.length pc) rfl (by kernel_rfl) (by kernel_rfl) (by kernel_rfl) (fun _ _ _ h => h) (Or.inl ⟨by kernel_rfl, ?ld⟩) hS ?_; case ld => (intro uu hu; have z2 := RowIs.cell (j := 10) hu rfl; have z8 := hu.lt; clear hu; go_simp)
    refine wpAnyH_take (i := 5) (v := ?_) rfl (by kernel_rfl) (by kernel_rfl) (by kernel_rfl) (fun _ _ _ h => h) (Or.inl ⟨by rfl, ?_⟩) hS ?_; rotate_left; focus (intro w hw; clear hw; go_simp; try with_reducible rfl)
    refine wpAnyH_take (i := 6) (v := ?_) rfl (by kernel_rfl) (by kernel_rfl) (by kernel_rfl) (fun _ _ _ h => h) (Or.inl ⟨by rfl, ?_⟩) hS ?_; rotate_left; focus (intro w hw; clear hw; go_simp; try with_reducible rfl)
    refine wpAnyH_ready (rs := [7]) (by kernel_rfl) (by simp) ?_
    refine AllReadyH.cons rfl (fun K hK => ?_) AllReadyH.nil
    try simp only [Act.put, List.getElem_toArray, List.getElem_cons_succ, List.getElem_cons_zero, List.setIfInBounds_toArray, List.set_cons_zero, List.set_cons_succ]
    rw [if_pos (by kernel_rfl)]
    refine wp_load_mid 89 _ (by rfl) gf (k * 15) (by rfl) (flcs x vq) _ (fun j u hu => HM.out.cell hu) Tryz.underlying89 rfl (by kernel_rfl) ?_
    refine hK.out _ _ HRA.out (fun hS => ?_)
    clear hK K
    try simp only [Act.put, List.getElem_toArray, List.getElem_cons_succ, List.getElem_cons_zero, List.setIfInBounds_toArray, List.set_cons_zero, List.set_cons_succ]
    refine wpAnyH_ready (rs := [8]) (by kernel_rfl) (by simp) ?_; refine AllReadyH.cons rfl (fun K hK => ?_) AllReadyH.nil; go_simp
    refine (implFlowApart x vq _ HFD.out HFS.out HXB.out.1 HXB.out.2).mono ?_; rintro e u2 ⟨vn, rfl, hon, hb2⟩
    obtain ⟨an, pn, rfl, _, _⟩ := owns_form hon
    replace HRA := hide (HRA.out.new hb2); replace HRZ := hide (HRZ.out.new hb2)
    replace HE := hide (HE.out.new hb2); replace HI := hide (HI.out.new hb2); replace HU := hide (HU.out.new hb2)
    replace HM := hide (HM.out.new hb2)
    replace HB := hide (bchain HB.out hb2)
    have HTO2 : Hid (∀ t ∈ ts, flowS.own u2 t.1 t.2.1 t.2.2) := fun t ht => flowS.own_keep (HTO.out t ht) hb2.size (fun b hb => hb2.block b (flowS.own_lt (HTO.out t ht) b hb))
    have HON := hide hon
    have hz2 := hb2.size
    refine hK.out _ _ HRA.out (fun hS => ?_)
    clear hK K hon hb2 HTO
    try simp only [Act.put, List.getElem_toArray, List.getElem_cons_succ, List.getElem_cons_zero, List.setIfInBounds_toArray, List.set_cons_zero, List.set_cons_succ]
    refine wpAnyH_take (i := 9) (v := ?_) rfl (by kernel_rfl) (by kernel_rfl) (by kernel_rfl) (fun _ _ _ h => h) (Or.inl ⟨by rfl, ?_⟩) hS ?_; rotate_left; focus (intro w hw; clear hw; go_simp; try with_reducible rfl)
    refine wpAnyH_ready (rs := [10]) (by kernel_rfl) (by simp) ?_
    refine AllReadyH.cons rfl (fun K hK => ?_) AllReadyH.nil
    try simp only [Act.put, List.getElem_toArray, List.getElem_cons_succ, List.getElem_cons_zero, List.setIfInBounds_toArray, List.set_cons_zero, List.set_cons_succ]
    rw [if_pos (by kernel_rfl)]
    refine wp_store_mid 89 _ _ (by rfl) gf (k * 15) [.int .i64 x.id, .int .i64 x.get, .int .i64 x.give, .slice an x.fds.length pn, .int .i64 x.tun.up.r, .string x.tun.up.b, .bool x.tun.up.e, .bool x.tun.up.k, .int .i64 x.tun.dn.r, .string x.tun.dn.b, .bool x.tun.dn.e, .bool x.tun.dn.k, .int .i64 x.tun.went, .int .i64 x.tun.came, .bool x.ended] (by rfl) (by rfl) 89 _ _ _ HM.out (by kernel_rfl) rfl (by intro u hu; simp at hu; rcases hu with rfl | rfl | rfl | rfl | rfl | rfl | rfl | rfl | rfl | rfl | rfl | rfl | rfl | rfl | rfl <;> rfl) ?_
    intro u3 hm3 ht3
    have ho3 := HPUT.out u3 [.int .i64 x.id, .int .i64 x.get, .int .i64 x.give, .slice an x.fds.length pn, .int .i64 x.tun.up.r, .string x.tun.up.b, .bool x.tun.up.e, .bool x.tun.up.k, .int .i64 x.tun.dn.r, .string x.tun.dn.b, .bool x.tun.dn.e, .bool x.tun.dn.k, .int .i64 x.tun.went, .int .i64 x.tun.came, .bool x.ended] rfl hm3
    have hgq : w.heap.size + 2 ≤ gf := by omega
    have HON3 := owns_kept HON.out (w' := u3) (fun q hq hl => ht3.block q hl (by have := (owns_lt HON.out q hq).1; simp; omega))
    have HR3 := hide (HRA.out.kept (ht3.block _ HRA.out.lt (by simp; omega)))
    have HZ3 := hide (HRZ.out.kept (ht3.block _ HRZ.out.lt (by simp; omega)))
    have HE3 := hide (HE.out.keepB ht3 (.inl (by omega)))
    have HI3 := hide (HI.out.keepB ht3 (.inl (by omega)))
    have HU3 := hide (HU.out.keepB ht3 (.inl (by omega)))
    have HB3 := hide (below_turnB HB.out ht3 (by omega) HB.out.size)
    have hnb : ∀ b, (Value.slice an x.fds.length pn).ownBlock = some b → u1.heap.size ≤ b ∧ b < u3.heap.size := fun b hb => owns_lt HON3 b hb
    have hT3 : Hid ((ts ++ [(([.int .i64 x.id, .int .i64 x.get, .int .i64 x.give, .slice an x.fds.length pn, .int .i64 x.tun.up.r, .string x.tun.up.b, .bool x.tun.up.e, .bool x.tun.up.k, .int .i64 x.tun.dn.r, .string x.tun.dn.b, .bool x.tun.dn.e, .bool x.tun.dn.k, .int .i64 x.tun.went, .int .i64 x.tun.came, .bool x.ended] : List Value), x, (Value.slice an x.fds.length pn).ownBlock.toList)]).map (fun t : Ft => t.2.1) = fl.take (k + 1) ∧ (∀ t ∈ ts ++ [(([.int .i64 x.id, .int .i64 x.get, .int .i64 x.give, .slice an x.fds.length pn, .int .i64 x.tun.up.r, .string x.tun.up.b, .bool x.tun.up.e, .bool x.tun.up.k, .int .i64 x.tun.dn.r, .string x.tun.dn.b, .bool x.tun.dn.e, .bool x.tun.dn.k, .int .i64 x.tun.went, .int .i64 x.tun.came, .bool x.ended] : List Value), x, (Value.slice an x.fds.length pn).ownBlock.toList)], flowS.own u3 t.1 t.2.1 t.2.2) ∧ ((ts ++ [(([.int .i64 x.id, .int .i64 x.get, .int .i64 x.give, .slice an x.fds.length pn, .int .i64 x.tun.up.r, .string x.tun.up.b, .bool x.tun.up.e, .bool x.tun.up.k, .int .i64 x.tun.dn.r, .string x.tun.dn.b, .bool x.tun.dn.e, .bool x.tun.dn.k, .int .i64 x.tun.went, .int .i64 x.tun.came, .bool x.ended] : List Value), x, (Value.slice an x.fds.length pn).ownBlock.toList)]).flatMap (fun t : Ft => t.2.2)).Nodup ∧ ∀ b ∈ (ts ++ [(([.int .i64 x.id, .int .i64 x.get, .int .i64 x.give, .slice an x.fds.length pn, .int .i64 x.tun.up.r, .string x.tun.up.b, .bool x.tun.up.e, .bool x.tun.up.k, .int .i64 x.tun.dn.r, .string x.tun.dn.b, .bool x.tun.dn.e, .bool x.tun.dn.k, .int .i64 x.tun.went, .int .i64 x.tun.came, .bool x.ended] : List Value), x, (Value.slice an x.fds.length pn).ownBlock.toList)]).flatMap (fun t : Ft => t.2.2), g9 ≤ b ∧ b < u3.heap.size) := by
      refine ⟨by rw [List.map_append, HTM.out, HTK.out]; rfl, fun t ht => ?_, ?_, fun b hb => ?_⟩
      · rcases List.mem_append.1 ht with e | e
        · refine flowS.own_keep (HTO2.out t e) ht3.size (fun b hb => ht3.block b (flowS.own_lt (HTO2.out t e) b hb) ?_)
          have := (HTB.out b (List.mem_flatMap.2 ⟨t, e, hb⟩)).1
          simp; omega
        · simp at e
          subst e
          exact ⟨.slice an x.fds.length pn, _, rfl, S0.out, S1.out, fv_owr (owns_base HON3 (fun _ _ => Nat.zero_le _)) (fun f hf => fine_of (by have := HFS.out; unfold okFs at this; simp only [Bool.and_eq_true] at this; exact List.all_eq_true.1 this.1 f hf)), rfl⟩
      · rw [List.flatMap_append]
        refine nodup_mk HTN.out (by simpa using opt_nodup _) fun b hb hb2 => ?_
        have h1 := (HTB.out b hb).2
        simp only [List.flatMap_cons, List.flatMap_nil, List.append_nil] at hb2
        have h2 := (hnb b (by cases hv : (Value.slice an x.fds.length pn).ownBlock <;> simp [hv] at hb2 ⊢; exact hb2.symm)).1
        omega
      · rw [List.flatMap_append] at hb
        rcases List.mem_append.1 hb with e | e
        · have := HTB.out b e; have := ht3.size; omega
        · simp only [List.flatMap_cons, List.flatMap_nil, List.append_nil] at e
          have h2 := hnb b (by cases hv : (Value.slice an x.fds.length pn).ownBlock <;> simp [hv] at e ⊢; exact e.symm)
          omega
    have HO3 : Hid (u3.ownsRow u9 89 15 (.slice (some ⟨gf, 0, none⟩) fl.length pc) fl.length ((ts ++ [(([.int .i64 x.id, .int .i64 x.get, .int .i64 x.give, .slice an x.fds.length pn, .int .i64 x.tun.up.r, .string x.tun.up.b, .bool x.tun.up.e, .bool x.tun.up.k, .int .i64 x.tun.dn.r, .string x.tun.dn.b, .bool x.tun.dn.e, .bool x.tun.dn.k, .int .i64 x.tun.went, .int .i64 x.tun.came, .bool x.ended] : List Value), x, (Value.slice an x.fds.length pn).ownBlock.toList)]).flatMap (fun t : Ft => t.1) ++ (rs.drop (k + 1)).flatMap (fun t : List Value × FlD => t.1))) := by
      show World.ownsRow _ _ _ _ _ _ _
      rw [List.flatMap_append]
      simpa using ho3
    have hs3 : g9 ≤ u3.heap.size := by have := ht3.size; omega
    refine hK.out _ _ HR3.out (fun hS => ?_)
    clear hK K hm3 ho3 HON3 HRA HRZ HE HI HU HB hnb ht3
    try simp only [Act.put, List.getElem_toArray, List.getElem_cons_succ, List.getElem_cons_zero, List.setIfInBounds_toArray, List.set_cons_zero, List.set_cons_succ]
    refine wpAnyH_done (by kernel_rfl) ?_ _
    go_wp2_with fail
    go_roundw
    case rel => exact ⟨k + 1, _, by go_num, by omega, HR3, HZ3, HE3, HI3, HU3, hT3, HO3, HB3, hs3⟩
    case measure => simp [intOf]; omega
end Go.Proofs.YtllaeakeaabiaaaGreat
/- The program's link: what fails; what is given back; a stream that must have begun. -/
namespace Go.Proofs.YtllaeakeaabiaaaGreat
open Go.RowKit
set_option maxRecDepth 100000
set_option linter.unusedSimpArgs false
set_option linter.unusedVariables false
theorem bys1 {n : Int} (h0 : 0 ≤ n) (h1 : n ≤ 255) : bysV n 1 = bytV 1 n := by
  unfold bysV inB
  rw [if_pos]
  · rfl
  · constructor <;> (simp; try omega)
theorem bys4 {n : Int} (h0 : 0 ≤ n) (h1 : n ≤ 255) : bysV n 4 = bytV 4 n := by
  unfold bysV inB
  rw [if_pos]
  · rfl
  · constructor <;> (simp; try omega)
theorem bys3 {n : Int} (h0 : 0 ≤ n) (h1 : n ≤ 16777215) : bysV n 3 = bytV 3 n := by
  unfold bysV inB
  rw [if_pos]
  · rfl
  · constructor <;> (simp; try omega)
set_option maxHeartbeats 4000000 in
theorem implFail (lo g : Nat) (d : CnD) (L : List Fr) (bs : List Nat) (st code : Int) (w : World) (h : LkM w lo g d L bs) (hok : okCn d = true) (hL : L.length ≤ 1000000) (h0 : 0 ≤ code) (h1 : code ≤ 100) :
    Calls Tryz.prog 74 #[.pointer (some ⟨g, 0, none⟩), .agg #[.int .i64 st, .int .i64 code]] w fun x w' => x = .returned (.tuple #[]) ∧ ∃ bx, Lnk lo g w bs w' (failL d L st code).1 (failL d L st code).2 bx := by
  have hq := h.far (Nat.le_refl _)
  obtain ⟨V, hV⟩ : ∃ V, w.alloc (.cells #[.int .i64 st, .int .i64 code] 123) = V := ⟨_, rfl⟩
  have hB : Below w.heap.size w V := by rw [← hV]; exact (Below.refl _ _).alloc (Nat.le_refl _) _
  have hR : RowIs V w.heap.size 123 [.int .i64 st, .int .i64 code] := by rw [← hV]; exact rowIs_new w 123 _
  have hm := h.new hB
  have hreg := (okCn_iff.1 hok).1
  have HB := hide hB; have HQ := hide hq; have HOK := hide hok; have HQL := hide hR.lt
  by_cases hst : st = 0
  rotate_left
  · have hst' : (st != 0) = true := by simpa using hst
    have hE : failL d L st code = ((breakD d st code).1, L ++ [resetFr st code]) := by unfold failL; rw [if_pos hst]; rfl
    rw [hE]
    have HM := hide hm; have HR := hide hR
    have r0 := RowIs.cell (j := 0) hR rfl
    have rl := hR.lt
    clear hst hm hR h hB hq hok hE
    go_enter Tryz.func74, Tryz.ntmps74
    go_wp2_with fail
    try rw [hV]
    clear hV
    refine (implReset lo g d L bs st 5 _ HM.out hreg (hap_ok _ _ HOK.out)).mono ?_; rintro x w1 ⟨rfl, bx, hl⟩
    have HL := hide hl
    replace HR := hide (hl.box HR.out HQ.out)
    clear hl r0 rl
    go_upto_region 3 with fail
    have hD : Below w1.heap.size w1 (World.drew w1) := (Below.refl _ _).drew
    replace HL := hide (HL.out.new hD)
    replace HR := hide (HR.out.new hD)
    clear hD
    refine wp_region_held_drew (S := fun u => RowIs u w.heap.size 123 [.int .i64 st, .int .i64 code]) (by kernel_rfl) HR.out (fun hS => ?_)
    generalize World.drew w1 = v1 at *
    refine wpAnyH_take (i := 0) (v := ?_) rfl (by kernel_rfl) (by kernel_rfl) (by kernel_rfl) (fun _ _ _ h => h) (Or.inl ⟨by rfl, ?_⟩) hS ?_; rotate_left; focus (intro w hw; clear hw; go_simp; try with_reducible rfl)
    refine wpAnyH_take (i := 1) (v := ?_) rfl (by kernel_rfl) (by kernel_rfl) (by kernel_rfl) (fun _ _ _ h => h) (Or.inl ⟨by rfl, ?_⟩) hS ?_; rotate_left; focus (intro w hw; clear hw; go_simp; try with_reducible rfl)
    refine wpAnyH_take (i := 2) (v := .int .i64 st) rfl (by kernel_rfl) (by kernel_rfl) (by kernel_rfl) (fun _ _ _ h => h) (Or.inl ⟨by kernel_rfl, ?ld⟩) hS ?_; case ld => (intro uu hu; have z2 := RowIs.cell (j := 0) hu rfl; have z8 := hu.lt; clear hu; go_simp)
    refine wpAnyH_take (i := 3) (v := ?_) rfl (by kernel_rfl) (by kernel_rfl) (by kernel_rfl) (fun _ _ _ h => h) (Or.inl ⟨by rfl, ?_⟩) hS ?_; rotate_left; focus (intro w hw; clear hw; go_simp; try with_reducible rfl)
    refine wpAnyH_take (i := 4) (v := .int .i64 code) rfl (by kernel_rfl) (by kernel_rfl) (by kernel_rfl) (fun _ _ _ h => h) (Or.inl ⟨by kernel_rfl, ?ld⟩) hS ?_; case ld => (intro uu hu; have z2 := RowIs.cell (j := 1) hu rfl; have z8 := hu.lt; clear hu; go_simp)
    refine wpAnyH_ready (rs := [5]) (by kernel_rfl) (by simp) ?_; refine AllReadyH.cons rfl (fun K hK => ?_) AllReadyH.nil; go_simp
    refine (implBytes code 1 _).mono ?_; rw [bys1 h0 (by omega)]; rintro x v2 ⟨rfl, hb2⟩
    replace HL := hide (HL.out.new hb2)
    replace HR := hide (HR.out.new hb2)
    refine hK.out _ _ HR.out (fun hS => ?_)
    clear hK K hb2
    try simp only [Act.put, List.getElem_toArray, List.getElem_cons_succ, List.getElem_cons_zero, List.setIfInBounds_toArray, List.set_cons_zero, List.set_cons_succ]
    have hm2 := HL.out.m
    have HQ2 := hide (HL.out.apart HQL.out HQ.out)
    refine wpAnyH_ready (rs := [6]) (by kernel_rfl) (by simp) ?_; refine AllReadyH.cons rfl (fun K hK => ?_) AllReadyH.nil; go_simp
    refine (implTell lo g _ L bx 3 0 st (bytV 1 code) _ hm2 hL).mono ?_; rintro x v3 ⟨rfl, by_, hl3⟩
    replace HL := hide (HL.out.step hl3)
    replace HR := hide (hl3.box HR.out HQ2.out)
    refine hK.out _ _ HR.out (fun hS => ?_)
    clear hK K hl3 hm2
    try simp only [Act.put, List.getElem_toArray, List.getElem_cons_succ, List.getElem_cons_zero, List.setIfInBounds_toArray, List.set_cons_zero, List.set_cons_succ]
    refine wpAnyH_done (by kernel_rfl) ?_ _
    go_wp2_with fail
    first | go_end0 | refine bodyPost_ret (results_none rfl _ _ _) rfl ?_
    exact ⟨rfl, _, Lnk.after HB.out HL.out⟩
  · subst hst
    have hE : failL d L 0 code = ((failD d code).1, L ++ [awayFr code]) := rfl
    rw [hE]
    have hlen := (cn_len hok).1
    have h60 := (cn_len hok).2
    have HF : Hid (∀ f ∈ d.flows, okTu f.tun = true) := fun f hf => (cn_flow hok hf).2.2.1
    have HD0 := hide hm.setDead
    have hgl := hm.glt
    have HR := hide hR
    have r0 := RowIs.cell (j := 0) hR rfl
    have rl := hR.lt
    obtain ⟨⟨ve, vi, vo, vf, tv, cb, hrow, hc, h3, h4, h5⟩, hl, hlo, hng, hbs⟩ := hm
    have x12 := RowIs.cell (j := 12) hrow rfl
    have xf := RowIs.frozen hrow 12
    have HZ : Hid (Lnk lo g V bs (V.setCell ⟨g, 12, none⟩ (.bool true)) { d with dead := true, flows := tornTo d.flows 0 } L bs) := by show Lnk _ _ _ _ _ _ _ _; rw [tornTo_zero]; exact HD0.out
    clear hR h hB hq hok hE hrow hc h3 h4 h5 hl hlo hng hbs hreg HD0
    go_enter Tryz.func74, Tryz.ntmps74
    go_upto_region 4 with fail
    try rw [hV]
    clear hV r0
    go_upto_region 5 with fail
    generalize V.setCell ⟨g, 12, none⟩ (.bool true) = w1 at *
    obtain ⟨⟨ve, vi, vo, vf, tv, cb, hrow, hc, h3, h4, h5⟩, hl, hlo, hng, hbs⟩ := HZ.out.m
    obtain ⟨af, pf, rfl, _, _⟩ := hc.rd.f.form
    have x10 := RowIs.cell (j := 10) hrow rfl
    try dsimp only at x10
    rw [tornTo_zero] at x10
    clear x12 xf hrow hc h3 h4 h5 hl hlo hng hbs rl
    go_wp2_with fail
    clear x10
    go_loopw [29] (fun i wr => ∃ k : Nat, i = .int .i64 k ∧ k ≤ d.flows.length ∧ Hid (Lnk lo g V bs wr { d with dead := true, flows := tornTo d.flows k } L bs)) (fun i _ => d.flows.length - (intOf i).toNat)
    case atStart => exact ⟨0, rfl, Nat.zero_le _, HZ⟩
    case round =>
      clear HZ
      obtain ⟨k, rfl, hk, HL⟩ := hrel
      have hlen2 := tornTo_len d.flows k hk
      by_cases hlt : k < d.flows.length
      · obtain ⟨gf, A, C, qe, qi, qo, cap, v0, tv, hrow, hgm, hgfl, hgg, hmid, s1, s2, hput⟩ := HL.out.m.flw k (by show k < (tornTo d.flows k).length; omega)
        try dsimp only at hrow hmid s1 s2 hput
        have HK1 : Hid (k + 1 ≤ d.flows.length) := hlt
        have hat := tornTo_at d.flows k hlt (by omega)
        have hst := tornTo_step d.flows k hlt
        rw [hat] at hmid s1 s2 hput
        have x10 := RowIs.cell (j := 10) hrow rfl
        try dsimp only at x10
        rw [hlen2] at x10
        have HP := hide hput
        have HM := hide hmid
        have HST := hide hst
        have hokf := HF.out _ (List.getElem_mem hlt)
        have S1 := hide s1; have S2 := hide s2
        clear hrow hmid hput hat hst s1 s2
        go_wp2_with fail
        refine (implTear d.flows[k] v0 gf (k * 15) A C _ HM.out hokf S1.out S2.out).mono ?_; rintro x w2 ⟨rfl, hm2, ht2⟩
        have hP2 : Lnk lo g wr bs w2 { d with dead := true, flows := tornTo d.flows (k + 1) } L bs := by
          rw [← HST.out]
          exact HP.out w2 (tornF d.flows[k]) rfl (by show (⟨#[]⟩ : ByteArray).size ≤ _; decide) (by show (⟨#[]⟩ : ByteArray).size ≤ _; decide) hm2 ht2
        replace HL := hide (HL.out.step hP2)
        clear hm2 ht2 HP HM HST x10 hP2 hokf S1 S2
        go_wp2_with fail
        go_roundw
        case rel => exact ⟨k + 1, by go_num, HK1.out, HL⟩
        case measure => have := HK1.out; simp [intOf]; omega
      · have hall := tornTo_all d.flows k (by omega)
        have HL2 := HL.out
        rw [hall] at HL2
        replace HL := hide HL2
        clear HL2 hall
        replace HR := hide (HL.out.box HR.out HQ.out)
        have r1 := RowIs.cell (j := 1) HR.out rfl
        go_wp2_with fail
        refine (implBytes code 4 _).mono ?_; rw [bys4 h0 (by omega)]; rintro x w3 ⟨rfl, hb3⟩
        replace HL := hide (HL.out.new hb3)
        clear hb3 r1 HR
        have hm3 := HL.out.m
        go_wp2_with fail
        refine (implTell lo g _ L bs 6 0 0 (bytV 4 code) _ hm3 hL).mono ?_; rintro x w4 ⟨rfl, by_, hl4⟩
        have HE := hide (Lnk.after HB.out (HL.out.step hl4))
        clear hl4 hm3 HL
        go_wp2_with fail
        first | go_end0 | refine bodyPost_ret (results_none rfl _ _ _) rfl ?_
        exact ⟨rfl, _, HE.out⟩
abbrev pnc (st code : Int) : List PanicEntry := [{ v := .iface 123 (.agg #[.int .i64 st, .int .i64 code]), recovered := false }]
theorem implBegunNo (lo g : Nat) (d : CnD) (L : List Fr) (bs : List Nat) (id : Int) (w : World) (h : LkM w lo g d L bs) (hs : okRg d.reg = true) (h0 : stateD d.reg id = 0) :
    Calls Tryz.prog 134 #[.pointer (some ⟨g, 0, none⟩), .int .i64 id] w fun x w' => x = .panicked (pnc 0 1) ∧ Below w.heap.size w w' := by
  go_enter Tryz.func134, Tryz.ntmps134
  go_wp2_with fail
  refine (implState lo g d L bs id _ h hs).mono ?_; rw [h0]; rintro x w1 ⟨rfl, hb⟩
  go_wp2_with fail
  exact ⟨rfl, rfl, hb⟩
theorem implBegun (lo g : Nat) (d : CnD) (L : List Fr) (bs : List Nat) (id : Int) (w : World) (h : LkM w lo g d L bs) (hs : okRg d.reg = true) (h0 : stateD d.reg id ≠ 0) :
    Calls Tryz.prog 134 #[.pointer (some ⟨g, 0, none⟩), .int .i64 id] w fun x w' => x = .returned (.int .i64 (stateD d.reg id)) ∧ Below w.heap.size w w' := by
  obtain ⟨s, hst⟩ : ∃ s, stateD d.reg id = s := ⟨_, rfl⟩
  have HS := hide hst
  rw [hst] at h0 ⊢
  clear hst
  have h0' : (s == 0) = false := by simpa using h0
  go_enter Tryz.func134, Tryz.ntmps134
  go_wp2_with fail
  refine (implState lo g d L bs id _ h hs).mono ?_; rw [HS.out]; rintro x w1 ⟨rfl, hb⟩
  go_wp2_with fail
  go_ret
  exact ⟨rfl, hb⟩
set_option maxHeartbeats 4000000 in
theorem implGiveBack (lo g : Nat) (d : CnD) (L : List Fr) (bs : List Nat) (id n : Int) (w : World) (h : LkM w lo g d L bs) (hlen : d.flows.length = d.reg.es.length) (h60 : d.reg.es.length ≤ 60) (hL : L.length ≤ 1000000) (h0 : 0 ≤ n) (h1 : n ≤ 16777215)
    (hid : id = 0 ∨ ∃ k, atE d.reg.es id = some k) (hg : id = 0 → n ≠ 0 → grV d.get n = (d.get + n, true)) (hf : id ≠ 0 → n ≠ 0 → ∀ k (hk : k < d.flows.length), atE d.reg.es id = some k → grV d.flows[k].get n = (d.flows[k].get + n, true)) :
    Calls Tryz.prog 175 #[.pointer (some ⟨g, 0, none⟩), .int .i64 id, .int .i64 n] w fun x w' => x = .returned (.tuple #[]) ∧ ∃ bx, Lnk lo g w bs w' (grantD d id n).1 (L ++ (grantD d id n).2) bx := by
  by_cases hn : n = 0
  · subst hn
    have HS := hide (Lnk.start h)
    clear h hg hf
    go_enter Tryz.func175, Tryz.ntmps175
    go_wp2_with fail
    first | go_end0 | refine bodyPost_ret (results_none rfl _ _ _) rfl ?_
    rw [grant_zero rfl, List.append_nil]
    exact ⟨rfl, bs, HS.out⟩
  have hn' : (n == 0) = false := by simpa using hn
  have hgl := h.glt
  by_cases hi : id = 0
  · subst hi
    have hgr := hg rfl hn
    have HS := hide (Lnk.start h)
    obtain ⟨⟨ve, vi, vo, vf, tv, cb, hrow, hc, h3, h4, h5⟩, hl, hlo, hng, hbs⟩ := h
    have x7 := RowIs.cell (j := 7) hrow rfl
    have HROW := hide hrow
    rw [grant_conn hn]
    clear hrow hc h3 h4 h5 hl hlo hng hbs hg hf hid hn
    go_enter Tryz.func175, Tryz.ntmps175
    go_wp2_with fail
    refine (implGranted d.get n _).mono ?_; rw [hgr]; rintro x w1 ⟨rfl, hb⟩
    replace HS := hide (HS.out.new hb)
    have hr1 := HROW.out.new hb
    clear hb x7 HROW
    have x7 := RowIs.cell (j := 7) hr1 rfl
    have xf := RowIs.frozen hr1 7
    have xl := hr1.lt
    clear hr1
    go_upto_region 5 with fail
    replace HS := hide (HS.out.step (HS.out.m.setGet (d.get + n)))
    generalize w1.setCell ⟨g, 7, none⟩ (.int .i64 (d.get + n)) = w2 at *
    clear x7 xf xl
    go_wp2_with fail
    refine (implBytes n 3 _).mono ?_; rw [bys3 h0 h1]; rintro x w3 ⟨rfl, hb3⟩
    replace HS := hide (HS.out.new hb3)
    clear hb3
    have hm := HS.out.m
    go_wp2_with fail
    refine (implTell lo g _ L bs 7 0 0 (bytV 3 n) _ hm hL).mono ?_; rintro x w4 ⟨rfl, by_, hl4⟩
    have HE := hide (HS.out.step hl4)
    clear hl4 hm HS
    go_wp2_with fail
    first | go_end0 | refine bodyPost_ret (results_none rfl _ _ _) rfl ?_
    exact ⟨rfl, _, HE.out⟩
  · have hi' : (id != 0) = true := by simpa using hi
    obtain ⟨k, ha⟩ := hid.resolve_left hi
    obtain ⟨hk, _, _⟩ := atE_some ha
    have hkf : k < d.flows.length := by omega
    have hgr := hf hi hn k hkf ha
    have HS := hide (Lnk.start h)
    obtain ⟨gf, A, C, ve, vi, vo, cap, v0, tv, hrow, hgb, hgfl, hgg, hmid, f0, f1, hput⟩ := h.flw k hkf
    have hx := RowIs.cell (j := 10) hrow rfl
    have HP := hide hput; have HM := hide hmid
    rw [grant_flow hn hi ha hkf]
    have HHM := hide h
    have F0 := hide f0; have F1 := hide f1; have HA := hide ha; have HX := hide hx
    clear hrow hput hmid hg hf hi h f0 f1 ha hx hn
    go_enter Tryz.func175, Tryz.ntmps175
    go_wp2_with fail
    refine (implFlowSome lo g d L bs id k gf cap _ HHM.out hlen h60 HA.out HX.out).mono ?_; rintro x w1 ⟨rfl, hb⟩
    replace HM := hide (HM.out.new hb)
    have HB := hide (TurnB.new (bs := [gf]) hb)
    clear hb HHM HX HA
    have c1 := MidIs.cell (j := 1) HM.out rfl
    have cl := HM.out.lt
    go_wp2_with fail
    refine (implGranted d.flows[k].get n _).mono ?_; rw [hgr]; rintro x w2 ⟨rfl, hb⟩
    replace HM := hide (HM.out.new hb)
    replace HB := hide (HB.out.trans (TurnB.new hb))
    clear hb c1 cl
    have c1 := MidIs.cell (j := 1) HM.out rfl
    have cf := fun j => MidIs.frozen HM.out j
    have cl := HM.out.lt
    go_upto_region 5 with fail
    have hm2 := MidIs.set HM.out 1 (.int .i64 (d.flows[k].get + n)) (by simp)
    have HS2 := hide (HS.out.step (HP.out _ { d.flows[k] with get := d.flows[k].get + n } rfl F0.out F1.out hm2 (HB.out.set _ _ (by simp))))
    clear hm2 c1 cf cl
    generalize w2.setCell ⟨gf, k * 15 + 1, none⟩ (.int .i64 (d.flows[k].get + n)) = w3 at *
    clear HS HM HB HP
    go_wp2_with fail
    refine (implBytes n 3 _).mono ?_; rw [bys3 h0 h1]; rintro x w4 ⟨rfl, hb3⟩
    replace HS2 := hide (HS2.out.new hb3)
    clear hb3
    have hm := HS2.out.m
    go_wp2_with fail
    refine (implTell lo g _ L bs 7 0 id (bytV 3 n) _ hm hL).mono ?_; rintro x w5 ⟨rfl, by_, hl4⟩
    have HE := hide (HS2.out.step hl4)
    clear hl4 hm HS2
    go_wp2_with fail
    first | go_end0 | refine bodyPost_ret (results_none rfl _ _ _) rfl ?_
    exact ⟨rfl, _, HE.out⟩
end Go.Proofs.YtllaeakeaabiaaaGreat
