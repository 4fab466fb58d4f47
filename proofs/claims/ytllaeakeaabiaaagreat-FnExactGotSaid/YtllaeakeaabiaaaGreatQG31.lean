/- Several small texts of one level, one behind the other. -/
import Derived.Test.YtllaeakeaabiaaaGreatQG30
import Derived.Test.YtllaeakeaabiaaaGreatQG27
import Derived.Test.YtllaeakeaabiaaaGreatQG9
import Derived.Test.YtllaeakeaabiaaaGreatQG8
import Derived.Test.YtllaeakeaabiaaaGreatQG5
import Derived.Deep.DeepMust
import Derived.Test.YtllaeakeaabiaaaGreatQSB
import Derived.Test.YtllaeakeaabiaaaGreatQG10
import Derived.Test.YtllaeakeaabiaaaGreatQRegImpl
import Derived.Test.YtllaeakeaabiaaaGreatQG13
import Derived.Test.YtllaeakeaabiaaaGreatQG4
import Derived.Test.YtllaeakeaabiaaaGreatQG7
/- A step of a connection in place, told in one form: the Conn turned so, these frames told. -/
namespace Go.Proofs.YtllaeakeaabiaaaGreat
open Go.RowKit
set_option maxRecDepth 100000
set_option linter.unusedSimpArgs false
set_option linter.unusedVariables false
/-- What a step in place leaves. -/
def StepC (w : World) (g : Nat) (bs : List Nat) (r : CnD × List Fr) (x : Ending) (w' : World) : Prop :=
  ∃ v bs', x = .returned v ∧ CnM w' g r.1 bs' ∧ w'.ownsRow w.heap.size 48 4 v r.2.length (fr r.2) ∧ TurnB (g :: bs) w w' ∧ NewB w bs bs' ∧ ∀ q, v.ownBlock = some q → q ∉ g :: bs'
theorem TurnB.then {g : Nat} {w w1 w2 : World} {bs bs1 : List Nat} (ht : TurnB (g :: bs) w w1) (hn : NewB w bs bs1) (ht2 : TurnB (g :: bs1) w1 w2) : TurnB (g :: bs) w w2 := ht.trans2 ht2 (fun x hx => by
  rcases List.mem_cons.1 hx with rfl | hx
  · exact .inl (by simp)
  · rcases hn x hx with e | e
    · exact .inl (by simp [e])
    · exact .inr e)
theorem StepC.after {w w1 w' : World} {g : Nat} {bs bs1 : List Nat} {r : CnD × List Fr} {x : Ending} (ht : TurnB (g :: bs) w w1) (hn : NewB w bs bs1) (h : StepC w1 g bs1 r x w') : StepC w g bs r x w' := by
  obtain ⟨v, bs', rfl, hc, ho, ht2, hn2, ha⟩ := h
  exact ⟨v, bs', rfl, hc, owns_base ho (fun q hq => Nat.le_trans ht.size (ho.lt q hq).1), ht.then hn ht2, hn.trans hn2 ht.size, ha⟩
theorem StepC.nothing {w : World} {g n : Nat} {d : CnD} {bs : List Nat} (h : CnM w g d bs) (hn : n = w.heap.size := by simp) : StepC w g bs (d, []) (.returned (.slice (some ⟨n, 0, none⟩) 0 0)) (w.alloc (.cells #[] 48)) := by
  subst hn
  have hbx : Below w.heap.size w (w.alloc (.cells #[] 48)) := (Below.refl _ _).alloc (Nat.le_refl _) _
  exact ⟨_, bs, rfl, h.new hbx, owns_lit w 48 4 0 #[] rfl (by omega), TurnB.new hbx, NewB.refl _ _, fun q hq hx => by simp [Value.ownBlock] at hq; have := h.lts q hx; omega⟩
theorem StepC.one {w : World} {g n : Nat} {d : CnD} {bs : List Nat} (f : Fr) (h : CnM w g d bs) (hn : n = w.heap.size := by simp) : StepC w g bs (d, [f]) (.returned (.slice (some ⟨n, 0, none⟩) 1 1)) (w.alloc (.cells #[.int .i64 f.k, .int .i64 f.fl, .int .i64 f.st, .string f.b] 48)) := by
  subst hn
  have hbx : Below w.heap.size w (w.alloc (.cells #[.int .i64 f.k, .int .i64 f.fl, .int .i64 f.st, .string f.b] 48)) := (Below.refl _ _).alloc (Nat.le_refl _) _
  exact ⟨_, bs, rfl, h.new hbx, frw_one w f, TurnB.new hbx, NewB.refl _ _, fun q hq hx => by simp [Value.ownBlock] at hq; have := h.lts q hx; omega⟩
theorem failC (g : Nat) (d : CnD) (bs : List Nat) (code : Int) (w : World) (h : CnM w g d bs) (h0 : 0 ≤ code) (h1 : code ≤ 100) (hF : d.flows.length ≤ 1000) :
    Calls Tryz.prog 62 #[.pointer (some ⟨g, 0, none⟩), .int .i64 code] w (StepC w g bs (failD d code)) := by
  refine (failM g d bs code w h h0 h1 hF).mono ?_
  rintro x w' ⟨v, rfl, hc, ho, ht⟩
  exact ⟨v, bs, rfl, hc, ho, ht, NewB.refl _ _, fun q hq hx => by have := h.lts q hx; have := (ho.lt q hq).1; omega⟩
theorem grantC (g : Nat) (d : CnD) (bs : List Nat) (id n : Int) (w : World) (h : CnM w g d bs) (h0 : 0 ≤ n) (h1 : n ≤ 16777215) (hid : id = 0 ∨ ∃ k, atE d.reg.es id = some k) (hF : d.flows.length = d.reg.es.length) (h60 : d.reg.es.length ≤ 1000) (hg : -1000000000 ≤ d.get ∧ d.get ≤ 1000000000) (hfg : ∀ f ∈ d.flows, -1000000000 ≤ f.get ∧ f.get ≤ 1000000000) :
    Calls Tryz.prog 109 #[.pointer (some ⟨g, 0, none⟩), .int .i64 id, .int .i64 n] w (StepC w g bs (grantD d id n)) := by
  refine (grantM g d bs id n w h h0 h1 hid hF h60 hg hfg).mono ?_
  rintro x w' ⟨v, rfl, hc, ho, ht⟩
  exact ⟨v, bs, rfl, hc, ho, ht, NewB.refl _ _, fun q hq hx => by have := h.lts q hx; have := (ho.lt q hq).1; omega⟩
end Go.Proofs.YtllaeakeaabiaaaGreat
/- Chapter 17's model: a copy of a Conn. -/
namespace Go.Proofs.YtllaeakeaabiaaaGreat
open Go.RowKit
set_option maxRecDepth 100000
set_option linter.unusedSimpArgs false
set_option linter.unusedVariables false
/-- A Conn as a value, its lists owned in blocks from lo on. -/
def NewC (lo : Nat) (d : CnD) (v : Value) (w : World) : Prop := ∃ ve vi vo vf bs, v = cnv d ve vi vo vf ∧ CnOw w bs d ve vi vo vf ∧ ∀ b ∈ bs, lo ≤ b
theorem cnow_of {w : World} {d : CnD} {ve vi vo vf : Value} {a b a2 b2 a3 b3 a4 b4 : Nat} (h1 : OwX entryS w a b ve d.reg.es) (h2 : OwX fieldS w a2 b2 vi d.inT) (h3 : OwX fieldS w a3 b3 vo d.outT) (h4 : OwX flowS w a4 b4 vf d.flows) (i1 : b ≤ a2) (i2 : b2 ≤ a3) (i3 : b3 ≤ a4) (j1 : a ≤ b) (j2 : a2 ≤ b2) (j3 : a3 ≤ b3) :
    ∃ bs, CnOw w bs d ve vi vo vf ∧ ∀ x ∈ bs, a ≤ x := by
  obtain ⟨be, e1, e2, e3⟩ := h1
  obtain ⟨bi, f1, f2, f3⟩ := h2
  obtain ⟨bo, g1, g2, g3⟩ := h3
  obtain ⟨bf, k1, k2, k3⟩ := h4
  refine ⟨be ++ bi ++ bo ++ bf, ⟨⟨be, bi, bo, bf, e1, f1, g1, k1, rfl⟩, ?_⟩, fun x hx => ?_⟩
  · refine nodup_mk (nodup_mk (nodup_mk e2 f2 fun x hx hx2 => ?_) g2 fun x hx hx2 => ?_) k2 fun x hx hx2 => ?_
    · have := e3 x hx; have := f3 x hx2; omega
    · have := g3 x hx2
      rcases List.mem_append.1 hx with h | h
      · have := e3 x h; omega
      · have := f3 x h; omega
    · have := k3 x hx2
      rcases List.mem_append.1 hx with h | h
      · rcases List.mem_append.1 h with h | h
        · have := e3 x h; omega
        · have := f3 x h; omega
      · have := g3 x h; omega
  · rcases List.mem_append.1 hx with h | h
    · rcases List.mem_append.1 h with h | h
      · rcases List.mem_append.1 h with h | h
        · exact (e3 x h).1
        · have := f3 x h; omega
      · have := g3 x h; omega
    · have := k3 x h; omega
theorem sumW_nine : ∀ {L : List Fd}, L.all okF = true → 9 * (L.length : Int) ≤ sumW L
  | [], _ => by simp [sumW]
  | f :: L, h => by
    simp only [List.all_cons, Bool.and_eq_true] at h
    have h1 := sumW_nine h.2
    have h2 := wt_pos h.1
    simp only [sumW, List.length_cons]
    omega
theorem okT_len {room : Int} {L : List Fd} (h : okT room L = true) : L.length ≤ 1000 := by
  unfold okT at h
  simp only [Bool.and_eq_true, decide_eq_true_eq] at h
  have h1 := sumW_nine h.2.1
  have h2 := inB_true h.1
  omega
set_option maxHeartbeats 8000000 in
theorem specCopy17 (d : CnD) (ve vi vo vf : Value) (w : World) (hv : CnRd w d ve vi vo vf) (hok : okCn d = true) :
    Calls Tryz.prog 23 #[cnv d ve vi vo vf] w fun x w' => ∃ v', x = .returned v' ∧ NewC w.heap.size d v' w' ∧ Below w.heap.size w w' := by
  have hl1 := (cn_len hok).2
  have hl2 := okT_len (okCn_iff.1 hok).2.1
  have hl3 := okT_len (okCn_iff.1 hok).2.2.1
  have hl4 : d.flows.length ≤ 60 := by have := (cn_len hok).1; omega
  have H20 : Hid (∀ f ∈ d.flows, f.fds.length ≤ 20) := fun f hf => by
    have := (cn_flow hok hf).2.2.2
    unfold okFs at this
    simp only [Bool.and_eq_true, decide_eq_true_eq] at this
    exact this.2
  obtain ⟨hv1, hv2, hv3, hv4⟩ := hv
  obtain ⟨ae, pe, rfl, e1, e2⟩ := hv1.form
  obtain ⟨ai, pi, rfl, i1, i2⟩ := hv2.form
  obtain ⟨ao, po, rfl, o1, o2⟩ := hv3.form
  obtain ⟨af, pf, rfl, f1, f2⟩ := hv4.form
  obtain ⟨⟨rl, rt, es⟩, ir, it, orr, ot, gt, gv, fs, fl, aw, de⟩ := d
  dsimp only [cnv] at *
  have HV1 := hide hv1; have HV2 := hide hv2; have HV3 := hide hv3; have HV4 := hide hv4
  clear hok hv1 hv2 hv3 hv4
  have hbA : Below w.heap.size w (w.alloc (.cells #[.int .i64 rl, .int .i64 rt, .slice ae es.length pe, .int .i64 ir, .slice ai it.length pi, .int .i64 orr, .slice ao ot.length po, .int .i64 gt, .int .i64 gv, .int .i64 fs, .slice af fl.length pf, .bool aw, .bool de] 43)) := (Below.refl _ _).alloc (Nat.le_refl _) _
  have RA := rowIs_new w 43 [.int .i64 rl, .int .i64 rt, .slice ae es.length pe, .int .i64 ir, .slice ai it.length pi, .int .i64 orr, .slice ao ot.length po, .int .i64 gt, .int .i64 gv, .int .i64 fs, .slice af fl.length pf, .bool aw, .bool de]
  generalize hA : w.alloc (.cells #[.int .i64 rl, .int .i64 rt, .slice ae es.length pe, .int .i64 ir, .slice ai it.length pi, .int .i64 orr, .slice ao ot.length po, .int .i64 gt, .int .i64 gv, .int .i64 fs, .slice af fl.length pf, .bool aw, .bool de] 43) = WA at *
  have hsA : WA.heap.size = w.heap.size + 1 := by rw [← hA]; simp
  have hbZ : Below WA.heap.size WA (WA.alloc (.cells #[.int .i64 0, .int .i64 0, .slice none 0 0, .int .i64 0, .slice none 0 0, .int .i64 0, .slice none 0 0, .int .i64 0, .int .i64 0, .int .i64 0, .slice none 0 0, .bool false, .bool false] 43)) := (Below.refl _ _).alloc (Nat.le_refl _) _
  have RZ := rowIs_new WA 43 [.int .i64 0, .int .i64 0, .slice none 0 0, .int .i64 0, .slice none 0 0, .int .i64 0, .slice none 0 0, .int .i64 0, .int .i64 0, .int .i64 0, .slice none 0 0, .bool false, .bool false]
  generalize hZ : WA.alloc (.cells #[.int .i64 0, .int .i64 0, .slice none 0 0, .int .i64 0, .slice none 0 0, .int .i64 0, .slice none 0 0, .int .i64 0, .int .i64 0, .int .i64 0, .slice none 0 0, .bool false, .bool false] 43) = WZ at *
  have hsZ : WZ.heap.size = w.heap.size + 2 := by rw [← hZ]; simp; omega
  have hbO : Below WZ.heap.size WZ ((WZ.alloc (.cells #[.int .i64 0, .int .i64 0, .slice none 0 0, .int .i64 0, .slice none 0 0, .int .i64 0, .slice none 0 0, .int .i64 0, .int .i64 0, .int .i64 0, .slice none 0 0, .bool false, .bool false] 43)).setRow WZ.heap.size #[.int .i64 rl, .int .i64 rt, .slice ae es.length pe, .int .i64 ir, .slice ai it.length pi, .int .i64 orr, .slice ao ot.length po, .int .i64 gt, .int .i64 gv, .int .i64 fs, .slice af fl.length pf, .bool aw, .bool de]) := below_setRow ((Below.refl _ _).alloc (Nat.le_refl _) _) (Nat.le_refl _) #[.int .i64 rl, .int .i64 rt, .slice ae es.length pe, .int .i64 ir, .slice ai it.length pi, .int .i64 orr, .slice ao ot.length po, .int .i64 gt, .int .i64 gv, .int .i64 fs, .slice af fl.length pf, .bool aw, .bool de]
  have RN := rowIs_new WZ 43 [.int .i64 0, .int .i64 0, .slice none 0 0, .int .i64 0, .slice none 0 0, .int .i64 0, .slice none 0 0, .int .i64 0, .int .i64 0, .int .i64 0, .slice none 0 0, .bool false, .bool false]
  have RO := rowIs_setRow (cs' := [.int .i64 rl, .int .i64 rt, .slice ae es.length pe, .int .i64 ir, .slice ai it.length pi, .int .i64 orr, .slice ao ot.length po, .int .i64 gt, .int .i64 gv, .int .i64 fs, .slice af fl.length pf, .bool aw, .bool de]) RN
  have hsO : ((WZ.alloc (.cells #[.int .i64 0, .int .i64 0, .slice none 0 0, .int .i64 0, .slice none 0 0, .int .i64 0, .slice none 0 0, .int .i64 0, .int .i64 0, .int .i64 0, .slice none 0 0, .bool false, .bool false] 43)).setRow WZ.heap.size #[.int .i64 rl, .int .i64 rt, .slice ae es.length pe, .int .i64 ir, .slice ai it.length pi, .int .i64 orr, .slice ao ot.length po, .int .i64 gt, .int .i64 gv, .int .i64 fs, .slice af fl.length pf, .bool aw, .bool de]).heap.size = w.heap.size + 3 := by rw [setRow_size]; simp; omega
  replace RA := (RA.new hbZ)
  have RA1 := RA
  replace RA := RA.new hbO
  rw [hsA] at RZ
  replace RZ := RZ.new hbO
  have HB := hide (bchain (bchain hbA hbZ) hbO)
  rw [hsZ] at RO RN
  go_enter Tryz.func23, Tryz.ntmps23
  go_upto_region 1 with fail
  go_upto_region 2 with (first | (refine wpList_load_row (by rfl) 43 _ (by rfl) w.heap.size (by rfl) [.int .i64 rl, .int .i64 rt, .slice ae es.length pe, .int .i64 ir, .slice ai it.length pi, .int .i64 orr, .slice ao ot.length po, .int .i64 gt, .int .i64 gv, .int .i64 fs, .slice af fl.length pf, .bool aw, .bool de] _ 43 RA1 Tryz.underlying43 rfl (by kernel_rfl) ?_) | (refine wpList_store_row (by rfl) 43 _ _ (by rfl) (w.heap.size + 2) [.int .i64 rl, .int .i64 rt, .slice ae es.length pe, .int .i64 ir, .slice ai it.length pi, .int .i64 orr, .slice ao ot.length po, .int .i64 gt, .int .i64 gv, .int .i64 fs, .slice af fl.length pf, .bool aw, .bool de] (by rfl) (by rfl) 43 [.int .i64 0, .int .i64 0, .slice none 0 0, .int .i64 0, .slice none 0 0, .int .i64 0, .slice none 0 0, .int .i64 0, .int .i64 0, .int .i64 0, .slice none 0 0, .bool false, .bool false] RN (by kernel_rfl) rfl (by intro u hu; simp at hu; rcases hu with rfl | rfl | rfl | rfl | rfl | rfl | rfl | rfl | rfl | rfl | rfl | rfl | rfl <;> rfl) ?_))
  rw [hsZ] at RA RZ HB hsO
  clear RN RA1 hbA hbZ hbO
  generalize hO : (WZ.alloc (.cells #[.int .i64 0, .int .i64 0, .slice none 0 0, .int .i64 0, .slice none 0 0, .int .i64 0, .slice none 0 0, .int .i64 0, .int .i64 0, .int .i64 0, .slice none 0 0, .bool false, .bool false] 43)).setRow (w.heap.size + 2) #[.int .i64 rl, .int .i64 rt, .slice ae es.length pe, .int .i64 ir, .slice ai it.length pi, .int .i64 orr, .slice ao ot.length po, .int .i64 gt, .int .i64 gv, .int .i64 fs, .slice af fl.length pf, .bool aw, .bool de] = W1 at *
  clear hO hA hZ hsA hsZ WA
  have hsW1 := hsO
  have a0 := RowIs.cell (j := 0) RA rfl
  have a1 := RowIs.cell (j := 1) RA rfl
  have a2 := RowIs.cell (j := 2) RA rfl
  have af := fun j => RowIs.frozen RA j
  have al := RA.lt
  have o0 := RowIs.cell (j := 0) RO rfl
  have o1 := RowIs.cell (j := 1) RO rfl
  have o2 := RowIs.cell (j := 2) RO rfl
  have of := fun j => RowIs.frozen RO j
  have ol := RO.lt
  go_wp2_with fail
  refine (copyReg ⟨rl, rt, es⟩ (.slice ae es.length pe) _ (HV1.out.new HB.out) (by show es.length ≤ 1000; omega)).mono ?_; rintro e w2 ⟨vE, rfl, ho, hb⟩
  obtain ⟨ae2, pe2, rfl, qE1, qE2⟩ := owns_form ho
  clear a0 a1 a2 af al
  clear o0 o1 o2 of ol
  rw [hsW1] at ho
  have hw2s := hb.size
  rw [hsW1] at hw2s
  obtain ⟨e9, he9⟩ : ∃ n, n = w2.heap.size := ⟨_, rfl⟩
  have hOE := owX_flat (E := entryS) (f := EntryD.cs) (fun d hd => ⟨rfl, rfl⟩) ho
  rw [← he9] at hOE
  replace RA := RA.new hb
  replace RZ := RZ.new hb
  replace RO := RO.new hb
  replace HB := hide (bchain HB.out hb)
  have HE := hide hOE
  clear hb ho hOE
  have o0 := RowIs.cell (j := 0) RO rfl
  have o1 := RowIs.cell (j := 1) RO rfl
  have o2 := RowIs.cell (j := 2) RO rfl
  have of := fun j => RowIs.frozen RO j
  have ol := RO.lt
  go_upto_region 3 with fail
  have hsv : (((w2.setCell ⟨w.heap.size + 2, 0, none⟩ (.int .i64 rl)).setCell ⟨w.heap.size + 2, 1, none⟩ (.int .i64 rt)).setCell ⟨w.heap.size + 2, 2, none⟩ (.slice ae2 es.length pe2)).heap.size = w2.heap.size := by simp
  replace RA := (((RA.far ⟨w.heap.size + 2, 0, none⟩ (.int .i64 rl) (show w.heap.size + 2 ≠ w.heap.size by omega)).far ⟨w.heap.size + 2, 1, none⟩ (.int .i64 rt) (show w.heap.size + 2 ≠ w.heap.size by omega)).far ⟨w.heap.size + 2, 2, none⟩ (.slice ae2 es.length pe2) (show w.heap.size + 2 ≠ w.heap.size by omega))
  replace RZ := (((RZ.far ⟨w.heap.size + 2, 0, none⟩ (.int .i64 rl) (show w.heap.size + 2 ≠ (w.heap.size + 1) by omega)).far ⟨w.heap.size + 2, 1, none⟩ (.int .i64 rt) (show w.heap.size + 2 ≠ (w.heap.size + 1) by omega)).far ⟨w.heap.size + 2, 2, none⟩ (.slice ae2 es.length pe2) (show w.heap.size + 2 ≠ (w.heap.size + 1) by omega))
  replace RO := (((RO.set 0 (.int .i64 rl)).set 1 (.int .i64 rt)).set 2 (.slice ae2 es.length pe2))
  replace HE := hide ((((HE.out.far ⟨w.heap.size + 2, 0, none⟩ (.int .i64 rl) (.inl (show w.heap.size + 2 < (w.heap.size + 3) by omega))).far ⟨w.heap.size + 2, 1, none⟩ (.int .i64 rt) (.inl (show w.heap.size + 2 < (w.heap.size + 3) by omega))).far ⟨w.heap.size + 2, 2, none⟩ (.slice ae2 es.length pe2) (.inl (show w.heap.size + 2 < (w.heap.size + 3) by omega))))
  replace HB := hide (((HB.out.setCell (p := ⟨w.heap.size + 2, 0, none⟩) (show w.heap.size ≤ w.heap.size + 2 by omega) (.int .i64 rl)).setCell (p := ⟨w.heap.size + 2, 1, none⟩) (show w.heap.size ≤ w.heap.size + 2 by omega) (.int .i64 rt)).setCell (p := ⟨w.heap.size + 2, 2, none⟩) (show w.heap.size ≤ w.heap.size + 2 by omega) (.slice ae2 es.length pe2))
  clear o0 o1 o2 of ol
  generalize (((w2.setCell ⟨w.heap.size + 2, 0, none⟩ (.int .i64 rl)).setCell ⟨w.heap.size + 2, 1, none⟩ (.int .i64 rt)).setCell ⟨w.heap.size + 2, 2, none⟩ (.slice ae2 es.length pe2)) = W2 at *
  rw [← he9] at hsv hw2s
  have hsW2 : W2.heap.size = e9 := hsv
  clear hsv he9
  have a3 := RowIs.cell (j := 3) RA rfl
  have a4 := RowIs.cell (j := 4) RA rfl
  have af := fun j => RowIs.frozen RA j
  have al := RA.lt
  have o3 := RowIs.cell (j := 3) RO rfl
  have o4 := RowIs.cell (j := 4) RO rfl
  have of := fun j => RowIs.frozen RO j
  have ol := RO.lt
  go_wp2_with fail
  refine (copy1 it ir (.slice ai it.length pi) _ (rd_fv (HV2.out.new HB.out)) hl2).mono ?_; rintro e w3 ⟨vI, rfl, ho, hb⟩
  obtain ⟨ai2, pi2, rfl, qI1, qI2⟩ := owns_form ho
  clear a3 a4 af al
  clear o3 o4 of ol
  rw [hsW2] at ho
  have hw3s := hb.size
  rw [hsW2] at hw3s
  obtain ⟨i9, hi9⟩ : ∃ n, n = w3.heap.size := ⟨_, rfl⟩
  have hOI := (fun z => fv_ow z (rd_fine HV2.out)) ho
  rw [← hi9] at hOI
  replace RA := RA.new hb
  replace RZ := RZ.new hb
  replace RO := RO.new hb
  replace HE := hide (HE.out.new hb)
  replace HB := hide (bchain HB.out hb)
  have HI := hide hOI
  clear hb ho hOI
  have o3 := RowIs.cell (j := 3) RO rfl
  have o4 := RowIs.cell (j := 4) RO rfl
  have of := fun j => RowIs.frozen RO j
  have ol := RO.lt
  go_upto_region 4 with fail
  have hsv : ((w3.setCell ⟨w.heap.size + 2, 3, none⟩ (.int .i64 ir)).setCell ⟨w.heap.size + 2, 4, none⟩ (.slice ai2 it.length pi2)).heap.size = w3.heap.size := by simp
  replace RA := ((RA.far ⟨w.heap.size + 2, 3, none⟩ (.int .i64 ir) (show w.heap.size + 2 ≠ w.heap.size by omega)).far ⟨w.heap.size + 2, 4, none⟩ (.slice ai2 it.length pi2) (show w.heap.size + 2 ≠ w.heap.size by omega))
  replace RZ := ((RZ.far ⟨w.heap.size + 2, 3, none⟩ (.int .i64 ir) (show w.heap.size + 2 ≠ (w.heap.size + 1) by omega)).far ⟨w.heap.size + 2, 4, none⟩ (.slice ai2 it.length pi2) (show w.heap.size + 2 ≠ (w.heap.size + 1) by omega))
  replace RO := ((RO.set 3 (.int .i64 ir)).set 4 (.slice ai2 it.length pi2))
  replace HE := hide (((HE.out.far ⟨w.heap.size + 2, 3, none⟩ (.int .i64 ir) (.inl (show w.heap.size + 2 < (w.heap.size + 3) by omega))).far ⟨w.heap.size + 2, 4, none⟩ (.slice ai2 it.length pi2) (.inl (show w.heap.size + 2 < (w.heap.size + 3) by omega))))
  replace HI := hide (((HI.out.far ⟨w.heap.size + 2, 3, none⟩ (.int .i64 ir) (.inl (show w.heap.size + 2 < e9 by omega))).far ⟨w.heap.size + 2, 4, none⟩ (.slice ai2 it.length pi2) (.inl (show w.heap.size + 2 < e9 by omega))))
  replace HB := hide ((HB.out.setCell (p := ⟨w.heap.size + 2, 3, none⟩) (show w.heap.size ≤ w.heap.size + 2 by omega) (.int .i64 ir)).setCell (p := ⟨w.heap.size + 2, 4, none⟩) (show w.heap.size ≤ w.heap.size + 2 by omega) (.slice ai2 it.length pi2))
  clear o3 o4 of ol
  generalize ((w3.setCell ⟨w.heap.size + 2, 3, none⟩ (.int .i64 ir)).setCell ⟨w.heap.size + 2, 4, none⟩ (.slice ai2 it.length pi2)) = W3 at *
  rw [← hi9] at hsv hw3s
  have hsW3 : W3.heap.size = i9 := hsv
  clear hsv hi9
  have a5 := RowIs.cell (j := 5) RA rfl
  have a6 := RowIs.cell (j := 6) RA rfl
  have af := fun j => RowIs.frozen RA j
  have al := RA.lt
  have o5 := RowIs.cell (j := 5) RO rfl
  have o6 := RowIs.cell (j := 6) RO rfl
  have of := fun j => RowIs.frozen RO j
  have ol := RO.lt
  go_wp2_with fail
  refine (copy1 ot orr (.slice ao ot.length po) _ (rd_fv (HV3.out.new HB.out)) hl3).mono ?_; rintro e w4 ⟨vU, rfl, ho, hb⟩
  obtain ⟨ao2, po2, rfl, qU1, qU2⟩ := owns_form ho
  clear a5 a6 af al
  clear o5 o6 of ol
  rw [hsW3] at ho
  have hw4s := hb.size
  rw [hsW3] at hw4s
  obtain ⟨u9, hu9⟩ : ∃ n, n = w4.heap.size := ⟨_, rfl⟩
  have hOU := (fun z => fv_ow z (rd_fine HV3.out)) ho
  rw [← hu9] at hOU
  replace RA := RA.new hb
  replace RZ := RZ.new hb
  replace RO := RO.new hb
  replace HE := hide (HE.out.new hb)
  replace HI := hide (HI.out.new hb)
  replace HB := hide (bchain HB.out hb)
  have HU := hide hOU
  clear hb ho hOU
  have o5 := RowIs.cell (j := 5) RO rfl
  have o6 := RowIs.cell (j := 6) RO rfl
  have of := fun j => RowIs.frozen RO j
  have ol := RO.lt
  go_upto_region 5 with fail
  have hsv : ((w4.setCell ⟨w.heap.size + 2, 5, none⟩ (.int .i64 orr)).setCell ⟨w.heap.size + 2, 6, none⟩ (.slice ao2 ot.length po2)).heap.size = w4.heap.size := by simp
  replace RA := ((RA.far ⟨w.heap.size + 2, 5, none⟩ (.int .i64 orr) (show w.heap.size + 2 ≠ w.heap.size by omega)).far ⟨w.heap.size + 2, 6, none⟩ (.slice ao2 ot.length po2) (show w.heap.size + 2 ≠ w.heap.size by omega))
  replace RZ := ((RZ.far ⟨w.heap.size + 2, 5, none⟩ (.int .i64 orr) (show w.heap.size + 2 ≠ (w.heap.size + 1) by omega)).far ⟨w.heap.size + 2, 6, none⟩ (.slice ao2 ot.length po2) (show w.heap.size + 2 ≠ (w.heap.size + 1) by omega))
  replace RO := ((RO.set 5 (.int .i64 orr)).set 6 (.slice ao2 ot.length po2))
  replace HE := hide (((HE.out.far ⟨w.heap.size + 2, 5, none⟩ (.int .i64 orr) (.inl (show w.heap.size + 2 < (w.heap.size + 3) by omega))).far ⟨w.heap.size + 2, 6, none⟩ (.slice ao2 ot.length po2) (.inl (show w.heap.size + 2 < (w.heap.size + 3) by omega))))
  replace HI := hide (((HI.out.far ⟨w.heap.size + 2, 5, none⟩ (.int .i64 orr) (.inl (show w.heap.size + 2 < e9 by omega))).far ⟨w.heap.size + 2, 6, none⟩ (.slice ao2 ot.length po2) (.inl (show w.heap.size + 2 < e9 by omega))))
  replace HU := hide (((HU.out.far ⟨w.heap.size + 2, 5, none⟩ (.int .i64 orr) (.inl (show w.heap.size + 2 < i9 by omega))).far ⟨w.heap.size + 2, 6, none⟩ (.slice ao2 ot.length po2) (.inl (show w.heap.size + 2 < i9 by omega))))
  replace HB := hide ((HB.out.setCell (p := ⟨w.heap.size + 2, 5, none⟩) (show w.heap.size ≤ w.heap.size + 2 by omega) (.int .i64 orr)).setCell (p := ⟨w.heap.size + 2, 6, none⟩) (show w.heap.size ≤ w.heap.size + 2 by omega) (.slice ao2 ot.length po2))
  clear o5 o6 of ol
  generalize ((w4.setCell ⟨w.heap.size + 2, 5, none⟩ (.int .i64 orr)).setCell ⟨w.heap.size + 2, 6, none⟩ (.slice ao2 ot.length po2)) = W4 at *
  rw [← hu9] at hsv hw4s
  have hsW4 : W4.heap.size = u9 := hsv
  clear hsv hu9
  have hb : Below W4.heap.size W4 (W4.alloc (.cells #[] 89)) := (Below.refl _ _).alloc (Nat.le_refl _) _
  have HF0 : Hid (OwX flowS (W4.alloc (.cells #[] 89)) u9 (W4.alloc (.cells #[] 89)).heap.size (.slice (some ⟨u9, 0, none⟩) 0 0) []) := by have h0 := owX_empty (E := flowS) W4 (W4.alloc (.cells #[] 89)).heap.size (by simp); rw [hsW4] at h0; exact h0
  have hsa : (W4.alloc (.cells #[] 89)).heap.size = u9 + 1 := by simp; omega
  replace RA := RA.new hb
  replace RZ := RZ.new hb
  replace RO := RO.new hb
  replace HE := hide (HE.out.new hb)
  replace HI := hide (HI.out.new hb)
  replace HU := hide (HU.out.new hb)
  replace HB := hide (bchain HB.out hb)
  have o10 := RowIs.cell (j := 10) RO rfl
  have of := fun j => RowIs.frozen RO j
  have ol := RO.lt
  go_upto_region 6 with fail
  have hsv : ((W4.alloc (.cells #[] 89)).setCell ⟨w.heap.size + 2, 10, none⟩ (.slice (some ⟨u9, 0, none⟩) 0 0)).heap.size = (W4.alloc (.cells #[] 89)).heap.size := by simp
  replace RA := (RA.far ⟨w.heap.size + 2, 10, none⟩ (.slice (some ⟨u9, 0, none⟩) 0 0) (show w.heap.size + 2 ≠ w.heap.size by omega))
  replace RZ := (RZ.far ⟨w.heap.size + 2, 10, none⟩ (.slice (some ⟨u9, 0, none⟩) 0 0) (show w.heap.size + 2 ≠ (w.heap.size + 1) by omega))
  replace RO := (RO.set 10 (.slice (some ⟨u9, 0, none⟩) 0 0))
  replace HE := hide ((HE.out.far ⟨w.heap.size + 2, 10, none⟩ (.slice (some ⟨u9, 0, none⟩) 0 0) (.inl (show w.heap.size + 2 < (w.heap.size + 3) by omega))))
  replace HI := hide ((HI.out.far ⟨w.heap.size + 2, 10, none⟩ (.slice (some ⟨u9, 0, none⟩) 0 0) (.inl (show w.heap.size + 2 < e9 by omega))))
  replace HU := hide ((HU.out.far ⟨w.heap.size + 2, 10, none⟩ (.slice (some ⟨u9, 0, none⟩) 0 0) (.inl (show w.heap.size + 2 < i9 by omega))))
  replace HF0 := hide ((HF0.out.far ⟨w.heap.size + 2, 10, none⟩ (.slice (some ⟨u9, 0, none⟩) 0 0) (.inl (show w.heap.size + 2 < u9 by omega))))
  replace HB := hide (HB.out.setCell (p := ⟨w.heap.size + 2, 10, none⟩) (show w.heap.size ≤ w.heap.size + 2 by omega) (.slice (some ⟨u9, 0, none⟩) 0 0))
  clear o10 of ol
  generalize ((W4.alloc (.cells #[] 89)).setCell ⟨w.heap.size + 2, 10, none⟩ (.slice (some ⟨u9, 0, none⟩) 0 0)) = W5 at *
  rw [hsa] at hsv HF0
  clear hb hsa
  have HF1 := hide (HF0.out.wide (lo' := u9) (hi' := W5.heap.size) (Nat.le_refl _) (by omega))
  have HRA := hide RA; have HRZ := hide RZ; have HRO := hide RO
  have hx5 : u9 ≤ W5.heap.size := by omega
  have he0f : w.heap.size + 3 ≤ e9 ∧ e9 ≤ i9 ∧ i9 ≤ u9 := ⟨hw2s, hw3s, hw4s⟩
  clear RA RZ RO HF0 hsv hsW4 hw4s hsW3 hw3s hsW2 hw2s hsW1 hsO
  have a10 := RowIs.cell (j := 10) HRA.out rfl
  go_wp2_with fail
  clear a10
  go_loopw [4] (fun i wr => ∃ (k : Nat) (ab : Option Addr) (pb : Nat), i = .int .i64 (k : Int) ∧ k ≤ fl.length ∧ Hid (RowIs wr w.heap.size 43 [.int .i64 rl, .int .i64 rt, .slice ae es.length pe, .int .i64 ir, .slice ai it.length pi, .int .i64 orr, .slice ao ot.length po, .int .i64 gt, .int .i64 gv, .int .i64 fs, .slice af fl.length pf, .bool aw, .bool de]) ∧ Hid (RowIs wr (w.heap.size + 1) 43 [.int .i64 0, .int .i64 0, .slice none 0 0, .int .i64 0, .slice none 0 0, .int .i64 0, .slice none 0 0, .int .i64 0, .int .i64 0, .int .i64 0, .slice none 0 0, .bool false, .bool false]) ∧ Hid (RowIs wr (w.heap.size + 2) 43 [.int .i64 rl, .int .i64 rt, .slice ae2 es.length pe2, .int .i64 ir, .slice ai2 it.length pi2, .int .i64 orr, .slice ao2 ot.length po2, .int .i64 gt, .int .i64 gv, .int .i64 fs, .slice ab k pb, .bool aw, .bool de]) ∧ Hid (OwX entryS wr (w.heap.size + 3) e9 (.slice ae2 es.length pe2) es) ∧ Hid (OwX fieldS wr e9 i9 (.slice ai2 it.length pi2) it) ∧ Hid (OwX fieldS wr i9 u9 (.slice ao2 ot.length po2) ot) ∧ Hid (OwX flowS wr u9 wr.heap.size (.slice ab k pb) (fl.take k)) ∧ Hid (Below w.heap.size w wr) ∧ u9 ≤ wr.heap.size) (fun i _ => fl.length - (intOf i).toNat)
  case atStart => exact ⟨0, _, _, rfl, Nat.zero_le _, HRA, HRZ, HRO, HE, HI, HU, HF1, HB, hx5⟩
  case round =>
    clear HRA HRZ HRO HE HI HU HF1 HB hx5
    obtain ⟨k, ab, pb, rfl, hk, HRA, HRZ, HRO, HE, HI, HU, HF, HB, hsr⟩ := hrel
    have a10 := RowIs.cell (j := 10) HRA.out rfl
    have al := HRA.out.lt
    by_cases hlt : k < fl.length
    rotate_left
    · have hltI : ¬ (k : Int) < fl.length := by omega
      obtain rfl : k = fl.length := by omega
      rw [List.take_length] at HF
      have HR2 := hide (rowIs_setRow (cs' := [.int .i64 rl, .int .i64 rt, .slice ae2 es.length pe2, .int .i64 ir, .slice ai2 it.length pi2, .int .i64 orr, .slice ao2 ot.length po2, .int .i64 gt, .int .i64 gv, .int .i64 fs, .slice ab fl.length pb, .bool aw, .bool de]) HRZ.out)
      have HB2 := hide (below_setRow HB.out (show w.heap.size ≤ w.heap.size + 1 by omega) #[.int .i64 rl, .int .i64 rt, .slice ae2 es.length pe2, .int .i64 ir, .slice ai2 it.length pi2, .int .i64 orr, .slice ao2 ot.length po2, .int .i64 gt, .int .i64 gv, .int .i64 fs, .slice ab fl.length pb, .bool aw, .bool de])
      have hsx : (wr.setRow (w.heap.size + 1) #[.int .i64 rl, .int .i64 rt, .slice ae2 es.length pe2, .int .i64 ir, .slice ai2 it.length pi2, .int .i64 orr, .slice ao2 ot.length po2, .int .i64 gt, .int .i64 gv, .int .i64 fs, .slice ab fl.length pb, .bool aw, .bool de]).heap.size = wr.heap.size := setRow_size _ _ _
      have hkx : ∀ q, w.heap.size + 3 ≤ q → (wr.setRow (w.heap.size + 1) #[.int .i64 rl, .int .i64 rt, .slice ae2 es.length pe2, .int .i64 ir, .slice ai2 it.length pi2, .int .i64 orr, .slice ao2 ot.length po2, .int .i64 gt, .int .i64 gv, .int .i64 fs, .slice ab fl.length pb, .bool aw, .bool de]).heap[q]? = wr.heap[q]? := fun q hq => setRow_other _ _ _ _ (by omega)
      go_wp2_with (first | (refine wpList_load_row (by rfl) 43 _ (by rfl) (w.heap.size + 2) (by rfl) [.int .i64 rl, .int .i64 rt, .slice ae2 es.length pe2, .int .i64 ir, .slice ai2 it.length pi2, .int .i64 orr, .slice ao2 ot.length po2, .int .i64 gt, .int .i64 gv, .int .i64 fs, .slice ab fl.length pb, .bool aw, .bool de] _ 43 HRO.out Tryz.underlying43 rfl (by kernel_rfl) ?_) | (refine wpList_store_row (by rfl) 43 _ _ (by rfl) (w.heap.size + 1) [.int .i64 rl, .int .i64 rt, .slice ae2 es.length pe2, .int .i64 ir, .slice ai2 it.length pi2, .int .i64 orr, .slice ao2 ot.length po2, .int .i64 gt, .int .i64 gv, .int .i64 fs, .slice ab fl.length pb, .bool aw, .bool de] (by rfl) (by rfl) 43 [.int .i64 0, .int .i64 0, .slice none 0 0, .int .i64 0, .slice none 0 0, .int .i64 0, .slice none 0 0, .int .i64 0, .int .i64 0, .int .i64 0, .slice none 0 0, .bool false, .bool false] HRZ.out (by kernel_rfl) rfl (by intro u hu; simp at hu; rcases hu with rfl | rfl | rfl | rfl | rfl | rfl | rfl | rfl | rfl | rfl | rfl | rfl | rfl <;> rfl) ?_))
      generalize wr.setRow (w.heap.size + 1) #[.int .i64 rl, .int .i64 rt, .slice ae2 es.length pe2, .int .i64 ir, .slice ai2 it.length pi2, .int .i64 orr, .slice ao2 ot.length po2, .int .i64 gt, .int .i64 gv, .int .i64 fs, .slice ab fl.length pb, .bool aw, .bool de] = V at *
      have HE2 := HE.out.keep1 hsx (fun q hq => hkx q (by omega))
      have HI2 := HI.out.keep1 hsx (fun q hq => hkx q (by omega))
      have HU2 := HU.out.keep1 hsx (fun q hq => hkx q (by omega))
      have HF2 := HF.out.keep1 hsx (fun q hq => hkx q (by omega))
      obtain ⟨bs, hcn, hlo⟩ := cnow_of (d := ⟨⟨rl, rt, es⟩, ir, it, orr, ot, gt, gv, fs, fl, aw, de⟩) HE2 HI2 HU2 HF2 (by omega) (by omega) (by omega) (by omega) (by omega) (by omega)
      have HCN := hide hcn
      clear hcn HE2 HI2 HU2 HF2
      have z0 := RowIs.cell (j := 0) HR2.out rfl
      have z1 := RowIs.cell (j := 1) HR2.out rfl
      have z2 := RowIs.cell (j := 2) HR2.out rfl
      have z3 := RowIs.cell (j := 3) HR2.out rfl
      have z4 := RowIs.cell (j := 4) HR2.out rfl
      have z5 := RowIs.cell (j := 5) HR2.out rfl
      have z6 := RowIs.cell (j := 6) HR2.out rfl
      have z7 := RowIs.cell (j := 7) HR2.out rfl
      have z8 := RowIs.cell (j := 8) HR2.out rfl
      have z9 := RowIs.cell (j := 9) HR2.out rfl
      have z10 := RowIs.cell (j := 10) HR2.out rfl
      have z11 := RowIs.cell (j := 11) HR2.out rfl
      have z12 := RowIs.cell (j := 12) HR2.out rfl
      have zf := fun j => RowIs.frozen HR2.out j
      refine bodyPost_ret (v := .agg #[.int .i64 rl, .int .i64 rt, .slice ae2 es.length pe2, .int .i64 ir, .slice ai2 it.length pi2, .int .i64 orr, .slice ao2 ot.length po2, .int .i64 gt, .int .i64 gv, .int .i64 fs, .slice ab fl.length pb, .bool aw, .bool de]) (by simp [results, Tryz.results23, go_sem, *]) rfl ?_
      exact ⟨_, rfl, ⟨_, _, _, _, bs, rfl, HCN.out, fun q hq => by have := hlo q hq; omega⟩, HB2.out⟩
    have hltI : (k : Int) < fl.length := by omega
    obtain ⟨b, o, cs, hae, hbw, hrd, hc⟩ := (HV4.out.new HB.out).at k hlt
    subst hae
    have HTK : Hid (fl.take (k + 1) = fl.take k ++ [fl[k]]) := List.take_succ_eq_append_getElem hlt
    have h20 := H20.out fl[k] (List.getElem_mem hlt)
    obtain ⟨x, hx⟩ : ∃ x, fl[k] = x := ⟨_, rfl⟩
    rw [hx] at hrd HTK h20
    clear hx
    obtain ⟨vq, rfl, s0, s1, hfd⟩ := hrd
    obtain ⟨aq, pq, rfl, g1, g2⟩ := hfd.form
    have c0 : wr.cell? ⟨b, o + k * 15, none⟩ = some (.int .i64 x.id) := hc 0 _ rfl
    have c1 : wr.cell? ⟨b, o + k * 15 + 1, none⟩ = some (.int .i64 x.get) := hc 1 _ rfl
    have c2 : wr.cell? ⟨b, o + k * 15 + 2, none⟩ = some (.int .i64 x.give) := hc 2 _ rfl
    have c3 : wr.cell? ⟨b, o + k * 15 + 3, none⟩ = some (.slice aq x.fds.length pq) := hc 3 _ rfl
    have c4 : wr.cell? ⟨b, o + k * 15 + 4, none⟩ = some (.int .i64 x.tun.up.r) := hc 4 _ rfl
    have c5 : wr.cell? ⟨b, o + k * 15 + 5, none⟩ = some (.string x.tun.up.b) := hc 5 _ rfl
    have c6 : wr.cell? ⟨b, o + k * 15 + 6, none⟩ = some (.bool x.tun.up.e) := hc 6 _ rfl
    have c7 : wr.cell? ⟨b, o + k * 15 + 7, none⟩ = some (.bool x.tun.up.k) := hc 7 _ rfl
    have c8 : wr.cell? ⟨b, o + k * 15 + 8, none⟩ = some (.int .i64 x.tun.dn.r) := hc 8 _ rfl
    have c9 : wr.cell? ⟨b, o + k * 15 + 9, none⟩ = some (.string x.tun.dn.b) := hc 9 _ rfl
    have c10 : wr.cell? ⟨b, o + k * 15 + 10, none⟩ = some (.bool x.tun.dn.e) := hc 10 _ rfl
    have c11 : wr.cell? ⟨b, o + k * 15 + 11, none⟩ = some (.bool x.tun.dn.k) := hc 11 _ rfl
    have c12 : wr.cell? ⟨b, o + k * 15 + 12, none⟩ = some (.int .i64 x.tun.went) := hc 12 _ rfl
    have c13 : wr.cell? ⟨b, o + k * 15 + 13, none⟩ = some (.int .i64 x.tun.came) := hc 13 _ rfl
    have c14 : wr.cell? ⟨b, o + k * 15 + 14, none⟩ = some (.bool x.ended) := hc 14 _ rfl
    have hX : Below wr.heap.size wr ((wr.alloc (.cells #[.int .i64 0, .int .i64 0, .int .i64 0, .slice none 0 0, .int .i64 0, .string ⟨#[]⟩, .bool false, .bool false, .int .i64 0, .string ⟨#[]⟩, .bool false, .bool false, .int .i64 0, .int .i64 0, .bool false] 89)).setRow wr.heap.size #[.int .i64 x.id, .int .i64 x.get, .int .i64 x.give, .slice aq x.fds.length pq, .int .i64 x.tun.up.r, .string x.tun.up.b, .bool x.tun.up.e, .bool x.tun.up.k, .int .i64 x.tun.dn.r, .string x.tun.dn.b, .bool x.tun.dn.e, .bool x.tun.dn.k, .int .i64 x.tun.went, .int .i64 x.tun.came, .bool x.ended]) := below_setRow ((Below.refl _ _).alloc (Nat.le_refl _) _) (Nat.le_refl _) #[.int .i64 x.id, .int .i64 x.get, .int .i64 x.give, .slice aq x.fds.length pq, .int .i64 x.tun.up.r, .string x.tun.up.b, .bool x.tun.up.e, .bool x.tun.up.k, .int .i64 x.tun.dn.r, .string x.tun.dn.b, .bool x.tun.dn.e, .bool x.tun.dn.k, .int .i64 x.tun.went, .int .i64 x.tun.came, .bool x.ended]
    have RX : RowIs ((wr.alloc (.cells #[.int .i64 0, .int .i64 0, .int .i64 0, .slice none 0 0, .int .i64 0, .string ⟨#[]⟩, .bool false, .bool false, .int .i64 0, .string ⟨#[]⟩, .bool false, .bool false, .int .i64 0, .int .i64 0, .bool false] 89)).setRow wr.heap.size #[.int .i64 x.id, .int .i64 x.get, .int .i64 x.give, .slice aq x.fds.length pq, .int .i64 x.tun.up.r, .string x.tun.up.b, .bool x.tun.up.e, .bool x.tun.up.k, .int .i64 x.tun.dn.r, .string x.tun.dn.b, .bool x.tun.dn.e, .bool x.tun.dn.k, .int .i64 x.tun.went, .int .i64 x.tun.came, .bool x.ended]) wr.heap.size 89 [.int .i64 x.id, .int .i64 x.get, .int .i64 x.give, .slice aq x.fds.length pq, .int .i64 x.tun.up.r, .string x.tun.up.b, .bool x.tun.up.e, .bool x.tun.up.k, .int .i64 x.tun.dn.r, .string x.tun.dn.b, .bool x.tun.dn.e, .bool x.tun.dn.k, .int .i64 x.tun.went, .int .i64 x.tun.came, .bool x.ended] := rowIs_setRow (rowIs_new wr 89 [.int .i64 0, .int .i64 0, .int .i64 0, .slice none 0 0, .int .i64 0, .string ⟨#[]⟩, .bool false, .bool false, .int .i64 0, .string ⟨#[]⟩, .bool false, .bool false, .int .i64 0, .int .i64 0, .bool false])
    have hsX : ((wr.alloc (.cells #[.int .i64 0, .int .i64 0, .int .i64 0, .slice none 0 0, .int .i64 0, .string ⟨#[]⟩, .bool false, .bool false, .int .i64 0, .string ⟨#[]⟩, .bool false, .bool false, .int .i64 0, .int .i64 0, .bool false] 89)).setRow wr.heap.size #[.int .i64 x.id, .int .i64 x.get, .int .i64 x.give, .slice aq x.fds.length pq, .int .i64 x.tun.up.r, .string x.tun.up.b, .bool x.tun.up.e, .bool x.tun.up.k, .int .i64 x.tun.dn.r, .string x.tun.dn.b, .bool x.tun.dn.e, .bool x.tun.dn.k, .int .i64 x.tun.went, .int .i64 x.tun.came, .bool x.ended]).heap.size = wr.heap.size + 1 := by rw [setRow_size]; simp
    have HLS := hide (hfd.new hX)
    clear hc hfd
    go_upto_region 10 with (refine wpList_store_row (by rfl) 89 _ _ (by rfl) wr.heap.size [.int .i64 x.id, .int .i64 x.get, .int .i64 x.give, .slice aq x.fds.length pq, .int .i64 x.tun.up.r, .string x.tun.up.b, .bool x.tun.up.e, .bool x.tun.up.k, .int .i64 x.tun.dn.r, .string x.tun.dn.b, .bool x.tun.dn.e, .bool x.tun.dn.k, .int .i64 x.tun.went, .int .i64 x.tun.came, .bool x.ended] (by rfl) (by rfl) 89 [.int .i64 0, .int .i64 0, .int .i64 0, .slice none 0 0, .int .i64 0, .string ⟨#[]⟩, .bool false, .bool false, .int .i64 0, .string ⟨#[]⟩, .bool false, .bool false, .int .i64 0, .int .i64 0, .bool false] (rowIs_new wr 89 [.int .i64 0, .int .i64 0, .int .i64 0, .slice none 0 0, .int .i64 0, .string ⟨#[]⟩, .bool false, .bool false, .int .i64 0, .string ⟨#[]⟩, .bool false, .bool false, .int .i64 0, .int .i64 0, .bool false]) (by kernel_rfl) rfl (by intro u hu; simp at hu; rcases hu with rfl | rfl | rfl | rfl | rfl | rfl | rfl | rfl | rfl | rfl | rfl | rfl | rfl | rfl | rfl <;> rfl) ?_)
    replace HRA := hide (HRA.out.new hX); replace HRZ := hide (HRZ.out.new hX); replace HRO := hide (HRO.out.new hX)
    replace HE := hide (HE.out.new hX); replace HI := hide (HI.out.new hX); replace HU := hide (HU.out.new hX); replace HF := hide (HF.out.new hX)
    replace HB := hide (bchain HB.out hX)
    clear a10 al hbw c0 c1 c2 c3 c4 c5 c6 c7 c8 c9 c10 c11 c12 c13 c14 hX
    generalize hge : wr.heap.size = ge at *
    clear hge
    generalize (wr.alloc (.cells #[.int .i64 0, .int .i64 0, .int .i64 0, .slice none 0 0, .int .i64 0, .string ⟨#[]⟩, .bool false, .bool false, .int .i64 0, .string ⟨#[]⟩, .bool false, .bool false, .int .i64 0, .int .i64 0, .bool false] 89)).setRow ge #[.int .i64 x.id, .int .i64 x.get, .int .i64 x.give, .slice aq x.fds.length pq, .int .i64 x.tun.up.r, .string x.tun.up.b, .bool x.tun.up.e, .bool x.tun.up.k, .int .i64 x.tun.dn.r, .string x.tun.dn.b, .bool x.tun.dn.e, .bool x.tun.dn.k, .int .i64 x.tun.went, .int .i64 x.tun.came, .bool x.ended] = X at *
    have hgX : ge + 1 ≤ X.heap.size := by omega
    clear hsX
    have x3 := RX.cell (j := 3) rfl
    have xf := RX.frozen 3
    have xl := RX.lt
    have hY : Below X.heap.size X (X.alloc (.cells #[] 146)) := (Below.refl _ _).alloc (Nat.le_refl _) _
    have hoY : (X.alloc (.cells #[] 146)).ownsRow X.heap.size 146 2 (.slice (some ⟨X.heap.size, 0, none⟩) 0 0) 0 [] := owns_lit X 146 2 0 #[] rfl (by omega)
    have hrY := rd_fv (HLS.out.new hY)
    have HFI := hide (rd_fine HLS.out)
    go_wp2_with (at_builtin; go_must (refine wpList_app _ (by rfl) _ _ 38 (by rfl) 146 (.agg #[.string ⟨#[]⟩, .string ⟨#[]⟩]) 2 32 Tryz.underlying38 (by kernel_rfl) rfl (by decide) X.heap.size _ 0 [] (by rfl) hoY _ x.fds.length (fv x.fds) (by rfl) hrY (fv_one _) (by omega) (by decide) hY.size ?_))
    intro ad7 cp7 w7 hown7 hg7 hat7
    try simp only [Nat.zero_add, List.nil_append] at hown7
    have hb7 : Below X.heap.size X w7 := hY.grown hg7 hY.size (fun k hk => (hoY.lt k hk).1)
    have R7 := RX.new hb7
    have c37 := R7.cell (j := 3) rfl
    have f37 := R7.frozen 3
    have l7 := R7.lt
    have hs7 := hb7.size
    have HRB := hide (R7.set 3 (.slice ad7 x.fds.length cp7))
    have HO7 : Hid (w7.ownsRow X.heap.size 146 2 (.slice ad7 x.fds.length cp7) x.fds.length (fv x.fds)) := hown7
    have HO8 := hide (owns_apart HO7.out ⟨ge, 3, none⟩ (.slice ad7 x.fds.length cp7) (fun e => by have := (HO7.out.lt _ e).1; simp at this; omega))
    replace HRA := hide ((HRA.out.new hb7).far ⟨ge, 3, none⟩ (.slice ad7 x.fds.length cp7) (show ge ≠ w.heap.size by omega))
    replace HRZ := hide ((HRZ.out.new hb7).far ⟨ge, 3, none⟩ (.slice ad7 x.fds.length cp7) (show ge ≠ w.heap.size + 1 by omega))
    replace HRO := hide ((HRO.out.new hb7).far ⟨ge, 3, none⟩ (.slice ad7 x.fds.length cp7) (show ge ≠ w.heap.size + 2 by omega))
    replace HE := hide ((HE.out.new hb7).far ⟨ge, 3, none⟩ (.slice ad7 x.fds.length cp7) (.inr (show e9 ≤ ge by omega)))
    replace HI := hide ((HI.out.new hb7).far ⟨ge, 3, none⟩ (.slice ad7 x.fds.length cp7) (.inr (show i9 ≤ ge by omega)))
    replace HU := hide ((HU.out.new hb7).far ⟨ge, 3, none⟩ (.slice ad7 x.fds.length cp7) (.inr (show u9 ≤ ge by omega)))
    replace HF := hide ((HF.out.new hb7).far ⟨ge, 3, none⟩ (.slice ad7 x.fds.length cp7) (.inr (Nat.le_refl _)))
    replace HB := hide ((bchain HB.out hb7).setCell (p := ⟨ge, 3, none⟩) (show w.heap.size ≤ ge by omega) (.slice ad7 x.fds.length cp7))
    have hs8 : ge + 1 ≤ (w7.setCell ⟨ge, 3, none⟩ (.slice ad7 x.fds.length cp7)).heap.size := by simp; omega
    clear hown7 hg7 hat7 hoY hrY hY HO7 HLS RX x3 xf xl R7
    try rw [Nat.zero_add]
    go_upto_region 11 with fail
    clear c37 f37 l7 hb7
    generalize w7.setCell ⟨ge, 3, none⟩ (.slice ad7 x.fds.length cp7) = V at *
    have o10 := RowIs.cell (j := 10) HRO.out rfl
    have ol := HRO.out.lt
    have hZ : Below V.heap.size V (V.alloc (.cells #[.int .i64 x.id, .int .i64 x.get, .int .i64 x.give, .slice ad7 x.fds.length cp7, .int .i64 x.tun.up.r, .string x.tun.up.b, .bool x.tun.up.e, .bool x.tun.up.k, .int .i64 x.tun.dn.r, .string x.tun.dn.b, .bool x.tun.dn.e, .bool x.tun.dn.k, .int .i64 x.tun.went, .int .i64 x.tun.came, .bool x.ended] 89)) := (Below.refl _ _).alloc (Nat.le_refl _) _
    have RZ := rowIs_new V 89 [.int .i64 x.id, .int .i64 x.get, .int .i64 x.give, .slice ad7 x.fds.length cp7, .int .i64 x.tun.up.r, .string x.tun.up.b, .bool x.tun.up.e, .bool x.tun.up.k, .int .i64 x.tun.dn.r, .string x.tun.dn.b, .bool x.tun.dn.e, .bool x.tun.dn.k, .int .i64 x.tun.went, .int .i64 x.tun.came, .bool x.ended]
    have hrdl : Reads (V.alloc (.cells #[.int .i64 x.id, .int .i64 x.get, .int .i64 x.give, .slice ad7 x.fds.length cp7, .int .i64 x.tun.up.r, .string x.tun.up.b, .bool x.tun.up.e, .bool x.tun.up.k, .int .i64 x.tun.dn.r, .string x.tun.dn.b, .bool x.tun.dn.e, .bool x.tun.dn.k, .int .i64 x.tun.went, .int .i64 x.tun.came, .bool x.ended] 89)) (.slice (some ⟨V.heap.size, 0, none⟩) 1 1) 1 15 [.int .i64 x.id, .int .i64 x.get, .int .i64 x.give, .slice ad7 x.fds.length cp7, .int .i64 x.tun.up.r, .string x.tun.up.b, .bool x.tun.up.e, .bool x.tun.up.k, .int .i64 x.tun.dn.r, .string x.tun.dn.b, .bool x.tun.dn.e, .bool x.tun.dn.k, .int .i64 x.tun.went, .int .i64 x.tun.came, .bool x.ended] := ⟨by simp, _, _, rfl, Nat.le_refl _, by unfold maxLen; omega, fun _ => ⟨V.heap.size, 0, rfl, RZ.lt, fun r y hy => by simpa using RZ.cell hy⟩⟩
    have hone : ∀ y ∈ ([.int .i64 x.id, .int .i64 x.get, .int .i64 x.give, .slice ad7 x.fds.length cp7, .int .i64 x.tun.up.r, .string x.tun.up.b, .bool x.tun.up.e, .bool x.tun.up.k, .int .i64 x.tun.dn.r, .string x.tun.dn.b, .bool x.tun.dn.e, .bool x.tun.dn.k, .int .i64 x.tun.went, .int .i64 x.tun.came, .bool x.ended] : List Value), y.oneCell' = true := by intro y hu; simp at hu; rcases hu with rfl | rfl | rfl | rfl | rfl | rfl | rfl | rfl | rfl | rfl | rfl | rfl | rfl | rfl | rfl <;> rfl
    have hlk : (fl.take k).length = k := by rw [List.length_take]; omega
    have hsZ := hZ.size
    obtain ⟨xs, hoz, hgrow⟩ := (HF.out.new hZ).grow (by omega) (by omega)
    rw [hlk] at hoz hgrow
    have hoe : OwE flowS (V.alloc (.cells #[.int .i64 x.id, .int .i64 x.get, .int .i64 x.give, .slice ad7 x.fds.length cp7, .int .i64 x.tun.up.r, .string x.tun.up.b, .bool x.tun.up.e, .bool x.tun.up.k, .int .i64 x.tun.dn.r, .string x.tun.dn.b, .bool x.tun.dn.e, .bool x.tun.dn.k, .int .i64 x.tun.went, .int .i64 x.tun.came, .bool x.ended] 89)) ge (V.alloc (.cells #[.int .i64 x.id, .int .i64 x.get, .int .i64 x.give, .slice ad7 x.fds.length cp7, .int .i64 x.tun.up.r, .string x.tun.up.b, .bool x.tun.up.e, .bool x.tun.up.k, .int .i64 x.tun.dn.r, .string x.tun.dn.b, .bool x.tun.dn.e, .bool x.tun.dn.k, .int .i64 x.tun.went, .int .i64 x.tun.came, .bool x.ended] 89)).heap.size [.int .i64 x.id, .int .i64 x.get, .int .i64 x.give, .slice ad7 x.fds.length cp7, .int .i64 x.tun.up.r, .string x.tun.up.b, .bool x.tun.up.e, .bool x.tun.up.k, .int .i64 x.tun.dn.r, .string x.tun.dn.b, .bool x.tun.dn.e, .bool x.tun.dn.k, .int .i64 x.tun.went, .int .i64 x.tun.came, .bool x.ended] x := by
      have h9 := fv_owr (owns_base (owns_new HO8.out hZ) (fun _ _ => Nat.zero_le _)) HFI.out
      refine ⟨_, ⟨_, _, rfl, s0, s1, h9, rfl⟩, opt_nodup _, fun y hy => ⟨?_, h9.lt y hy⟩⟩
      cases hq : (Value.slice ad7 x.fds.length cp7).ownBlock with
      | none => rw [hq] at hy; cases hy
      | some z => rw [hq] at hy; simp at hy; subst hy; have := (HO8.out.lt y hq).1; omega
    have HGR := hide (fun w1 v' h1 h2 h3 => hgrow w1 v' _ x hoe h1 h2 h3)
    have HBO : Hid (∀ q, (Value.slice ab k pb).ownBlock = some q → u9 ≤ q) := fun q hq => (HF.out.own q hq).1
    replace HRA := hide (HRA.out.new hZ); replace HRZ := hide (HRZ.out.new hZ); replace HRO := hide (HRO.out.new hZ)
    replace HE := hide (HE.out.new hZ); replace HI := hide (HI.out.new hZ); replace HU := hide (HU.out.new hZ)
    have HBZ := hide (bchain HB.out hZ)
    clear hgrow hoe RZ HF HO8 HB hZ
    go_wp2_with (first | (refine wpList_load_row (by rfl) 89 _ (by rfl) ge (by rfl) [.int .i64 x.id, .int .i64 x.get, .int .i64 x.give, .slice ad7 x.fds.length cp7, .int .i64 x.tun.up.r, .string x.tun.up.b, .bool x.tun.up.e, .bool x.tun.up.k, .int .i64 x.tun.dn.r, .string x.tun.dn.b, .bool x.tun.dn.e, .bool x.tun.dn.k, .int .i64 x.tun.went, .int .i64 x.tun.came, .bool x.ended] _ 89 HRB.out Tryz.underlying89 rfl (by kernel_rfl) ?_) | (at_builtin; go_must (refine wpList_app _ (by rfl) _ _ 41 (by rfl) 89 (.agg #[.int .i64 0, .int .i64 0, .int .i64 0, .slice none 0 0, .int .i64 0, .string ⟨#[]⟩, .bool false, .bool false, .int .i64 0, .string ⟨#[]⟩, .bool false, .bool false, .int .i64 0, .int .i64 0, .bool false]) 15 136 Tryz.underlying41 (by kernel_rfl) rfl (by decide) 0 _ k xs (by rfl) hoz _ 1 _ (by rfl) hrdl hone (by omega) (by decide) (Nat.zero_le _) ?_)))
    intro ad9 cp9 w9 hown9 hg9 hat9
    obtain ⟨U, hU⟩ : ∃ U, V.alloc (.cells #[.int .i64 x.id, .int .i64 x.get, .int .i64 x.give, .slice ad7 x.fds.length cp7, .int .i64 x.tun.up.r, .string x.tun.up.b, .bool x.tun.up.e, .bool x.tun.up.k, .int .i64 x.tun.dn.r, .string x.tun.dn.b, .bool x.tun.dn.e, .bool x.tun.dn.k, .int .i64 x.tun.went, .int .i64 x.tun.came, .bool x.ended] 89) = U := ⟨_, rfl⟩
    have HO9 := hide (HGR.out w9 _ hown9 hg9 (hat9.imp id (fun h => by rw [h]; simp)))
    rw [hU] at HRA HRZ HRO HE HI HU HBZ hg9 hsZ
    have HTR : Turn u9 U.heap.size U w9 := ⟨hg9.os, hg9.tape, hg9.output, hg9.size, fun q hq hn => hg9.block q hq (fun e => by have := HBO.out q e.symm; omega)⟩
    have hsU : u9 ≤ U.heap.size := by omega
    have HB9 := hide (HBZ.out.grown hg9 (by omega) (fun q hq => by have := HBO.out q hq; omega))
    rw [← HTK.out] at HO9
    replace HRA := hide (HRA.out.kept (HTR.block _ HRA.out.lt (by omega)))
    replace HRZ := hide (HRZ.out.kept (HTR.block _ HRZ.out.lt (by omega)))
    replace HRO := hide (HRO.out.kept (HTR.block _ HRO.out.lt (by omega)))
    replace HE := hide (HE.out.turn HTR (.inl (by omega)))
    replace HI := hide (HI.out.turn HTR (.inl (by omega)))
    replace HU := hide (HU.out.turn HTR (.inl (by omega)))
    have hs9 : u9 ≤ w9.heap.size := Nat.le_trans hsU HTR.size
    clear hown9 hg9 hat9 HGR HBZ HBO hoz hrdl hone HRB HTR o10 ol hU
    have o10 := RowIs.cell (j := 10) HRO.out rfl
    have of := fun j => RowIs.frozen HRO.out j
    have ol := HRO.out.lt
    have hsw : (w9.setCell ⟨w.heap.size + 2, 10, none⟩ (.slice ad9 (k + 1) cp9)).heap.size = w9.heap.size := by simp
    replace HRA := hide (HRA.out.far ⟨w.heap.size + 2, 10, none⟩ (.slice ad9 (k + 1) cp9) (show w.heap.size + 2 ≠ w.heap.size by omega))
    replace HRZ := hide (HRZ.out.far ⟨w.heap.size + 2, 10, none⟩ (.slice ad9 (k + 1) cp9) (show w.heap.size + 2 ≠ w.heap.size + 1 by omega))
    have HRO2 := hide (HRO.out.set 10 (.slice ad9 (k + 1) cp9))
    replace HE := hide (HE.out.far ⟨w.heap.size + 2, 10, none⟩ (.slice ad9 (k + 1) cp9) (.inl (show w.heap.size + 2 < w.heap.size + 3 by omega)))
    replace HI := hide (HI.out.far ⟨w.heap.size + 2, 10, none⟩ (.slice ad9 (k + 1) cp9) (.inl (show w.heap.size + 2 < e9 by omega)))
    replace HU := hide (HU.out.far ⟨w.heap.size + 2, 10, none⟩ (.slice ad9 (k + 1) cp9) (.inl (show w.heap.size + 2 < i9 by omega)))
    replace HO9 := hide (HO9.out.far ⟨w.heap.size + 2, 10, none⟩ (.slice ad9 (k + 1) cp9) (.inl (show w.heap.size + 2 < u9 by omega)))
    replace HB9 := hide (HB9.out.setCell (p := ⟨w.heap.size + 2, 10, none⟩) (show w.heap.size ≤ w.heap.size + 2 by omega) (.slice ad9 (k + 1) cp9))
    rw [← hsw] at HO9 hs9
    clear HRO hsw
    go_wp2_with fail
    go_roundw
    case rel => exact ⟨k + 1, ad9, cp9, by go_num, by omega, HRA, HRZ, HRO2, HE, HI, HU, HO9, HB9, hs9⟩
    case measure => simp [intOf]; omega
end Go.Proofs.YtllaeakeaabiaaaGreat
/- Chapter 17's model in place: taken out of a stream. -/
namespace Go.Proofs.YtllaeakeaabiaaaGreat
open Go.RowKit
set_option maxRecDepth 100000
set_option linter.unusedSimpArgs false
set_option linter.unusedVariables false
theorem took_none {c : CnD} {id n : Int} (h : atE c.reg.es id = none) : tookRaw c id n = (c, [], ⟨#[]⟩) := by unfold tookRaw; rw [h]
theorem took_dead {c : CnD} {id n : Int} {k : Nat} (h : atE c.reg.es id = some k) (h1 : k < c.flows.length) (h2 : k < c.reg.es.length) (hd : c.dead = true) : tookRaw c id n = (c, [], ⟨#[]⟩) := by
  unfold tookRaw; rw [h]; simp only [List.getElem?_eq_getElem h1, List.getElem?_eq_getElem h2]; rw [if_pos hd]
theorem inM (t : TuD) (s : ByteArray) (fin : Bool) (g ot : Nat) (ty : TypeId) (A C : List Value) (w : World) (R : MidIs w g ty A C ot (tucs t)) (hk : okTu t = true) (hs : s.size ≤ 1048576) :
    Calls Tryz.prog 111 #[.pointer (some ⟨g, ot, none⟩), .string s, .bool fin] w fun x w' => x = .returned (.bool (inTu t s fin).2) ∧ MidIs w' g ty A C ot (tucs (inTu t s fin).1) ∧ Turn g (g + 1) w w' := by
  have hpu := okPp_true (okTu_true hk).1
  obtain ⟨⟨r, b, e, k⟩, ⟨r2, b2, e2, k2⟩, wt, cm⟩ := t
  dsimp only at hpu
  have hnk : ¬ okTu ⟨⟨r, b, e, k⟩, ⟨r2, b2, e2, k2⟩, wt, cm⟩ = false := by rw [hk]; decide
  have hs2 : s.size ≤ maxLen := by unfold maxLen; omega
  cases e
  rotate_left
  · have hv : inTu ⟨⟨r, b, true, k⟩, ⟨r2, b2, e2, k2⟩, wt, cm⟩ s fin = (⟨⟨r, b, true, k⟩, ⟨r2, b2, e2, k2⟩, wt, cm⟩, false) := by unfold inTu; rw [if_neg hnk, if_pos (.inl rfl)]
    rw [hv]
    refine (l16In_eM r b k r2 b2 e2 k2 wt cm s fin g ot ty A C w R).mono ?_
    rintro x w' ⟨rfl, rfl⟩
    exact ⟨rfl, ⟨R.row, R.off⟩, (Turn.refl _ _ _).drewN 1⟩
  cases k
  rotate_left
  · have hv : inTu ⟨⟨r, b, false, true⟩, ⟨r2, b2, e2, k2⟩, wt, cm⟩ s fin = (⟨⟨r, b, false, true⟩, ⟨r2, b2, e2, k2⟩, wt, cm⟩, false) := by unfold inTu; rw [if_neg hnk, if_pos (.inr (.inl rfl))]
    rw [hv]
    refine (l16In_kM r b r2 b2 e2 k2 wt cm s fin g ot ty A C w R).mono ?_
    rintro x w' ⟨rfl, rfl⟩
    exact ⟨rfl, ⟨R.row, R.off⟩, (Turn.refl _ _ _).drewN 1⟩
  by_cases hno : r - b.size < s.size
  · have hv : inTu ⟨⟨r, b, false, false⟩, ⟨r2, b2, e2, k2⟩, wt, cm⟩ s fin = (⟨⟨r, b, false, false⟩, ⟨r2, b2, e2, k2⟩, wt, cm⟩, false) := by unfold inTu; rw [if_neg hnk, if_pos (.inr (.inr hno))]
    rw [hv]
    refine (l16In_roomM r b r2 b2 e2 k2 wt cm s fin g ot ty A C w R (by omega) (by omega) (by omega) hs2 hno).mono ?_
    rintro x w' ⟨rfl, rfl⟩
    exact ⟨rfl, ⟨R.row, R.off⟩, (Turn.refl _ _ _).drewN 1⟩
  · have hv : inTu ⟨⟨r, b, false, false⟩, ⟨r2, b2, e2, k2⟩, wt, cm⟩ s fin = (⟨⟨r, b ++ s, fin, false⟩, ⟨r2, b2, e2, k2⟩, wt, cm⟩, true) := by
      unfold inTu; rw [if_neg hnk, if_neg (by rintro (h | h | h); cases h; cases h; exact hno h)]
    rw [hv]
    exact l16In_yesM r b r2 b2 e2 k2 wt cm s fin g ot ty A C w R (by omega) (by omega) hs (by omega)
end Go.Proofs.YtllaeakeaabiaaaGreat
/- The model's way to write a list of Fields, by a Table in the midst of a block. -/
namespace Go.Proofs.YtllaeakeaabiaaaGreat
open Go.RowKit
set_option maxRecDepth 100000
set_option linter.unusedSimpArgs false
set_option linter.unusedVariables false
theorem tabM_bytes {w w' : World} {g og base' : Nat} {ty : TypeId} (hty : ty ≠ 5) {A C : List Value} {okb : Nat → Prop} {room : Int} {L : List Fd} {ad : Option Addr} {cap : Nat} {E : ByteArray} (h : TabM w g ty A C og okb room L) (hb : BytesAt w base' ad cap E) (hg : w.grownBy w' (Value.slice ad E.size cap).ownBlock) : TabM w' g ty A C og okb room L := by
  obtain ⟨a, p, h1, h2, h3, h4⟩ := h.ex
  exact ⟨⟨a, p, h1.kept (hg.block g h1.lt (fun e => bytes_not_row hb h1.row hty e.symm)), owns_kept h2 (fun k hk hlt => hg.block k hlt (fun e => bytes_not_own hb h2 (by decide) k hk e.symm)), h3, h4⟩⟩
set_option maxRecDepth 100000 in
set_option maxHeartbeats 8000000 in
theorem encodeM (g og : Nat) (ty : TypeId) (hty : ty ≠ 5) (A C : List Value) (okb : Nat → Prop) (room : Int) (L l : List Fd) (lv : Value) (w : World) (h : TabM w g ty A C og okb room L) (hok : okT room L = true) (hokl : ∀ f ∈ l, okF f = true) (hl20 : l.length ≤ 20) (hr1 : Reads w lv l.length 2 (fv l)) (hlg : 0 < l.length → ∀ k, lv.ownBlock = some k → k ≠ g) (hokb : ∀ k, w.heap.size ≤ k → okb k) :
    Calls Tryz.prog 154 #[.pointer (some ⟨g, og, none⟩), lv] w fun x w' => x = .returned (.string (encL room L l).1) ∧ TabM w' g ty A C og okb room (encL room L l).2 ∧ Turn g (g + 1) w w' := by
  have hgw := tabM_lt h
  have HT := hide h; have HRL := hide hr1; have HOK := hide hokl
  obtain ⟨la, lc, rfl, hlc, hlm, h3⟩ := hr1.2
  have H3 := hide h3
  have HLG := hide hlg
  unfold maxLen at hlm
  clear h hr1 h3 hokl hlg
  go_enter Tryz.func154, Tryz.ntmps154
  go_wp2_with fail
  go_loopw [5, 6] (fun bv i wr => ∃ (k : Nat) (ad : Option Addr) (cap : Nat), i = .int .i64 k ∧ k ≤ l.length ∧ bv = .slice ad (encL room L (l.take k)).1.size cap ∧ BytesAt wr w.heap.size ad cap (encL room L (l.take k)).1 ∧ TabM wr g ty A C og okb room (encL room L (l.take k)).2 ∧ Turn g (g + 1) w wr) (fun _ i _ => l.length - (intOf i).toNat)
  case atStart => exact ⟨0, _, _, rfl, Nat.zero_le _, rfl, bytes_new w, tabM_later HT.out ((Below.refl _ _).alloc (Nat.le_refl _) _), (Turn.refl _ _ _).alloc _⟩
  case round =>
    obtain ⟨k, ad0, cap0, rfl, hk, rfl, hby0, ht0, htu⟩ := hrel
    have hEz := encL_size (room := room) (l.take k) L
    rw [List.length_take, Nat.min_eq_left hk] at hEz
    replace hEz : (encL room L (l.take k)).1.size ≤ 10000 := by omega
    have HOKN := hide (encL_ok (room := room) (l.take k) hok fun f hf => HOK.out f (List.mem_of_mem_take hf))
    by_cases hlt : k < l.length
    · have HTK := hide (encL_take (room := room) L l k hlt)
      have hfk := HOK.out _ (List.getElem_mem hlt)
      obtain ⟨b, o, rfl, hbb, hc⟩ := H3.out (by omega)
      obtain ⟨s0, s1⟩ := fv_get l k hlt
      have hbg := HLG.out (by omega) b rfl
      have C0 := hide (hc _ _ s0); have C1 := hide (hc _ _ s1)
      have c0 : wr.cell? ⟨b, o + k * 2, none⟩ = some (.string l[k].n) := by rw [htu.cell b (o + k * 2) hbb (by omega)]; exact hc _ _ s0
      have c1 : wr.cell? ⟨b, o + k * 2 + 1, none⟩ = some (.string l[k].v) := by rw [htu.cell b (o + k * 2 + 1) hbb (by omega)]; exact hc _ _ s1
      obtain ⟨f, hff⟩ : ∃ f, l[k] = f := ⟨_, rfl⟩
      rw [hff] at HTK hfk c0 c1 C0 C1
      clear hff
      obtain ⟨⟨es, N⟩, hE⟩ : ∃ E, encL room L (l.take k) = E := ⟨_, rfl⟩
      rw [hE] at HTK hEz HOKN hby0 ht0 ⊢
      simp only at HTK hEz HOKN hby0 ht0 ⊢
      have hNl := (okT_parts HOKN.out).2.2.2.2
      obtain ⟨a, p, hx, ho, hap, _⟩ := ht0.ex
      have x0 := hx.cell0 rfl
      have x1 := hx.cell (j := 1) rfl
      have hlx := hx.lt
      have hlb : b < wr.heap.size := Nat.lt_of_lt_of_le hbb htu.size
      have HBY := hide hby0; have HT := hide ht0; have HTU := hide htu; have HO := hide ho
      clear hc s0 s1 hx ho hap hby0 ht0 htu hE
      have hFz := encF_size (room := room) (L := N) f
      obtain ⟨F, hF⟩ : ∃ F, encF room N f = F := ⟨_, rfl⟩
      have hEE := hF
      unfold encF at hEE
      have hlk := look_range N f
      obtain ⟨⟨n, al⟩, hD⟩ : ∃ D, lookL N f = D := ⟨_, rfl⟩
      rw [hD] at hEE hlk
      rw [hF] at HTK hFz
      have HEE := hide hEE
      clear hEE hF
      simp only at hlk
      obtain ⟨n0, n1⟩ := hlk
      have nb : n ≤ 111 := by omega
      have hsw := HTU.out.size
      go_wp2_with fail
      have q0 : ∀ y : Later wr, y.w.cell? ⟨g, og, none⟩ = some (.int .i64 room) := fun y => (y.b.cell (p := ⟨g, og, none⟩) hlx).trans x0
      have q1 : ∀ y : Later wr, y.w.cell? ⟨g, og + 1, none⟩ = some (.slice a N.length p) := fun y => (y.b.cell (p := ⟨g, og + 1, none⟩) hlx).trans x1
      have q2 : ∀ y : Later wr, y.w.cell? ⟨b, o + k * 2, none⟩ = some (.string f.n) := fun y => (y.b.cell (p := ⟨b, o + k * 2, none⟩) hlb).trans c0
      have q3 : ∀ y : Later wr, y.w.cell? ⟨b, o + k * 2 + 1, none⟩ = some (.string f.v) := fun y => (y.b.cell (p := ⟨b, o + k * 2 + 1, none⟩) hlb).trans c1
      clear x0 x1
      have HCL : Hid (∀ u, Below wr.heap.size wr u → Calls Tryz.prog 191 #[.agg #[.int .i64 room, .slice a N.length p], .agg #[.string f.n, .string f.v]] u fun x w' => x = .returned (.tuple #[.int .i64 n, .bool al]) ∧ Below u.heap.size u w') := fun u hu => by
        have := specLookL N room (.slice a N.length p) f u ((reads_of_owns HO.out).new hu) hNl
        rw [hD] at this
        exact this
      have hne : Nonempty (Later wr) := ⟨⟨wr, Below.refl _ _⟩⟩; refine region_later (by kernel_rfl) (by kernel_rfl) ?_
      repeat (go_big_quiet_step (fail))
      go_big_quiet_want; go_big_quiet_op; refine ⟨.tuple #[.int .i64 n, .bool al], fun y => later_calls (x := y) ((fun _ => HCL.out y.w y.b) y.w), ?_⟩; go_big_quiet_on
      repeat (go_big_quiet_step (fail))
      refine wpQuiet_nil ?_; intro _ hw'; obtain ⟨y, hw''⟩ := hw'; subst hw''; have hby := y.b
      clear q0 q1 q2 q3 hne HCL hD
      obtain ⟨w5, hw5⟩ : ∃ w5, y.w = w5 := ⟨_, rfl⟩
      rw [hw5] at hby ⊢
      clear hw5 y
      replace HBY := hide (bytes_later HBY.out hby); replace HT := hide (tabM_later HT.out hby); replace HTU := hide (HTU.out.trans (turn_new hby _ _))
      clear c0 c1 hby HO
      cases al
      · have HEF : Hid ((preV n 6 64 ++ ((if n = 0 then litV f.n else ⟨#[]⟩) ++ litV f.v), shr room (f :: N)) = F) := by show _ = _; simpa using HEE.out
        clear HEE
        have ok6 := okP_6 n0 nb
        have p1 := preV_small n 6 64
        have p2 := litV_small f.n
        have p3 := litV_small f.v
        obtain ⟨g1, g2, g3⟩ := okF_parts hfk
        have m1 : f.n.size ≤ maxLen := by unfold maxLen; omega
        have m2 : f.v.size ≤ maxLen := by unfold maxLen; omega
        have HALN : Hid (∀ u ∈ N, okF u = true) := (okT_parts HOKN.out).2.2.1
        have hr0 := (okT_parts HOKN.out).1
        go_wp2_with fail
        refine (specL3 n 6 64 _ n0 (by omega) (by omega) (by omega) (by omega) (by simp [pw])).mono ?_; rw [pre_is ok6]; rintro x w6 ⟨rfl, hbw6⟩
        replace HBY := hide (bytes_later HBY.out hbw6); replace HT := hide (tabM_later HT.out hbw6); replace HTU := hide (HTU.out.trans (turn_new hbw6 _ _))
        clear hbw6
        go_wp2_with (at_builtin; refine wpList_str _ rfl _ _ rfl w.heap.size ad0 cap0 (es) (preV n 6 64) rfl HBY.out rfl (by omega) (by have := HTU.out.size; omega) ?_)
        intro ad1 cap1 E1 w7 hE1 hbyw7 hgw7
        replace HT := hide (tabM_bytes hty HT.out HBY.out hgw7); replace HTU := hide (grown_turn HTU.out HBY.out (Nat.le_refl _) hgw7); replace HBY := hide hbyw7
        clear hbyw7 hgw7
        have hEz1 : E1.size ≤ 10006 := by rw [hE1, ba_size_append]; omega
        have HE1 := hide hE1
        clear hE1
        by_cases hn0 : n = 0
        · subst hn0
          have c0 := (HTU.out.cell b (o + k * 2) hbb (by omega)).trans C0.out
          have c1 := (HTU.out.cell b (o + k * 2 + 1) hbb (by omega)).trans C1.out
          go_wp2_with fail
          refine (specLiteral f.n _ m1).mono ?_; rintro x w8 ⟨rfl, hbw8⟩
          replace HBY := hide (bytes_later HBY.out hbw8); replace HT := hide (tabM_later HT.out hbw8); replace HTU := hide (HTU.out.trans (turn_new hbw8 _ _))
          clear hbw8
          go_wp2_with (at_builtin; refine wpList_str _ rfl _ _ rfl w.heap.size ad1 cap1 (E1) (litV f.n) rfl HBY.out rfl (by omega) (by have := HTU.out.size; omega) ?_)
          intro ad2 cap2 E2 w9 hE2 hbyw9 hgw9
          replace HT := hide (tabM_bytes hty HT.out HBY.out hgw9); replace HTU := hide (grown_turn HTU.out HBY.out (Nat.le_refl _) hgw9); replace HBY := hide hbyw9
          clear hbyw9 hgw9
          have hEz2 : E2.size ≤ 10212 := by rw [hE2, ba_size_append]; omega
          have HE2 := hide hE2
          clear hE2
          clear c0 c1
          have c0 := (HTU.out.cell b (o + k * 2) hbb (by omega)).trans C0.out
          have c1 := (HTU.out.cell b (o + k * 2 + 1) hbb (by omega)).trans C1.out
          go_wp2_with fail
          refine (specLiteral f.v _ m2).mono ?_; rintro x w10 ⟨rfl, hbw10⟩
          replace HBY := hide (bytes_later HBY.out hbw10); replace HT := hide (tabM_later HT.out hbw10); replace HTU := hide (HTU.out.trans (turn_new hbw10 _ _))
          clear hbw10
          go_wp2_with (at_builtin; refine wpList_str _ rfl _ _ rfl w.heap.size ad2 cap2 (E2) (litV f.v) rfl HBY.out rfl (by omega) (by have := HTU.out.size; omega) ?_)
          intro ad3 cap3 E3 w11 hE3 hbyw11 hgw11
          replace HT := hide (tabM_bytes hty HT.out HBY.out hgw11); replace HTU := hide (grown_turn HTU.out HBY.out (Nat.le_refl _) hgw11); replace HBY := hide hbyw11
          clear hbyw11 hgw11
          have hEz3 : E3.size ≤ 10418 := by rw [hE3, ba_size_append]; omega
          have HE3 := hide hE3
          clear hE3
          clear c0 c1
          have c0 := (HTU.out.cell b (o + k * 2) hbb (by omega)).trans C0.out
          have c1 := (HTU.out.cell b (o + k * 2 + 1) hbb (by omega)).trans C1.out
          go_wp2_with fail
          refine (noteM g og ty A C okb room N f _ HT.out HALN.out hfk hr0 (by omega) (fun q hq => hokb q (by have := HTU.out.size; omega))).mono ?_; rintro x w12 ⟨rfl, hT12, ht12⟩
          have HT12 := hide hT12
          replace HBY : Hid (BytesAt w12 _ _ _ _) := hide (owns_turn HBY.out ht12 (fun q hq => by have := (HBY.out.lt q hq).1; omega))
          replace HTU := hide (HTU.out.trans ht12)
          clear hT12 ht12 HT c0 c1
          have HT := HT12
          go_wp2_with fail
          go_roundw
          case rel =>
            refine ⟨k + 1, ad3, cap3, by go_num, by omega, ?_⟩
            rw [HTK.out.1, HTK.out.2, ← HEF.out]
            have q : es ++ (preV 0 6 64 ++ (litV f.n ++ litV f.v)) = E3 := by rw [HE3.out, HE2.out, HE1.out]; simp [ba_append_assoc]
            dsimp only; rw [if_pos trivial, q]
            exact ⟨rfl, HBY.out, HT.out, HTU.out⟩
          case measure => simp [intOf]; omega
        · have hn1 : (n == 0) = false := by simp [hn0]
          have c0 := (HTU.out.cell b (o + k * 2) hbb (by omega)).trans C0.out
          have c1 := (HTU.out.cell b (o + k * 2 + 1) hbb (by omega)).trans C1.out
          go_wp2_with fail
          refine (specLiteral f.v _ m2).mono ?_; rintro x w10 ⟨rfl, hbw10⟩
          replace HBY := hide (bytes_later HBY.out hbw10); replace HT := hide (tabM_later HT.out hbw10); replace HTU := hide (HTU.out.trans (turn_new hbw10 _ _))
          clear hbw10
          go_wp2_with (at_builtin; refine wpList_str _ rfl _ _ rfl w.heap.size ad1 cap1 (E1) (litV f.v) rfl HBY.out rfl (by omega) (by have := HTU.out.size; omega) ?_)
          intro ad2 cap2 E2 w11 hE2 hbyw11 hgw11
          replace HT := hide (tabM_bytes hty HT.out HBY.out hgw11); replace HTU := hide (grown_turn HTU.out HBY.out (Nat.le_refl _) hgw11); replace HBY := hide hbyw11
          clear hbyw11 hgw11
          have hEz2 : E2.size ≤ 10212 := by rw [hE2, ba_size_append]; omega
          have HE2 := hide hE2
          clear hE2
          clear c0 c1
          have c0 := (HTU.out.cell b (o + k * 2) hbb (by omega)).trans C0.out
          have c1 := (HTU.out.cell b (o + k * 2 + 1) hbb (by omega)).trans C1.out
          go_wp2_with fail
          refine (noteM g og ty A C okb room N f _ HT.out HALN.out hfk hr0 (by omega) (fun q hq => hokb q (by have := HTU.out.size; omega))).mono ?_; rintro x w12 ⟨rfl, hT12, ht12⟩
          have HT12 := hide hT12
          replace HBY : Hid (BytesAt w12 _ _ _ _) := hide (owns_turn HBY.out ht12 (fun q hq => by have := (HBY.out.lt q hq).1; omega))
          replace HTU := hide (HTU.out.trans ht12)
          clear hT12 ht12 HT c0 c1
          have HT := HT12
          go_wp2_with fail
          go_roundw
          case rel =>
            refine ⟨k + 1, ad2, cap2, by go_num, by omega, ?_⟩
            rw [HTK.out.1, HTK.out.2, ← HEF.out]
            have q : es ++ (preV n 6 64 ++ ((if n = 0 then litV f.n else ⟨#[]⟩) ++ litV f.v)) = E2 := by rw [HE2.out, HE1.out]; simp [hn0, ba_nil_append, ba_append_assoc]
            dsimp only; rw [q]
            exact ⟨rfl, HBY.out, HT.out, HTU.out⟩
          case measure => simp [intOf]; omega
      · have HEF : Hid ((preV n 7 128, N) = F) := by show _ = _; simpa using HEE.out
        clear HEE
        have ok7 := okP_7 n0 nb
        have p1 := preV_small n 7 128
        go_wp2_with fail
        refine (specL3 n 7 128 _ n0 (by omega) (by omega) (by omega) (by omega) (by simp [pw])).mono ?_; rw [pre_is ok7]; rintro x w6 ⟨rfl, hbw6⟩
        replace HBY := hide (bytes_later HBY.out hbw6); replace HT := hide (tabM_later HT.out hbw6); replace HTU := hide (HTU.out.trans (turn_new hbw6 _ _))
        clear hbw6
        go_wp2_with (at_builtin; refine wpList_str _ rfl _ _ rfl w.heap.size ad0 cap0 (es) (preV n 7 128) rfl HBY.out rfl (by omega) (by have := HTU.out.size; omega) ?_)
        intro ad1 cap1 E1 w7 hE1 hbyw7 hgw7
        replace HT := hide (tabM_bytes hty HT.out HBY.out hgw7); replace HTU := hide (grown_turn HTU.out HBY.out (Nat.le_refl _) hgw7); replace HBY := hide hbyw7
        clear hbyw7 hgw7
        have hEz1 : E1.size ≤ 10006 := by rw [hE1, ba_size_append]; omega
        have HE1 := hide hE1
        clear hE1
        go_wp2_with fail
        go_roundw
        case rel =>
          refine ⟨k + 1, ad1, cap1, by go_num, by omega, ?_⟩
          rw [HTK.out.1, HTK.out.2, ← HEF.out]
          dsimp only; rw [← HE1.out]
          exact ⟨rfl, HBY.out, HT.out, HTU.out⟩
        case measure => simp [intOf]; omega
    · obtain rfl : k = l.length := by omega
      rw [List.take_length] at hby0 ht0 ⊢
      have hcv := bytes_string hby0
      have HT := hide ht0; have HTU := hide htu
      clear ht0 htu
      go_wp2_with fail
      go_ret
      exact ⟨rfl, HT.out, HTU.out⟩
end Go.Proofs.YtllaeakeaabiaaaGreat
/- Connections in plain words: what is flushed of all streams. -/
namespace Go.Proofs.YtllaeakeaabiaaaGreat
open Go.RowKit
set_option maxRecDepth 100000
set_option linter.unusedSimpArgs false
set_option linter.unusedVariables false
/-- What of these frames is of one stream. -/
def ofS (id : Int) (L : List Fr) : List Fr := L.filter fun x => decide (x.st = id)
theorem ofS_app (id : Int) (a b : List Fr) : ofS id (a ++ b) = ofS id a ++ ofS id b := List.filter_append _ _
theorem ofS_all {id : Int} {L : List Fr} (h : ∀ x ∈ L, x.st = id) : ofS id L = L := List.filter_eq_self.2 fun x hx => by simp [h x hx]
theorem ofS_none {id : Int} {L : List Fr} (h : ∀ x ∈ L, x.st ≠ id) : ofS id L = [] := List.filter_eq_nil_iff.2 fun x hx => by simp [h x hx]
theorem mn_mono {a a' b b' : Int} (h : a' ≤ a) (h' : b' ≤ b) : mnV a' b' ≤ mnV a b := by unfold mnV; split <;> split <;> omega
theorem mx_mono {a b b' : Int} (h' : b' ≤ b) : mxV a b' ≤ mxV a b := by unfold mxV; split <;> split <;> omega
theorem mx_nn (b : Int) : 0 ≤ mxV 0 b := by unfold mxV; split <;> omega
theorem ft_mono {g g' s n : Int} (hg : g' ≤ g) (hw : winB g = true) : ftV g' s n ≤ ftV g s n := by
  unfold ftV
  by_cases hs : winB s = true ∧ 0 ≤ n
  · rw [if_pos (⟨hw, hs⟩ : winB g = true ∧ winB s = true ∧ 0 ≤ n)]
    by_cases hg' : winB g' = true
    · rw [if_pos (⟨hg', hs⟩ : winB g' = true ∧ winB s = true ∧ 0 ≤ n)]
      exact mx_mono (mn_mono (Int.le_refl _) (mn_mono hg (Int.le_refl _)))
    · rw [if_neg (fun c => hg' c.1)]
      exact mx_nn _
  · rw [if_neg (fun c => hs c.2), if_neg (fun c => hs c.2)]
    exact Int.le_refl _
theorem fl_mono {g g' : Int} {f : FlD} (hc : f.tun.came ≤ 1000000) (h : flN g f = 0) (hg : g' ≤ g) (hw : winB g = true) : flN g' f = 0 := by
  have hp := fl_pos (g := g') hc
  have : flN g' f ≤ flN g f := mn_mono (ft_mono hg hw) (Int.le_refl _)
  omega
theorem id_apart {r : RegistryD} (h : okRg r = true) {i j : Nat} (hi : i < r.es.length) (hj : j < r.es.length) (hne : i ≠ j) : r.es[i].id ≠ r.es[j].id := by
  rcases Nat.lt_or_gt_of_ne hne with hlt | hgt
  · have := rise_lt h i j hlt hj; omega
  · have := rise_lt h j i hgt hi; omega
theorem at_k {r : RegistryD} (h : okRg r = true) {k : Nat} (hk : k < r.es.length) : atE r.es r.es[k].id = some k :=
  atE_of k hk rfl fun j hj => id_apart h (by omega) hk (by omega)
theorem hap_at {r : RegistryD} (h : okRg r = true) {k : Nat} (hk : k < r.es.length) (ev : Int) : (happenRaw r r.es[k].id ev).1.es = r.es.set k ⟨r.es[k].id, (nxV r.es[k].state ev).1⟩ := by
  rw [happenRaw_some (at_k h hk) hk]
/-- What flushing the first k streams leaves. -/
structure FlT (c : CnD) (k : Nat) (d : CnD) (L : List Fr) : Prop where
  ok : okCn d = true
  dead : d.dead = c.dead
  len : d.flows.length = c.flows.length
  elen : d.reg.es.length = c.reg.es.length
  ids : ∀ j (h : j < c.reg.es.length) (h' : j < d.reg.es.length), d.reg.es[j].id = c.reg.es[j].id
  rest : ∀ j (h : j < c.flows.length) (h' : j < d.flows.length) (g : j < c.reg.es.length) (g' : j < d.reg.es.length), k ≤ j → d.flows[j] = c.flows[j] ∧ d.reg.es[j] = c.reg.es[j]
  told : ∀ x ∈ L, x.k = 1 ∧ (x.fl = 0 ∨ x.fl = 1) ∧ x.b.size ≤ 1000 ∧ ∃ j, ∃ h : j < c.reg.es.length, j < k ∧ x.st = c.reg.es[j].id ∧ msV c.reg.es[j].state = true
  give : d.give = c.give - (catB L).size ∧ (0 < (catB L).size → 0 ≤ d.give)
  each : ∀ j (h : j < c.flows.length) (h' : j < d.flows.length), catB (ofS c.flows[j].id L) ++ d.flows[j].tun.dn.b = c.flows[j].tun.dn.b ∧ d.flows[j].give = c.flows[j].give - (catB (ofS c.flows[j].id L)).size ∧ (0 < (catB (ofS c.flows[j].id L)).size → 0 ≤ d.flows[j].give) ∧ d.flows[j].id = c.flows[j].id
  still : ∀ j (h' : j < d.flows.length) (g' : j < d.reg.es.length), j < k → msV d.reg.es[j].state = false ∨ (flN d.give d.flows[j] = 0 ∧ endB d.flows[j] = false)
theorem flT_zero {c : CnD} (h : okCn c = true) : FlT c 0 c [] :=
  ⟨h, rfl, rfl, rfl, fun _ _ _ => rfl, fun _ _ _ _ _ _ => ⟨rfl, rfl⟩, fun x hx => (by cases hx), ⟨(by have : ((catB []).size : Int) = 0 := rfl; omega), fun h => absurd h (by decide)⟩,
    fun j h h' => ⟨ba_nil_append _, (by have : ((catB (ofS c.flows[j].id [])).size : Int) = 0 := rfl; omega), fun h => absurd (show 0 < 0 from h) (Nat.lt_irrefl _), rfl⟩, fun j _ _ h => absurd h (Nat.not_lt_zero _)⟩
theorem flT_skip {c d : CnD} {k : Nat} {L : List Fr} (h : FlT c k d L) (hk : ∀ g' : k < d.reg.es.length, msV d.reg.es[k].state = false) : FlT c (k + 1) d L :=
  ⟨h.ok, h.dead, h.len, h.elen, h.ids, fun j a b e f hj => h.rest j a b e f (by omega), fun x hx => by
    obtain ⟨h1, h2, h3, j, hj, h4, h5⟩ := h.told x hx
    exact ⟨h1, h2, h3, j, hj, by omega, h5⟩, h.give, h.each, fun j a b hj => by
    rcases Nat.lt_or_ge j k with hlt | hge
    · exact h.still j a b hlt
    · have : j = k := by omega
      subst this
      exact Or.inl (hk b)⟩
theorem flT_step {c d : CnD} {k : Nat} {L : List Fr} (h : FlT c k d L) (hc : okCn c = true) (hk : k < d.flows.length) (hke : k < d.reg.es.length) (hm : msV d.reg.es[k].state = true) :
    FlT c (k + 1) (flushAt d k d.flows[k] d.reg.es[k]).1 (L ++ (flushAt d k d.flows[k] d.reg.es[k]).2) := by
  have hd := okCn_iff.1 h.ok
  have hc' := okCn_iff.1 hc
  have hkc : k < c.flows.length := by rw [← h.len]; exact hk
  have hkce : k < c.reg.es.length := by rw [← h.elen]; exact hke
  have hfe := okFls_get hd.2.2.2.2.2.2 k hk hke
  obtain ⟨hrk, hre⟩ := h.rest k hkc hk hkce hke (Nat.le_refl _)
  have hid := (okFl_iff.1 hfe).1
  have hA := flush_at h.ok hk d.reg.es[k] hm hfe
  generalize (flushAt d k d.flows[k] d.reg.es[k]).1 = d' at hA ⊢
  generalize (flushAt d k d.flows[k] d.reg.es[k]).2 = L' at hA ⊢
  obtain ⟨f', a1, a2, a3, a4, a5, a6, a7, a8, a9, a10, a11, a12, a13, a14, a15⟩ := hA
  have hidk : d.flows[k].id = c.reg.es[k].id := by rw [hid, hre]
  have hlen : d'.flows.length = d.flows.length := by rw [a7, List.length_set]
  -- the registry: only this stream's state
  have hes : ∀ j (g : j < d.reg.es.length) (g' : j < d'.reg.es.length), d'.reg.es[j].id = d.reg.es[j].id ∧ (j ≠ k → d'.reg.es[j] = d.reg.es[j]) := by
    intro j g g'
    rcases a14 with e | e
    · have : d'.reg.es[j] = d.reg.es[j] := by simp only [e]
      exact ⟨by rw [this], fun _ => this⟩
    · have he : d'.reg.es = d.reg.es.set k ⟨d.reg.es[k].id, (nxV d.reg.es[k].state 3).1⟩ := by rw [e, hid]; exact hap_at hd.1 hke 3
      have hj : d'.reg.es[j] = (d.reg.es.set k ⟨d.reg.es[k].id, (nxV d.reg.es[k].state 3).1⟩)[j]'(by rw [List.length_set]; exact g) := by simp only [he]
      rw [hj, List.getElem_set]
      by_cases hjk : k = j
      · subst hjk
        rw [if_pos rfl]
        exact ⟨rfl, fun hne => absurd rfl hne⟩
      · rw [if_neg hjk]
        exact ⟨rfl, fun _ => rfl⟩
  have helen : d'.reg.es.length = d.reg.es.length := by
    rcases a14 with e | e
    · rw [e]
    · have := congrArg List.length (hap_ids d.reg d.flows[k].id 3)
      simp only [List.length_map] at this
      rw [e]; exact this
  have hflo : ∀ j (g : j < d.flows.length) (g' : j < d'.flows.length), d'.flows[j] = if k = j then f' else d.flows[j] := by
    intro j g g'
    have : d'.flows[j] = (d.flows.set k f')[j]'(by rw [List.length_set]; exact g) := by simp only [a7]
    rw [this, List.getElem_set]
  have hst : ∀ x ∈ L', x.st = c.reg.es[k].id := fun x hx => (a1 x hx).2.2.1.trans hidk
  have hidc : ∀ j (g : j < c.flows.length) (g' : j < c.reg.es.length), c.flows[j].id = c.reg.es[j].id := fun j g g' => (okFl_iff.1 (okFls_get hc'.2.2.2.2.2.2 j g g')).1
  have hcl := okFls_len hc'.2.2.2.2.2.2
  have hcat : (catB (L ++ L')).size = (catB L).size + (catB L').size := by rw [catB_app, ByteArray.size_append]
  refine ⟨a15, a8.trans h.dead, hlen.trans h.len, helen.trans h.elen, ?_, ?_, ?_, ?_, ?_, ?_⟩
  · intro j g g'
    have g2 : j < d.reg.es.length := by rw [h.elen]; exact g
    rw [(hes j g2 g').1]
    exact h.ids j g g2
  · intro j g1 g2 g3 g4 hj
    have g5 : j < d.flows.length := by rw [h.len]; exact g1
    have g6 : j < d.reg.es.length := by rw [h.elen]; exact g3
    obtain ⟨b1, b2⟩ := h.rest j g1 g5 g3 g6 (by omega)
    rw [hflo j g5 g2, if_neg (by omega), (hes j g6 g4).2 (by omega)]
    exact ⟨b1, b2⟩
  · intro x hx
    rcases List.mem_append.1 hx with hx | hx
    · obtain ⟨h1, h2, h3, j, hj, h4, h5⟩ := h.told x hx
      exact ⟨h1, h2, h3, j, hj, by omega, h5⟩
    · obtain ⟨x1, x2, x3, x4⟩ := a1 x hx
      exact ⟨x1, x2, x4, k, hkce, by omega, hst x hx, by rw [← hre]; exact hm⟩
  · have hg := h.give
    refine ⟨by rw [hcat, a3]; omega, fun hp => ?_⟩
    by_cases hz : 0 < (catB L').size
    · exact (a5 hz).1
    · have : 0 ≤ d.give := hg.2 (by omega)
      omega
  · intro j g g'
    have g2 : j < d.flows.length := by rw [h.len]; exact g
    have g3 : j < c.reg.es.length := by rw [← hcl]; exact g
    obtain ⟨b1, b2, b3, b4⟩ := h.each j g g2
    rw [hflo j g2 g', ofS_app]
    by_cases hjk : k = j
    · subst hjk
      rw [if_pos rfl]
      have hn : ofS c.flows[k].id L = [] := ofS_none fun x hx e => by
        obtain ⟨_, _, _, i, hi, hik, hxi, _⟩ := h.told x hx
        rw [hxi, hidc k g g3] at e
        exact id_apart hc'.1 hi g3 (by omega) e
      have ha : ofS c.flows[k].id L' = L' := ofS_all fun x hx => (hst x hx).trans (hidc k g g3).symm
      rw [hn, ha, List.nil_append]
      rw [hrk] at a2 a4 a6
      exact ⟨a2, a4, fun hp => (a5 hp).2, a6⟩
    · rw [if_neg hjk]
      have hn : ofS c.flows[j].id L' = [] := ofS_none fun x hx e => by
        rw [hst x hx, hidc j g g3] at e
        exact id_apart hc'.1 hkce g3 hjk e
      rw [hn, List.append_nil]
      exact ⟨b1, b2, b3, b4⟩
  · intro j g g' hj
    have g2 : j < d.flows.length := by rw [← hlen]; exact g
    have g3 : j < d.reg.es.length := by rw [← helen]; exact g'
    by_cases hjk : k = j
    · subst hjk
      rw [hflo k g2 g, if_pos rfl]
      exact Or.inr ⟨a11, a12⟩
    · rw [hflo j g2 g, if_neg hjk, (hes j g3 g').2 (fun e => hjk e.symm)]
      rcases h.still j g2 g3 (by omega) with hs | ⟨hs, hs2⟩
      · exact Or.inl hs
      · refine Or.inr ⟨fl_mono ?_ hs (by rw [a3]; omega) hd.2.2.2.2.1, hs2⟩
        exact (okTu_true (okFl_iff.1 (okFls_get hd.2.2.2.2.2.2 j g2 g3)).2.2.2.2).2.2.2.2
theorem flT_all {c : CnD} (h : okCn c = true) : ∀ k, k ≤ c.flows.length → FlT c k (flushTo c k).1 (flushTo c k).2
  | 0, _ => flT_zero h
  | k + 1, hk => by
    have ih := flT_all h k (by omega)
    have hl := okFls_len (okCn_iff.1 ih.ok).2.2.2.2.2.2
    have h1 : k < (flushTo c k).1.flows.length := by rw [ih.len]; omega
    have h2 : k < (flushTo c k).1.reg.es.length := by omega
    have he : flushOne (flushTo c k).1 k = flushAt (flushTo c k).1 k ((flushTo c k).1.flows[k]) ((flushTo c k).1.reg.es[k]) := by
      unfold flushOne
      rw [List.getElem?_eq_getElem h1, List.getElem?_eq_getElem h2]
    show FlT c (k + 1) (flushOne (flushTo c k).1 k).1 ((flushTo c k).2 ++ (flushOne (flushTo c k).1 k).2)
    rw [he]
    cases hm : msV ((flushTo c k).1.reg.es[k]).state with
    | true => exact flT_step ih h h1 h2 hm
    | false =>
      have : flushAt (flushTo c k).1 k ((flushTo c k).1.flows[k]) ((flushTo c k).1.reg.es[k]) = ((flushTo c k).1, []) := by unfold flushAt; rw [if_pos hm]
      rw [this, List.append_nil]
      exact flT_skip ih fun _ => hm
/-- Of a connection that is still, nothing more is flushed. -/
theorem flush_still {d : CnD} (h : ∀ j (h' : j < d.flows.length) (g' : j < d.reg.es.length), msV d.reg.es[j].state = false ∨ (flN d.give d.flows[j] = 0 ∧ endB d.flows[j] = false)) : ∀ k, flushTo d k = (d, [])
  | 0 => rfl
  | k + 1 => by
    have ih := flush_still h k
    unfold flushTo
    rw [ih]
    have : flushOne d k = (d, []) := by
      unfold flushOne
      by_cases h1 : k < d.flows.length
      · by_cases h2 : k < d.reg.es.length
        · rw [List.getElem?_eq_getElem h1, List.getElem?_eq_getElem h2]
          show flushAt d k d.flows[k] d.reg.es[k] = _
          unfold flushAt
          rcases h k h1 h2 with hs | ⟨hs, hs2⟩
          · rw [if_pos hs]
          · split
            · rfl
            · rw [flushF_zero hs]
              dsimp only
              rw [hs2]
              simp
        · rw [List.getElem?_eq_getElem h1, List.getElem?_eq_none (by omega)]
      · rw [List.getElem?_eq_none (by omega)]
    rw [this]
    rfl
end Go.Proofs.YtllaeakeaabiaaaGreat
/- The program's Conn: which is right; a new one. -/
namespace Go.Proofs.YtllaeakeaabiaaaGreat
open Go.RowKit
set_option maxRecDepth 100000
set_option linter.unusedSimpArgs false
set_option linter.unusedVariables false
theorem okFs_def (l : List Fd) : okFs l = (l.all okF && decide (l.length ≤ 20)) := by unfold okFs; first | rfl | simp [Bool.and_comm]
set_option maxHeartbeats 4000000 in
theorem implRightOf (f : FlD) (e : EntryD) (v : Value) (w : World) (hr : RdR fieldS w v f.fds) (h1 : f.tun.up.b.size ≤ maxLen) (h2 : f.tun.dn.b.size ≤ maxLen) :
    Calls Tryz.prog 121 #[.agg #[.int .i64 f.id, .int .i64 f.get, .int .i64 f.give, v, .int .i64 f.tun.up.r, .string f.tun.up.b, .bool f.tun.up.e, .bool f.tun.up.k, .int .i64 f.tun.dn.r, .string f.tun.dn.b, .bool f.tun.dn.e, .bool f.tun.dn.k, .int .i64 f.tun.went, .int .i64 f.tun.came, .bool f.ended], .agg #[.int .i64 e.id, .int .i64 e.state]] w fun x w' => x = .returned (.bool (okFl f e)) ∧ Below w.heap.size w w' := by
  obtain ⟨ad, cap, rfl, q1, q2⟩ := hr.form
  have HR := hide hr
  clear hr
  by_cases c0 : f.id = e.id
  rotate_left
  · have c0' : (f.id != e.id) = true := by simpa using c0
    have HN := hide (okFl_no (f := f) (e := e) (fun h => c0 h.1))
    clear c0
    go_enter Tryz.func121, Tryz.ntmps121
    go_wp2_with fail
    go_ret
    exact ⟨by rw [HN.out]; rfl, (by repeat' (first | (with_reducible exact Below.refl _ _) | (with_reducible refine Below.drew ?_) | (with_reducible refine bo_drewN _ ?_) | (with_reducible refine bo_alloc ?_ _) | (refine bchain ?_ (by with_reducible assumption)) | (with_reducible refine Below.setCell ?_ ?_ _) | go_size))⟩
  have c0' : (f.id != e.id) = false := by simpa using c0
  have HC0 := hide c0
  clear c0
  cases m0 : winB f.get
  · have HN := hide (okFl_no (f := f) (e := e) (fun h => by rw [m0] at h; simp at h))
    go_enter Tryz.func121, Tryz.ntmps121
    go_wp2_with fail
    refine (implWin f.get _).mono ?_; rw [m0]; rintro e v0 ⟨rfl, hsame⟩; obtain rfl := hsame.symm; clear hsame
    go_wp2_with fail
    go_ret
    exact ⟨by rw [HN.out]; rfl, (by repeat' (first | (with_reducible exact Below.refl _ _) | (with_reducible refine Below.drew ?_) | (with_reducible refine bo_drewN _ ?_) | (with_reducible refine bo_alloc ?_ _) | (refine bchain ?_ (by with_reducible assumption)) | (with_reducible refine Below.setCell ?_ ?_ _) | go_size))⟩
  cases m1 : winB f.give
  · have HN := hide (okFl_no (f := f) (e := e) (fun h => by rw [m1] at h; simp at h))
    go_enter Tryz.func121, Tryz.ntmps121
    go_wp2_with fail
    refine (implWin f.get _).mono ?_; rw [m0]; rintro e v0 ⟨rfl, hsame⟩; obtain rfl := hsame.symm; clear hsame
    go_wp2_with fail
    refine (implWin f.give _).mono ?_; rw [m1]; rintro e v1 ⟨rfl, hsame⟩; obtain rfl := hsame.symm; clear hsame
    go_wp2_with fail
    go_ret
    exact ⟨by rw [HN.out]; rfl, (by repeat' (first | (with_reducible exact Below.refl _ _) | (with_reducible refine Below.drew ?_) | (with_reducible refine bo_drewN _ ?_) | (with_reducible refine bo_alloc ?_ _) | (refine bchain ?_ (by with_reducible assumption)) | (with_reducible refine Below.setCell ?_ ?_ _) | go_size))⟩
  by_cases m2 : f.fds.length ≤ 20
  rotate_left
  · have HN := hide (okFl_no (f := f) (e := e) (fun h => m2 (by have := h.2.2.2.1; rw [okFs_def] at this; simp only [Bool.and_eq_true, decide_eq_true_eq] at this; exact this.2)))
    have m2' : ¬ (f.fds.length : Int) ≤ 20 := by omega
    clear m2
    go_enter Tryz.func121, Tryz.ntmps121
    go_wp2_with fail
    refine (implWin f.get _).mono ?_; rw [m0]; rintro e v0 ⟨rfl, hsame⟩; obtain rfl := hsame.symm; clear hsame
    go_wp2_with fail
    refine (implWin f.give _).mono ?_; rw [m1]; rintro e v1 ⟨rfl, hsame⟩; obtain rfl := hsame.symm; clear hsame
    go_wp2_with fail
    go_ret
    exact ⟨by rw [HN.out]; rfl, (by repeat' (first | (with_reducible exact Below.refl _ _) | (with_reducible refine Below.drew ?_) | (with_reducible refine bo_drewN _ ?_) | (with_reducible refine bo_alloc ?_ _) | (refine bchain ?_ (by with_reducible assumption)) | (with_reducible refine Below.setCell ?_ ?_ _) | go_size))⟩
  have m2' : (f.fds.length : Int) ≤ 20 := by omega
  cases m3 : f.fds.all okF
  · have HN := hide (okFl_no (f := f) (e := e) (fun h => by have := h.2.2.2.1; rw [okFs_def, m3] at this; simp at this))
    clear m2
    go_enter Tryz.func121, Tryz.ntmps121
    go_wp2_with fail
    refine (implWin f.get _).mono ?_; rw [m0]; rintro e v0 ⟨rfl, hsame⟩; obtain rfl := hsame.symm; clear hsame
    go_wp2_with fail
    refine (implWin f.give _).mono ?_; rw [m1]; rintro e v1 ⟨rfl, hsame⟩; obtain rfl := hsame.symm; clear hsame
    go_wp2_with fail
    refine (implRights f.fds _ _ (rd_fv (HR.out.new (by repeat' (first | (with_reducible exact Below.refl _ _) | (with_reducible refine Below.drew ?_) | (with_reducible refine bo_drewN _ ?_) | (with_reducible refine bo_alloc ?_ _) | (refine bchain ?_ (by with_reducible assumption)) | (with_reducible refine Below.setCell ?_ ?_ _) | go_size)))) (rd_fine (HR.out.new (by repeat' (first | (with_reducible exact Below.refl _ _) | (with_reducible refine Below.drew ?_) | (with_reducible refine bo_drewN _ ?_) | (with_reducible refine bo_alloc ?_ _) | (refine bchain ?_ (by with_reducible assumption)) | (with_reducible refine Below.setCell ?_ ?_ _) | go_size))))).mono ?_; rw [m3]; rintro x w3 ⟨rfl, hb3⟩
    have R3 := ((rowIs_new w 89 [.int .i64 f.id, .int .i64 f.get, .int .i64 f.give, .slice ad f.fds.length cap, .int .i64 f.tun.up.r, .string f.tun.up.b, .bool f.tun.up.e, .bool f.tun.up.k, .int .i64 f.tun.dn.r, .string f.tun.dn.b, .bool f.tun.dn.e, .bool f.tun.dn.k, .int .i64 f.tun.went, .int .i64 f.tun.came, .bool f.ended]).alloc (.cells #[.int .i64 e.id, .int .i64 e.state] 103)).new hb3
    have c4 := RowIs.cell (j := 4) R3 rfl
    have c5 := RowIs.cell (j := 5) R3 rfl
    have c6 := RowIs.cell (j := 6) R3 rfl
    have c7 := RowIs.cell (j := 7) R3 rfl
    have c8 := RowIs.cell (j := 8) R3 rfl
    have c9 := RowIs.cell (j := 9) R3 rfl
    have c10 := RowIs.cell (j := 10) R3 rfl
    have c11 := RowIs.cell (j := 11) R3 rfl
    have c12 := RowIs.cell (j := 12) R3 rfl
    have c13 := RowIs.cell (j := 13) R3 rfl
    clear R3
    go_wp2_with fail
    go_ret
    exact ⟨by rw [HN.out]; rfl, bchain (by repeat' (first | (with_reducible exact Below.refl _ _) | (with_reducible refine Below.drew ?_) | (with_reducible refine bo_drewN _ ?_) | (with_reducible refine bo_alloc ?_ _) | (refine bchain ?_ (by with_reducible assumption)) | (with_reducible refine Below.setCell ?_ ?_ _) | go_size)) hb3⟩
  have HS := hide (show okFs f.fds = true by rw [okFs_def, m3, decide_eq_true m2]; rfl)
  clear m2
  cases m4 : okTu f.tun
  · have HN := hide (okFl_no (f := f) (e := e) (fun h => by rw [m4] at h; simp at h))
    go_enter Tryz.func121, Tryz.ntmps121
    go_wp2_with fail
    refine (implWin f.get _).mono ?_; rw [m0]; rintro e v0 ⟨rfl, hsame⟩; obtain rfl := hsame.symm; clear hsame
    go_wp2_with fail
    refine (implWin f.give _).mono ?_; rw [m1]; rintro e v1 ⟨rfl, hsame⟩; obtain rfl := hsame.symm; clear hsame
    go_wp2_with fail
    refine (implRights f.fds _ _ (rd_fv (HR.out.new (by repeat' (first | (with_reducible exact Below.refl _ _) | (with_reducible refine Below.drew ?_) | (with_reducible refine bo_drewN _ ?_) | (with_reducible refine bo_alloc ?_ _) | (refine bchain ?_ (by with_reducible assumption)) | (with_reducible refine Below.setCell ?_ ?_ _) | go_size)))) (rd_fine (HR.out.new (by repeat' (first | (with_reducible exact Below.refl _ _) | (with_reducible refine Below.drew ?_) | (with_reducible refine bo_drewN _ ?_) | (with_reducible refine bo_alloc ?_ _) | (refine bchain ?_ (by with_reducible assumption)) | (with_reducible refine Below.setCell ?_ ?_ _) | go_size))))).mono ?_; rw [m3]; rintro x w3 ⟨rfl, hb3⟩
    have R3 := ((rowIs_new w 89 [.int .i64 f.id, .int .i64 f.get, .int .i64 f.give, .slice ad f.fds.length cap, .int .i64 f.tun.up.r, .string f.tun.up.b, .bool f.tun.up.e, .bool f.tun.up.k, .int .i64 f.tun.dn.r, .string f.tun.dn.b, .bool f.tun.dn.e, .bool f.tun.dn.k, .int .i64 f.tun.went, .int .i64 f.tun.came, .bool f.ended]).alloc (.cells #[.int .i64 e.id, .int .i64 e.state] 103)).new hb3
    have c4 := RowIs.cell (j := 4) R3 rfl
    have c5 := RowIs.cell (j := 5) R3 rfl
    have c6 := RowIs.cell (j := 6) R3 rfl
    have c7 := RowIs.cell (j := 7) R3 rfl
    have c8 := RowIs.cell (j := 8) R3 rfl
    have c9 := RowIs.cell (j := 9) R3 rfl
    have c10 := RowIs.cell (j := 10) R3 rfl
    have c11 := RowIs.cell (j := 11) R3 rfl
    have c12 := RowIs.cell (j := 12) R3 rfl
    have c13 := RowIs.cell (j := 13) R3 rfl
    clear R3
    go_wp2_with fail
    refine (implTunnelOk f.tun _ h1 h2).mono ?_; rw [m4]; rintro x w4 ⟨rfl, hb4⟩
    go_wp2_with fail
    go_ret
    exact ⟨by rw [HN.out]; rfl, bchain (bchain (by repeat' (first | (with_reducible exact Below.refl _ _) | (with_reducible refine Below.drew ?_) | (with_reducible refine bo_drewN _ ?_) | (with_reducible refine bo_alloc ?_ _) | (refine bchain ?_ (by with_reducible assumption)) | (with_reducible refine Below.setCell ?_ ?_ _) | go_size)) hb3) hb4⟩
  have HY := hide (okFl_yes HC0.out m0 m1 HS.out m4)
  go_enter Tryz.func121, Tryz.ntmps121
  go_wp2_with fail
  refine (implWin f.get _).mono ?_; rw [m0]; rintro e v0 ⟨rfl, hsame⟩; obtain rfl := hsame.symm; clear hsame
  go_wp2_with fail
  refine (implWin f.give _).mono ?_; rw [m1]; rintro e v1 ⟨rfl, hsame⟩; obtain rfl := hsame.symm; clear hsame
  go_wp2_with fail
  refine (implRights f.fds _ _ (rd_fv (HR.out.new (by repeat' (first | (with_reducible exact Below.refl _ _) | (with_reducible refine Below.drew ?_) | (with_reducible refine bo_drewN _ ?_) | (with_reducible refine bo_alloc ?_ _) | (refine bchain ?_ (by with_reducible assumption)) | (with_reducible refine Below.setCell ?_ ?_ _) | go_size)))) (rd_fine (HR.out.new (by repeat' (first | (with_reducible exact Below.refl _ _) | (with_reducible refine Below.drew ?_) | (with_reducible refine bo_drewN _ ?_) | (with_reducible refine bo_alloc ?_ _) | (refine bchain ?_ (by with_reducible assumption)) | (with_reducible refine Below.setCell ?_ ?_ _) | go_size))))).mono ?_; rw [m3]; rintro x w3 ⟨rfl, hb3⟩
  have R3 := ((rowIs_new w 89 [.int .i64 f.id, .int .i64 f.get, .int .i64 f.give, .slice ad f.fds.length cap, .int .i64 f.tun.up.r, .string f.tun.up.b, .bool f.tun.up.e, .bool f.tun.up.k, .int .i64 f.tun.dn.r, .string f.tun.dn.b, .bool f.tun.dn.e, .bool f.tun.dn.k, .int .i64 f.tun.went, .int .i64 f.tun.came, .bool f.ended]).alloc (.cells #[.int .i64 e.id, .int .i64 e.state] 103)).new hb3
  have c4 := RowIs.cell (j := 4) R3 rfl
  have c5 := RowIs.cell (j := 5) R3 rfl
  have c6 := RowIs.cell (j := 6) R3 rfl
  have c7 := RowIs.cell (j := 7) R3 rfl
  have c8 := RowIs.cell (j := 8) R3 rfl
  have c9 := RowIs.cell (j := 9) R3 rfl
  have c10 := RowIs.cell (j := 10) R3 rfl
  have c11 := RowIs.cell (j := 11) R3 rfl
  have c12 := RowIs.cell (j := 12) R3 rfl
  have c13 := RowIs.cell (j := 13) R3 rfl
  clear R3
  go_wp2_with fail
  refine (implTunnelOk f.tun _ h1 h2).mono ?_; rw [m4]; rintro x w4 ⟨rfl, hb4⟩
  go_wp2_with fail
  go_ret
  exact ⟨by rw [HY.out]; rfl, bchain (bchain (by repeat' (first | (with_reducible exact Below.refl _ _) | (with_reducible refine Below.drew ?_) | (with_reducible refine bo_drewN _ ?_) | (with_reducible refine bo_alloc ?_ _) | (refine bchain ?_ (by with_reducible assumption)) | (with_reducible refine Below.setCell ?_ ?_ _) | go_size)) hb3) hb4⟩
set_option maxHeartbeats 4000000 in
theorem implEqualF (F : List FlD) (E : List EntryD) (vf ve : Value) (w : World) (hf : RdR flowS w vf F) (he : RdR entryS w ve E) :
    Calls Tryz.prog 120 #[vf, ve, .func (.func 121) #[] #[]] w fun x w' => x = .returned (.bool (okFls F E)) ∧ Below w.heap.size w w' := by
  obtain ⟨af, cf, rfl, f1, f2⟩ := hf.form
  obtain ⟨ae, ce, rfl, e1, e2⟩ := he.form
  have HF := hide hf; have HE := hide he
  clear hf he
  obtain ⟨A, hA⟩ : ∃ A, okFls F E = A := ⟨_, rfl⟩
  rw [hA]
  by_cases hl : F.length = E.length
  rotate_left
  · have hl' : ((F.length : Int) != E.length) = true := by simpa using fun c : (F.length : Int) = E.length => hl (by omega)
    have HN : Hid (A = false) := by
      show A = false
      rw [← hA]
      cases q : okFls F E
      · rfl
      · exact absurd (okFls_len q) hl
    clear hl hA
    go_enter Tryz.func120, Tryz.ntmps120
    go_wp2_with fail
    go_ret
    exact ⟨by rw [HN.out]; rfl, (by repeat' (first | (with_reducible exact Below.refl _ _) | (with_reducible refine Below.drew ?_) | (with_reducible refine bo_drewN _ ?_) | (with_reducible refine bo_alloc ?_ _) | (refine bchain ?_ (by with_reducible assumption)) | (with_reducible refine Below.setCell ?_ ?_ _) | go_size))⟩
  have hl' : ((F.length : Int) != E.length) = false := by simpa using (show (F.length : Int) = E.length by omega)
  have HL := hide hl
  have hle : F.length ≤ E.length := by omega
  have HA := hide hA
  clear hl hA
  go_enter Tryz.func120, Tryz.ntmps120
  go_wp2_with fail
  go_loopw [17] (fun i wr => ∃ (k : Nat), i = .int .i64 k ∧ k ≤ F.length ∧ Hid (∀ j (h : j < F.length) (h' : j < E.length), j < k → okFl F[j] E[j] = true) ∧ Hid (Below w.heap.size w wr)) (fun i _ => F.length - (intOf i).toNat)
  case atStart => exact ⟨0, rfl, Nat.zero_le _, fun j _ _ hj => absurd hj (Nat.not_lt_zero _), Below.refl _ _⟩
  case round =>
    obtain ⟨k, rfl, hk, HN, HB⟩ := hrel
    by_cases hlt : k < F.length
    · have hlte : k < E.length := by omega
      obtain ⟨b, o, cs, rfl, hbw, hrd, hc⟩ := (HF.out.new HB.out).at k hlt
      obtain ⟨be, oe, cse, rfl, hbe, hre, hce⟩ := (HE.out.new HB.out).at k hlte
      have HQN : Hid (okFl F[k] E[k] = false → A = false) := fun h => HA.out.symm.trans (okFls_no hlt hlte h)
      have HQY : Hid (okFl F[k] E[k] = true → ∀ j (h : j < F.length) (h' : j < E.length), j < k + 1 → okFl F[j] E[j] = true) := fun h j h1 h2 hj => by
        by_cases e : j = k
        · subst e; exact h
        · exact HN.out j h1 h2 (by omega)
      obtain ⟨f, hff⟩ : ∃ f, F[k] = f := ⟨_, rfl⟩
      obtain ⟨e, hee⟩ : ∃ e, E[k] = e := ⟨_, rfl⟩
      rw [hff, hee] at HQN HQY
      rw [hff] at hrd
      rw [hee] at hre
      clear hff hee HN
      obtain ⟨vq, rfl, s0, s1, hfd⟩ := hrd
      obtain ⟨aq, pq, rfl, _⟩ := hfd.form
      obtain rfl := hre
      have HFD := hide hfd
      clear hfd
      have ce0 : wr.cell? ⟨be, oe + k * 2, none⟩ = some (.int .i64 e.id) := hce 0 _ rfl
      have ce1 : wr.cell? ⟨be, oe + k * 2 + 1, none⟩ = some (.int .i64 e.state) := hce 1 _ rfl
      have c0 : wr.cell? ⟨b, o + k * 15, none⟩ = some (.int .i64 f.id) := hc 0 _ rfl
      have c1 : wr.cell? ⟨b, o + k * 15 + 1, none⟩ = some (.int .i64 f.get) := hc 1 _ rfl
      have c2 : wr.cell? ⟨b, o + k * 15 + 2, none⟩ = some (.int .i64 f.give) := hc 2 _ rfl
      have c3 : wr.cell? ⟨b, o + k * 15 + 3, none⟩ = some (.slice aq f.fds.length pq) := hc 3 _ rfl
      have c4 : wr.cell? ⟨b, o + k * 15 + 4, none⟩ = some (.int .i64 f.tun.up.r) := hc 4 _ rfl
      have c5 : wr.cell? ⟨b, o + k * 15 + 5, none⟩ = some (.string f.tun.up.b) := hc 5 _ rfl
      have c6 : wr.cell? ⟨b, o + k * 15 + 6, none⟩ = some (.bool f.tun.up.e) := hc 6 _ rfl
      have c7 : wr.cell? ⟨b, o + k * 15 + 7, none⟩ = some (.bool f.tun.up.k) := hc 7 _ rfl
      have c8 : wr.cell? ⟨b, o + k * 15 + 8, none⟩ = some (.int .i64 f.tun.dn.r) := hc 8 _ rfl
      have c9 : wr.cell? ⟨b, o + k * 15 + 9, none⟩ = some (.string f.tun.dn.b) := hc 9 _ rfl
      have c10 : wr.cell? ⟨b, o + k * 15 + 10, none⟩ = some (.bool f.tun.dn.e) := hc 10 _ rfl
      have c11 : wr.cell? ⟨b, o + k * 15 + 11, none⟩ = some (.bool f.tun.dn.k) := hc 11 _ rfl
      have c12 : wr.cell? ⟨b, o + k * 15 + 12, none⟩ = some (.int .i64 f.tun.went) := hc 12 _ rfl
      have c13 : wr.cell? ⟨b, o + k * 15 + 13, none⟩ = some (.int .i64 f.tun.came) := hc 13 _ rfl
      have c14 : wr.cell? ⟨b, o + k * 15 + 14, none⟩ = some (.bool f.ended) := hc 14 _ rfl
      clear hc hce
      have hkI : (k : Int) < E.length := by omega
      have hX : Below wr.heap.size wr ((wr.alloc (.cells #[.int .i64 0, .int .i64 0, .int .i64 0, .slice none 0 0, .int .i64 0, .string ⟨#[]⟩, .bool false, .bool false, .int .i64 0, .string ⟨#[]⟩, .bool false, .bool false, .int .i64 0, .int .i64 0, .bool false] 89)).setRow wr.heap.size #[.int .i64 f.id, .int .i64 f.get, .int .i64 f.give, .slice aq f.fds.length pq, .int .i64 f.tun.up.r, .string f.tun.up.b, .bool f.tun.up.e, .bool f.tun.up.k, .int .i64 f.tun.dn.r, .string f.tun.dn.b, .bool f.tun.dn.e, .bool f.tun.dn.k, .int .i64 f.tun.went, .int .i64 f.tun.came, .bool f.ended]) := below_setRow ((Below.refl _ _).alloc (Nat.le_refl _) _) (Nat.le_refl _) #[.int .i64 f.id, .int .i64 f.get, .int .i64 f.give, .slice aq f.fds.length pq, .int .i64 f.tun.up.r, .string f.tun.up.b, .bool f.tun.up.e, .bool f.tun.up.k, .int .i64 f.tun.dn.r, .string f.tun.dn.b, .bool f.tun.dn.e, .bool f.tun.dn.k, .int .i64 f.tun.went, .int .i64 f.tun.came, .bool f.ended]
      have RX : RowIs ((wr.alloc (.cells #[.int .i64 0, .int .i64 0, .int .i64 0, .slice none 0 0, .int .i64 0, .string ⟨#[]⟩, .bool false, .bool false, .int .i64 0, .string ⟨#[]⟩, .bool false, .bool false, .int .i64 0, .int .i64 0, .bool false] 89)).setRow wr.heap.size #[.int .i64 f.id, .int .i64 f.get, .int .i64 f.give, .slice aq f.fds.length pq, .int .i64 f.tun.up.r, .string f.tun.up.b, .bool f.tun.up.e, .bool f.tun.up.k, .int .i64 f.tun.dn.r, .string f.tun.dn.b, .bool f.tun.dn.e, .bool f.tun.dn.k, .int .i64 f.tun.went, .int .i64 f.tun.came, .bool f.ended]) wr.heap.size 89 [.int .i64 f.id, .int .i64 f.get, .int .i64 f.give, .slice aq f.fds.length pq, .int .i64 f.tun.up.r, .string f.tun.up.b, .bool f.tun.up.e, .bool f.tun.up.k, .int .i64 f.tun.dn.r, .string f.tun.dn.b, .bool f.tun.dn.e, .bool f.tun.dn.k, .int .i64 f.tun.went, .int .i64 f.tun.came, .bool f.ended] := rowIs_setRow (rowIs_new wr 89 [.int .i64 0, .int .i64 0, .int .i64 0, .slice none 0 0, .int .i64 0, .string ⟨#[]⟩, .bool false, .bool false, .int .i64 0, .string ⟨#[]⟩, .bool false, .bool false, .int .i64 0, .int .i64 0, .bool false])
      have ceX := (hX.cell (p := ⟨be, oe + k * 2, none⟩) hbe).trans ce0
      have ceY := (hX.cell (p := ⟨be, oe + k * 2 + 1, none⟩) hbe).trans ce1
      have hbeX : be < ((wr.alloc (.cells #[.int .i64 0, .int .i64 0, .int .i64 0, .slice none 0 0, .int .i64 0, .string ⟨#[]⟩, .bool false, .bool false, .int .i64 0, .string ⟨#[]⟩, .bool false, .bool false, .int .i64 0, .int .i64 0, .bool false] 89)).setRow wr.heap.size #[.int .i64 f.id, .int .i64 f.get, .int .i64 f.give, .slice aq f.fds.length pq, .int .i64 f.tun.up.r, .string f.tun.up.b, .bool f.tun.up.e, .bool f.tun.up.k, .int .i64 f.tun.dn.r, .string f.tun.dn.b, .bool f.tun.dn.e, .bool f.tun.dn.k, .int .i64 f.tun.went, .int .i64 f.tun.came, .bool f.ended]).heap.size := Nat.lt_of_lt_of_le hbe hX.size
      go_upto_region 6 with (refine wpList_store_row (by rfl) 89 _ _ (by rfl) wr.heap.size [.int .i64 f.id, .int .i64 f.get, .int .i64 f.give, .slice aq f.fds.length pq, .int .i64 f.tun.up.r, .string f.tun.up.b, .bool f.tun.up.e, .bool f.tun.up.k, .int .i64 f.tun.dn.r, .string f.tun.dn.b, .bool f.tun.dn.e, .bool f.tun.dn.k, .int .i64 f.tun.went, .int .i64 f.tun.came, .bool f.ended] (by rfl) (by rfl) 89 [.int .i64 0, .int .i64 0, .int .i64 0, .slice none 0 0, .int .i64 0, .string ⟨#[]⟩, .bool false, .bool false, .int .i64 0, .string ⟨#[]⟩, .bool false, .bool false, .int .i64 0, .int .i64 0, .bool false] (rowIs_new wr 89 [.int .i64 0, .int .i64 0, .int .i64 0, .slice none 0 0, .int .i64 0, .string ⟨#[]⟩, .bool false, .bool false, .int .i64 0, .string ⟨#[]⟩, .bool false, .bool false, .int .i64 0, .int .i64 0, .bool false]) (by kernel_rfl) rfl (by intro u hu; simp at hu; rcases hu with rfl | rfl | rfl | rfl | rfl | rfl | rfl | rfl | rfl | rfl | rfl | rfl | rfl | rfl | rfl <;> rfl) ?_)
      replace HFD := hide (HFD.out.new hX)
      replace HB := hide (bchain HB.out hX)
      clear hX ce0 ce1 c0 c1 c2 c3 c4 c5 c6 c7 c8 c9 c10 c11 c12 c13 c14
      generalize (wr.alloc (.cells #[.int .i64 0, .int .i64 0, .int .i64 0, .slice none 0 0, .int .i64 0, .string ⟨#[]⟩, .bool false, .bool false, .int .i64 0, .string ⟨#[]⟩, .bool false, .bool false, .int .i64 0, .int .i64 0, .bool false] 89)).setRow wr.heap.size #[.int .i64 f.id, .int .i64 f.get, .int .i64 f.give, .slice aq f.fds.length pq, .int .i64 f.tun.up.r, .string f.tun.up.b, .bool f.tun.up.e, .bool f.tun.up.k, .int .i64 f.tun.dn.r, .string f.tun.dn.b, .bool f.tun.dn.e, .bool f.tun.dn.k, .int .i64 f.tun.went, .int .i64 f.tun.came, .bool f.ended] = V at *
      generalize wr.heap.size = gy at *
      try simp only [Act.put, List.getElem_toArray, List.getElem_cons_succ, List.getElem_cons_zero, List.setIfInBounds_toArray, List.set_cons_zero, List.set_cons_succ]
      have hbA : Below V.heap.size V (V.alloc (.cells #[.int .i64 e.id, .int .i64 e.state] 103)) := (Below.refl _ _).alloc (Nat.le_refl _) _
      have HRX := hide (RX.new hbA)
      replace HFD := hide (HFD.out.new hbA)
      replace HB := hide (bchain HB.out hbA)
      have re0 := RowIs.cell (j := 0) (rowIs_new V 103 [.int .i64 e.id, .int .i64 e.state]) rfl
      have re1 := RowIs.cell (j := 1) (rowIs_new V 103 [.int .i64 e.id, .int .i64 e.state]) rfl
      clear RX hbA
      go_upto_region 7 with fail
      clear ceX ceY hbeX
      generalize V.alloc (.cells #[.int .i64 e.id, .int .i64 e.state] 103) = X at *
      generalize V.heap.size = gz at *
      go_wp2_with (refine wpList_load_row (by rfl) 89 _ (by rfl) gy (by rfl) [.int .i64 f.id, .int .i64 f.get, .int .i64 f.give, .slice aq f.fds.length pq, .int .i64 f.tun.up.r, .string f.tun.up.b, .bool f.tun.up.e, .bool f.tun.up.k, .int .i64 f.tun.dn.r, .string f.tun.dn.b, .bool f.tun.dn.e, .bool f.tun.dn.k, .int .i64 f.tun.went, .int .i64 f.tun.came, .bool f.ended] _ 89 HRX.out Tryz.underlying89 rfl (by kernel_rfl) ?_)
      refine (implRightOf f e _ _ HFD.out s0 s1).mono ?_; rintro z w5 ⟨rfl, hb5⟩
      replace HB := hide (bchain HB.out hb5)
      clear hb5 HRX HFD re0 re1
      cases hq : okFl f e
      · have HF0 := hide (HQN.out hq)
        clear hq HQN HQY
        go_wp2_with fail
        go_ret
        exact ⟨by rw [HF0.out]; rfl, HB.out⟩
      · have HN := hide (HQY.out hq)
        clear hq HQN HQY
        go_wp2_with fail
        go_roundw
        case rel => exact ⟨k + 1, by go_num, by omega, HN, HB⟩
        case measure => simp [intOf]; omega
    · have HFF : Hid (A = true) := HA.out.symm.trans (okFls_of HL.out fun j h h' => HN.out j h h' (by omega))
      have hge : ¬ (k : Int) < F.length := by omega
      go_wp2_with fail
      go_ret
      exact ⟨by rw [HFF.out]; rfl, HB.out⟩
set_option maxHeartbeats 8000000 in
theorem implConnRight (d : CnD) (ve vi vo vf : Value) (w : World) (hv : CnRd w d ve vi vo vf) : Calls Tryz.prog 69 #[cnv d ve vi vo vf] w fun x w' => x = .returned (.bool (okCn d)) ∧ Below w.heap.size w w' := by
  dsimp only [cnv] at *
  have HV := hide hv
  clear hv
  obtain ⟨ae, pe, rfl, _⟩ := HV.out.e.form
  obtain ⟨ai, pi, rfl, _⟩ := HV.out.i.form
  obtain ⟨ao, po, rfl, _⟩ := HV.out.o.form
  obtain ⟨af, pf, rfl, _⟩ := HV.out.f.form
  have hin : inB d.first 0 16777215 = (winB d.first && !decide (d.first < 0)) := by
    rw [Bool.eq_iff_iff]
    unfold winB inB
    simp
    omega
  obtain ⟨V, hV⟩ : ∃ V, w.alloc (.cells #[.int .i64 d.reg.lim, .int .i64 d.reg.top, .slice ae d.reg.es.length pe, .int .i64 d.inr, .slice ai d.inT.length pi, .int .i64 d.outr, .slice ao d.outT.length po, .int .i64 d.get, .int .i64 d.give, .int .i64 d.first, .slice af d.flows.length pf, .bool d.away, .bool d.dead] 43) = V := ⟨_, rfl⟩
  have HB : Below w.heap.size w V := by rw [← hV]; exact (Below.refl _ _).alloc (Nat.le_refl _) _
  have RX : RowIs V w.heap.size 43 [.int .i64 d.reg.lim, .int .i64 d.reg.top, .slice ae d.reg.es.length pe, .int .i64 d.inr, .slice ai d.inT.length pi, .int .i64 d.outr, .slice ao d.outT.length po, .int .i64 d.get, .int .i64 d.give, .int .i64 d.first, .slice af d.flows.length pf, .bool d.away, .bool d.dead] := by rw [← hV]; exact rowIs_new w 43 _
  have HRX := hide RX
  have x7 := RowIs.cell (j := 7) RX rfl
  have x8 := RowIs.cell (j := 8) RX rfl
  have x9 := RowIs.cell (j := 9) RX rfl
  clear RX
  go_enter Tryz.func69, Tryz.ntmps69
  go_wp2_with fail
  try rw [hV]
  clear hV
  refine (implWin d.get _).mono ?_; rintro e v3 ⟨rfl, hsame⟩; obtain rfl := hsame.symm; clear hsame
  cases k4 : winB d.get
  · have HN := hide (okCn_no (c := d) (fun h => by rw [k4] at h; simp at h))
    go_wp2_with fail
    go_ret
    exact ⟨by rw [HN.out]; rfl, HB⟩
  go_wp2_with fail
  refine (implWin d.give _).mono ?_; rintro e v4 ⟨rfl, hsame⟩; obtain rfl := hsame.symm; clear hsame
  cases k5 : winB d.give
  · have HN := hide (okCn_no (c := d) (fun h => by rw [k5] at h; simp at h))
    go_wp2_with fail
    go_ret
    exact ⟨by rw [HN.out]; rfl, HB⟩
  go_wp2_with fail
  refine (implWin d.first _).mono ?_; rintro e v5 ⟨rfl, hsame⟩; obtain rfl := hsame.symm; clear hsame
  cases k6 : winB d.first
  · have HN := hide (okCn_no (c := d) (fun h => by rw [hin, k6] at h; simp at h))
    go_wp2_with fail
    go_ret
    exact ⟨by rw [HN.out]; rfl, HB⟩
  by_cases k7 : d.first < 0
  · have HN := hide (okCn_no (c := d) (fun h => by rw [hin, decide_eq_true k7] at h; simp at h))
    go_wp2_with fail
    go_ret
    exact ⟨by rw [HN.out]; rfl, HB⟩
  have HIN := hide (show inB d.first 0 16777215 = true by rw [hin, k6, decide_eq_false k7]; rfl)
  have x0 := RowIs.cell (j := 0) HRX.out rfl
  have x1 := RowIs.cell (j := 1) HRX.out rfl
  have x2 := RowIs.cell (j := 2) HRX.out rfl
  go_wp2_with fail
  refine (implRegistryOk d.reg _ _ (HV.out.e.new HB)).mono ?_; rintro x u0 ⟨rfl, hb⟩
  replace HRX := hide (HRX.out.new hb)
  replace HB := bchain HB hb
  clear hb x0 x1 x2 x7 x8 x9
  cases k1 : okRg d.reg
  · have HN := hide (okCn_no (c := d) (fun h => by rw [k1] at h; simp at h))
    go_wp2_with fail
    go_ret
    exact ⟨by rw [HN.out]; rfl, HB⟩
  have x3 := RowIs.cell (j := 3) HRX.out rfl
  have x4 := RowIs.cell (j := 4) HRX.out rfl
  go_wp2_with fail
  refine (implTOk d.inT d.inr _ _ (rd_fv (HV.out.i.new HB)) (rd_fine (HV.out.i.new HB))).mono ?_; rintro x u1 ⟨rfl, hb⟩
  replace HRX := hide (HRX.out.new hb)
  replace HB := bchain HB hb
  clear hb x3 x4
  cases k2 : okT d.inr d.inT
  · have HN := hide (okCn_no (c := d) (fun h => by rw [k2] at h; simp at h))
    go_wp2_with fail
    go_ret
    exact ⟨by rw [HN.out]; rfl, HB⟩
  have x5 := RowIs.cell (j := 5) HRX.out rfl
  have x6 := RowIs.cell (j := 6) HRX.out rfl
  go_wp2_with fail
  refine (implTOk d.outT d.outr _ _ (rd_fv (HV.out.o.new HB)) (rd_fine (HV.out.o.new HB))).mono ?_; rintro x u2 ⟨rfl, hb⟩
  replace HRX := hide (HRX.out.new hb)
  replace HB := bchain HB hb
  clear hb x5 x6
  cases k3 : okT d.outr d.outT
  · have HN := hide (okCn_no (c := d) (fun h => by rw [k3] at h; simp at h))
    go_wp2_with fail
    go_ret
    exact ⟨by rw [HN.out]; rfl, HB⟩
  have HC : Hid (okCn d = okFls d.flows d.reg.es) := by
    show okCn d = _
    unfold okCn
    rw [k1, k2, k3, k4, k5, HIN.out]; rfl
  have x10 := RowIs.cell (j := 10) HRX.out rfl
  have x2 := RowIs.cell (j := 2) HRX.out rfl
  clear k1 k2 k3 k4 k5 k6 k7 hin
  go_wp2_with fail
  refine (implEqualF d.flows d.reg.es _ _ _ (HV.out.f.new HB) (HV.out.e.new HB)).mono ?_; rintro x u3 ⟨rfl, hb⟩
  have HB2 := hide (bchain HB hb)
  clear hb
  go_wp2_with fail
  go_ret
  exact ⟨by rw [HC.out]; rfl, HB2.out⟩
end Go.Proofs.YtllaeakeaabiaaaGreat
