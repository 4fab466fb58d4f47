/- Several small texts of one level, one behind the other. -/
import Derived.Test.YtfmeinkhdgbgjaaGreatQTkG23
import Derived.Test.YtfmeinkhdgbgjaaGreatQTkG19
import Derived.Test.YtfmeinkhdgbgjaaGreatQTkG9
import Derived.Test.YtfmeinkhdgbgjaaGreatQTkG8
import Derived.Test.YtfmeinkhdgbgjaaGreatQTkG5
import Derived.Deep.DeepMust
/- A step of a connection in place, told in one form: the Conn turned so, these frames told. -/
namespace Go.Proofs.YtfmeinkhdgbgjaaGreat
open Go.RowKit
set_option maxRecDepth 100000
set_option linter.unusedSimpArgs false
set_option linter.unusedVariables false
/-- What a step in place leaves. -/
def StepC (w : World) (g : Nat) (bs : List Nat) (r : CnD × List Fr) (x : Ending) (w' : World) : Prop :=
  ∃ v bs', x = .returned v ∧ CnM w' g r.1 bs' ∧ w'.ownsRow w.heap.size 34 4 v r.2.length (fr r.2) ∧ TurnB (g :: bs) w w' ∧ NewB w bs bs' ∧ ∀ q, v.ownBlock = some q → q ∉ g :: bs'
theorem TurnB.then {g : Nat} {w w1 w2 : World} {bs bs1 : List Nat} (ht : TurnB (g :: bs) w w1) (hn : NewB w bs bs1) (ht2 : TurnB (g :: bs1) w1 w2) : TurnB (g :: bs) w w2 := ht.trans2 ht2 (fun x hx => by
  rcases List.mem_cons.1 hx with rfl | hx
  · exact .inl (by simp)
  · rcases hn x hx with e | e
    · exact .inl (by simp [e])
    · exact .inr e)
theorem StepC.after {w w1 w' : World} {g : Nat} {bs bs1 : List Nat} {r : CnD × List Fr} {x : Ending} (ht : TurnB (g :: bs) w w1) (hn : NewB w bs bs1) (h : StepC w1 g bs1 r x w') : StepC w g bs r x w' := by
  obtain ⟨v, bs', rfl, hc, ho, ht2, hn2, ha⟩ := h
  exact ⟨v, bs', rfl, hc, owns_base ho (fun q hq => Nat.le_trans ht.size (ho.lt q hq).1), ht.then hn ht2, hn.trans hn2 ht.size, ha⟩
theorem StepC.nothing {w : World} {g n : Nat} {d : CnD} {bs : List Nat} (h : CnM w g d bs) (hn : n = w.heap.size := by simp) : StepC w g bs (d, []) (.returned (.slice (some ⟨n, 0, none⟩) 0 0)) (w.alloc (.cells #[] 34)) := by
  subst hn
  have hbx : Below w.heap.size w (w.alloc (.cells #[] 34)) := (Below.refl _ _).alloc (Nat.le_refl _) _
  exact ⟨_, bs, rfl, h.new hbx, owns_lit w 34 4 0 #[] rfl (by omega), TurnB.new hbx, NewB.refl _ _, fun q hq hx => by simp [Value.ownBlock] at hq; have := h.lts q hx; omega⟩
theorem StepC.one {w : World} {g n : Nat} {d : CnD} {bs : List Nat} (f : Fr) (h : CnM w g d bs) (hn : n = w.heap.size := by simp) : StepC w g bs (d, [f]) (.returned (.slice (some ⟨n, 0, none⟩) 1 1)) (w.alloc (.cells #[.int .i64 f.k, .int .i64 f.fl, .int .i64 f.st, .string f.b] 34)) := by
  subst hn
  have hbx : Below w.heap.size w (w.alloc (.cells #[.int .i64 f.k, .int .i64 f.fl, .int .i64 f.st, .string f.b] 34)) := (Below.refl _ _).alloc (Nat.le_refl _) _
  exact ⟨_, bs, rfl, h.new hbx, frw_one w f, TurnB.new hbx, NewB.refl _ _, fun q hq hx => by simp [Value.ownBlock] at hq; have := h.lts q hx; omega⟩
end Go.Proofs.YtfmeinkhdgbgjaaGreat
/- Chapter 17's model: a copy of a Conn. -/
namespace Go.Proofs.YtfmeinkhdgbgjaaGreat
open Go.RowKit
set_option maxRecDepth 100000
set_option linter.unusedSimpArgs false
set_option linter.unusedVariables false
/-- A Conn as a value, its lists owned in blocks from lo on. -/
def NewC (lo : Nat) (d : CnD) (v : Value) (w : World) : Prop := ∃ ve vi vo vf bs, v = cnv d ve vi vo vf ∧ CnOw w bs d ve vi vo vf ∧ ∀ b ∈ bs, lo ≤ b
theorem cnow_of {w : World} {d : CnD} {ve vi vo vf : Value} {a b a2 b2 a3 b3 a4 b4 : Nat} (h1 : OwX entryS w a b ve d.reg.es) (h2 : OwX fieldS w a2 b2 vi d.inT) (h3 : OwX fieldS w a3 b3 vo d.outT) (h4 : OwX flowS w a4 b4 vf d.flows) (i1 : b ≤ a2) (i2 : b2 ≤ a3) (i3 : b3 ≤ a4) (j1 : a ≤ b) (j2 : a2 ≤ b2) (j3 : a3 ≤ b3) :
    ∃ bs, CnOw w bs d ve vi vo vf ∧ ∀ x ∈ bs, a ≤ x := by
  obtain ⟨be, e1, e2, e3⟩ := h1
  obtain ⟨bi, f1, f2, f3⟩ := h2
  obtain ⟨bo, g1, g2, g3⟩ := h3
  obtain ⟨bf, k1, k2, k3⟩ := h4
  refine ⟨be ++ bi ++ bo ++ bf, ⟨⟨be, bi, bo, bf, e1, f1, g1, k1, rfl⟩, ?_⟩, fun x hx => ?_⟩
  · refine nodup_mk (nodup_mk (nodup_mk e2 f2 fun x hx hx2 => ?_) g2 fun x hx hx2 => ?_) k2 fun x hx hx2 => ?_
    · have := e3 x hx; have := f3 x hx2; omega
    · have := g3 x hx2
      rcases List.mem_append.1 hx with h | h
      · have := e3 x h; omega
      · have := f3 x h; omega
    · have := k3 x hx2
      rcases List.mem_append.1 hx with h | h
      · rcases List.mem_append.1 h with h | h
        · have := e3 x h; omega
        · have := f3 x h; omega
      · have := g3 x h; omega
  · rcases List.mem_append.1 hx with h | h
    · rcases List.mem_append.1 h with h | h
      · rcases List.mem_append.1 h with h | h
        · exact (e3 x h).1
        · have := f3 x h; omega
      · have := g3 x h; omega
    · have := k3 x h; omega
theorem sumW_nine : ∀ {L : List Fd}, L.all okF = true → 9 * (L.length : Int) ≤ sumW L
  | [], _ => by simp [sumW]
  | f :: L, h => by
    simp only [List.all_cons, Bool.and_eq_true] at h
    have h1 := sumW_nine h.2
    have h2 := wt_pos h.1
    simp only [sumW, List.length_cons]
    omega
theorem okT_len {room : Int} {L : List Fd} (h : okT room L = true) : L.length ≤ 1000 := by
  unfold okT at h
  simp only [Bool.and_eq_true, decide_eq_true_eq] at h
  have h1 := sumW_nine h.2.1
  have h2 := inB_true h.1
  omega
set_option maxHeartbeats 8000000 in
theorem specCopy17 (d : CnD) (ve vi vo vf : Value) (w : World) (hv : CnRd w d ve vi vo vf) (hok : okCn d = true) :
    Calls Tryz.prog 47 #[cnv d ve vi vo vf] w fun x w' => ∃ v', x = .returned v' ∧ NewC w.heap.size d v' w' ∧ Below w.heap.size w w' := by
  have hl1 := (cn_len hok).2
  have hl2 := okT_len (okCn_iff.1 hok).2.1
  have hl3 := okT_len (okCn_iff.1 hok).2.2.1
  have hl4 : d.flows.length ≤ 60 := by have := (cn_len hok).1; omega
  have H20 : Hid (∀ f ∈ d.flows, f.fds.length ≤ 20) := fun f hf => by
    have := (cn_flow hok hf).2.2.2
    unfold okFs at this
    simp only [Bool.and_eq_true, decide_eq_true_eq] at this
    exact this.2
  obtain ⟨hv1, hv2, hv3, hv4⟩ := hv
  obtain ⟨ae, pe, rfl, e1, e2⟩ := hv1.form
  obtain ⟨ai, pi, rfl, i1, i2⟩ := hv2.form
  obtain ⟨ao, po, rfl, o1, o2⟩ := hv3.form
  obtain ⟨af, pf, rfl, f1, f2⟩ := hv4.form
  obtain ⟨⟨rl, rt, es⟩, ir, it, orr, ot, gt, gv, fs, fl, aw, de⟩ := d
  dsimp only [cnv] at *
  have HV1 := hide hv1; have HV2 := hide hv2; have HV3 := hide hv3; have HV4 := hide hv4
  clear hok hv1 hv2 hv3 hv4
  have hbA : Below w.heap.size w (w.alloc (.cells #[.int .i64 rl, .int .i64 rt, .slice ae es.length pe, .int .i64 ir, .slice ai it.length pi, .int .i64 orr, .slice ao ot.length po, .int .i64 gt, .int .i64 gv, .int .i64 fs, .slice af fl.length pf, .bool aw, .bool de] 32)) := (Below.refl _ _).alloc (Nat.le_refl _) _
  have RA := rowIs_new w 32 [.int .i64 rl, .int .i64 rt, .slice ae es.length pe, .int .i64 ir, .slice ai it.length pi, .int .i64 orr, .slice ao ot.length po, .int .i64 gt, .int .i64 gv, .int .i64 fs, .slice af fl.length pf, .bool aw, .bool de]
  generalize hA : w.alloc (.cells #[.int .i64 rl, .int .i64 rt, .slice ae es.length pe, .int .i64 ir, .slice ai it.length pi, .int .i64 orr, .slice ao ot.length po, .int .i64 gt, .int .i64 gv, .int .i64 fs, .slice af fl.length pf, .bool aw, .bool de] 32) = WA at *
  have hsA : WA.heap.size = w.heap.size + 1 := by rw [← hA]; simp
  have hbZ : Below WA.heap.size WA (WA.alloc (.cells #[.int .i64 0, .int .i64 0, .slice none 0 0, .int .i64 0, .slice none 0 0, .int .i64 0, .slice none 0 0, .int .i64 0, .int .i64 0, .int .i64 0, .slice none 0 0, .bool false, .bool false] 32)) := (Below.refl _ _).alloc (Nat.le_refl _) _
  have RZ := rowIs_new WA 32 [.int .i64 0, .int .i64 0, .slice none 0 0, .int .i64 0, .slice none 0 0, .int .i64 0, .slice none 0 0, .int .i64 0, .int .i64 0, .int .i64 0, .slice none 0 0, .bool false, .bool false]
  generalize hZ : WA.alloc (.cells #[.int .i64 0, .int .i64 0, .slice none 0 0, .int .i64 0, .slice none 0 0, .int .i64 0, .slice none 0 0, .int .i64 0, .int .i64 0, .int .i64 0, .slice none 0 0, .bool false, .bool false] 32) = WZ at *
  have hsZ : WZ.heap.size = w.heap.size + 2 := by rw [← hZ]; simp; omega
  have hbO : Below WZ.heap.size WZ ((WZ.alloc (.cells #[.int .i64 0, .int .i64 0, .slice none 0 0, .int .i64 0, .slice none 0 0, .int .i64 0, .slice none 0 0, .int .i64 0, .int .i64 0, .int .i64 0, .slice none 0 0, .bool false, .bool false] 32)).setRow WZ.heap.size #[.int .i64 rl, .int .i64 rt, .slice ae es.length pe, .int .i64 ir, .slice ai it.length pi, .int .i64 orr, .slice ao ot.length po, .int .i64 gt, .int .i64 gv, .int .i64 fs, .slice af fl.length pf, .bool aw, .bool de]) := below_setRow ((Below.refl _ _).alloc (Nat.le_refl _) _) (Nat.le_refl _) #[.int .i64 rl, .int .i64 rt, .slice ae es.length pe, .int .i64 ir, .slice ai it.length pi, .int .i64 orr, .slice ao ot.length po, .int .i64 gt, .int .i64 gv, .int .i64 fs, .slice af fl.length pf, .bool aw, .bool de]
  have RN := rowIs_new WZ 32 [.int .i64 0, .int .i64 0, .slice none 0 0, .int .i64 0, .slice none 0 0, .int .i64 0, .slice none 0 0, .int .i64 0, .int .i64 0, .int .i64 0, .slice none 0 0, .bool false, .bool false]
  have RO := rowIs_setRow (cs' := [.int .i64 rl, .int .i64 rt, .slice ae es.length pe, .int .i64 ir, .slice ai it.length pi, .int .i64 orr, .slice ao ot.length po, .int .i64 gt, .int .i64 gv, .int .i64 fs, .slice af fl.length pf, .bool aw, .bool de]) RN
  have hsO : ((WZ.alloc (.cells #[.int .i64 0, .int .i64 0, .slice none 0 0, .int .i64 0, .slice none 0 0, .int .i64 0, .slice none 0 0, .int .i64 0, .int .i64 0, .int .i64 0, .slice none 0 0, .bool false, .bool false] 32)).setRow WZ.heap.size #[.int .i64 rl, .int .i64 rt, .slice ae es.length pe, .int .i64 ir, .slice ai it.length pi, .int .i64 orr, .slice ao ot.length po, .int .i64 gt, .int .i64 gv, .int .i64 fs, .slice af fl.length pf, .bool aw, .bool de]).heap.size = w.heap.size + 3 := by rw [setRow_size]; simp; omega
  replace RA := (RA.new hbZ)
  have RA1 := RA
  replace RA := RA.new hbO
  rw [hsA] at RZ
  replace RZ := RZ.new hbO
  have HB := hide (bchain (bchain hbA hbZ) hbO)
  rw [hsZ] at RO RN
  go_enter Tryz.func47, Tryz.ntmps47
  go_upto_region 1 with fail
  go_upto_region 2 with (first | (refine wpList_load_row (by rfl) 32 _ (by rfl) w.heap.size (by rfl) [.int .i64 rl, .int .i64 rt, .slice ae es.length pe, .int .i64 ir, .slice ai it.length pi, .int .i64 orr, .slice ao ot.length po, .int .i64 gt, .int .i64 gv, .int .i64 fs, .slice af fl.length pf, .bool aw, .bool de] _ 32 RA1 Tryz.underlying32 rfl (by kernel_rfl) ?_) | (refine wpList_store_row (by rfl) 32 _ _ (by rfl) (w.heap.size + 2) [.int .i64 rl, .int .i64 rt, .slice ae es.length pe, .int .i64 ir, .slice ai it.length pi, .int .i64 orr, .slice ao ot.length po, .int .i64 gt, .int .i64 gv, .int .i64 fs, .slice af fl.length pf, .bool aw, .bool de] (by rfl) (by rfl) 32 [.int .i64 0, .int .i64 0, .slice none 0 0, .int .i64 0, .slice none 0 0, .int .i64 0, .slice none 0 0, .int .i64 0, .int .i64 0, .int .i64 0, .slice none 0 0, .bool false, .bool false] RN (by kernel_rfl) rfl (by intro u hu; simp at hu; rcases hu with rfl | rfl | rfl | rfl | rfl | rfl | rfl | rfl | rfl | rfl | rfl | rfl | rfl <;> rfl) ?_))
  rw [hsZ] at RA RZ HB hsO
  clear RN RA1 hbA hbZ hbO
  generalize hO : (WZ.alloc (.cells #[.int .i64 0, .int .i64 0, .slice none 0 0, .int .i64 0, .slice none 0 0, .int .i64 0, .slice none 0 0, .int .i64 0, .int .i64 0, .int .i64 0, .slice none 0 0, .bool false, .bool false] 32)).setRow (w.heap.size + 2) #[.int .i64 rl, .int .i64 rt, .slice ae es.length pe, .int .i64 ir, .slice ai it.length pi, .int .i64 orr, .slice ao ot.length po, .int .i64 gt, .int .i64 gv, .int .i64 fs, .slice af fl.length pf, .bool aw, .bool de] = W1 at *
  clear hO hA hZ hsA hsZ WA
  have hsW1 := hsO
  have a0 := RowIs.cell (j := 0) RA rfl
  have a1 := RowIs.cell (j := 1) RA rfl
  have a2 := RowIs.cell (j := 2) RA rfl
  have af := fun j => RowIs.frozen RA j
  have al := RA.lt
  have o0 := RowIs.cell (j := 0) RO rfl
  have o1 := RowIs.cell (j := 1) RO rfl
  have o2 := RowIs.cell (j := 2) RO rfl
  have of := fun j => RowIs.frozen RO j
  have ol := RO.lt
  go_wp2_with fail
  refine (copyReg ⟨rl, rt, es⟩ (.slice ae es.length pe) _ (HV1.out.new HB.out) (by show es.length ≤ 1000; omega)).mono ?_; rintro e w2 ⟨vE, rfl, ho, hb⟩
  obtain ⟨ae2, pe2, rfl, qE1, qE2⟩ := owns_form ho
  clear a0 a1 a2 af al
  clear o0 o1 o2 of ol
  rw [hsW1] at ho
  have hw2s := hb.size
  rw [hsW1] at hw2s
  obtain ⟨e9, he9⟩ : ∃ n, n = w2.heap.size := ⟨_, rfl⟩
  have hOE := owX_flat (E := entryS) (f := EntryD.cs) (fun d hd => ⟨rfl, rfl⟩) ho
  rw [← he9] at hOE
  replace RA := RA.new hb
  replace RZ := RZ.new hb
  replace RO := RO.new hb
  replace HB := hide (bchain HB.out hb)
  have HE := hide hOE
  clear hb ho hOE
  have o0 := RowIs.cell (j := 0) RO rfl
  have o1 := RowIs.cell (j := 1) RO rfl
  have o2 := RowIs.cell (j := 2) RO rfl
  have of := fun j => RowIs.frozen RO j
  have ol := RO.lt
  go_upto_region 3 with fail
  have hsv : (((w2.setCell ⟨w.heap.size + 2, 0, none⟩ (.int .i64 rl)).setCell ⟨w.heap.size + 2, 1, none⟩ (.int .i64 rt)).setCell ⟨w.heap.size + 2, 2, none⟩ (.slice ae2 es.length pe2)).heap.size = w2.heap.size := by simp
  replace RA := (((RA.far ⟨w.heap.size + 2, 0, none⟩ (.int .i64 rl) (show w.heap.size + 2 ≠ w.heap.size by omega)).far ⟨w.heap.size + 2, 1, none⟩ (.int .i64 rt) (show w.heap.size + 2 ≠ w.heap.size by omega)).far ⟨w.heap.size + 2, 2, none⟩ (.slice ae2 es.length pe2) (show w.heap.size + 2 ≠ w.heap.size by omega))
  replace RZ := (((RZ.far ⟨w.heap.size + 2, 0, none⟩ (.int .i64 rl) (show w.heap.size + 2 ≠ (w.heap.size + 1) by omega)).far ⟨w.heap.size + 2, 1, none⟩ (.int .i64 rt) (show w.heap.size + 2 ≠ (w.heap.size + 1) by omega)).far ⟨w.heap.size + 2, 2, none⟩ (.slice ae2 es.length pe2) (show w.heap.size + 2 ≠ (w.heap.size + 1) by omega))
  replace RO := (((RO.set 0 (.int .i64 rl)).set 1 (.int .i64 rt)).set 2 (.slice ae2 es.length pe2))
  replace HE := hide ((((HE.out.far ⟨w.heap.size + 2, 0, none⟩ (.int .i64 rl) (.inl (show w.heap.size + 2 < (w.heap.size + 3) by omega))).far ⟨w.heap.size + 2, 1, none⟩ (.int .i64 rt) (.inl (show w.heap.size + 2 < (w.heap.size + 3) by omega))).far ⟨w.heap.size + 2, 2, none⟩ (.slice ae2 es.length pe2) (.inl (show w.heap.size + 2 < (w.heap.size + 3) by omega))))
  replace HB := hide (((HB.out.setCell (p := ⟨w.heap.size + 2, 0, none⟩) (show w.heap.size ≤ w.heap.size + 2 by omega) (.int .i64 rl)).setCell (p := ⟨w.heap.size + 2, 1, none⟩) (show w.heap.size ≤ w.heap.size + 2 by omega) (.int .i64 rt)).setCell (p := ⟨w.heap.size + 2, 2, none⟩) (show w.heap.size ≤ w.heap.size + 2 by omega) (.slice ae2 es.length pe2))
  clear o0 o1 o2 of ol
  generalize (((w2.setCell ⟨w.heap.size + 2, 0, none⟩ (.int .i64 rl)).setCell ⟨w.heap.size + 2, 1, none⟩ (.int .i64 rt)).setCell ⟨w.heap.size + 2, 2, none⟩ (.slice ae2 es.length pe2)) = W2 at *
  rw [← he9] at hsv hw2s
  have hsW2 : W2.heap.size = e9 := hsv
  clear hsv he9
  have a3 := RowIs.cell (j := 3) RA rfl
  have a4 := RowIs.cell (j := 4) RA rfl
  have af := fun j => RowIs.frozen RA j
  have al := RA.lt
  have o3 := RowIs.cell (j := 3) RO rfl
  have o4 := RowIs.cell (j := 4) RO rfl
  have of := fun j => RowIs.frozen RO j
  have ol := RO.lt
  go_wp2_with fail
  refine (copy1 it ir (.slice ai it.length pi) _ (rd_fv (HV2.out.new HB.out)) hl2).mono ?_; rintro e w3 ⟨vI, rfl, ho, hb⟩
  obtain ⟨ai2, pi2, rfl, qI1, qI2⟩ := owns_form ho
  clear a3 a4 af al
  clear o3 o4 of ol
  rw [hsW2] at ho
  have hw3s := hb.size
  rw [hsW2] at hw3s
  obtain ⟨i9, hi9⟩ : ∃ n, n = w3.heap.size := ⟨_, rfl⟩
  have hOI := (fun z => fv_ow z (rd_fine HV2.out)) ho
  rw [← hi9] at hOI
  replace RA := RA.new hb
  replace RZ := RZ.new hb
  replace RO := RO.new hb
  replace HE := hide (HE.out.new hb)
  replace HB := hide (bchain HB.out hb)
  have HI := hide hOI
  clear hb ho hOI
  have o3 := RowIs.cell (j := 3) RO rfl
  have o4 := RowIs.cell (j := 4) RO rfl
  have of := fun j => RowIs.frozen RO j
  have ol := RO.lt
  go_upto_region 4 with fail
  have hsv : ((w3.setCell ⟨w.heap.size + 2, 3, none⟩ (.int .i64 ir)).setCell ⟨w.heap.size + 2, 4, none⟩ (.slice ai2 it.length pi2)).heap.size = w3.heap.size := by simp
  replace RA := ((RA.far ⟨w.heap.size + 2, 3, none⟩ (.int .i64 ir) (show w.heap.size + 2 ≠ w.heap.size by omega)).far ⟨w.heap.size + 2, 4, none⟩ (.slice ai2 it.length pi2) (show w.heap.size + 2 ≠ w.heap.size by omega))
  replace RZ := ((RZ.far ⟨w.heap.size + 2, 3, none⟩ (.int .i64 ir) (show w.heap.size + 2 ≠ (w.heap.size + 1) by omega)).far ⟨w.heap.size + 2, 4, none⟩ (.slice ai2 it.length pi2) (show w.heap.size + 2 ≠ (w.heap.size + 1) by omega))
  replace RO := ((RO.set 3 (.int .i64 ir)).set 4 (.slice ai2 it.length pi2))
  replace HE := hide (((HE.out.far ⟨w.heap.size + 2, 3, none⟩ (.int .i64 ir) (.inl (show w.heap.size + 2 < (w.heap.size + 3) by omega))).far ⟨w.heap.size + 2, 4, none⟩ (.slice ai2 it.length pi2) (.inl (show w.heap.size + 2 < (w.heap.size + 3) by omega))))
  replace HI := hide (((HI.out.far ⟨w.heap.size + 2, 3, none⟩ (.int .i64 ir) (.inl (show w.heap.size + 2 < e9 by omega))).far ⟨w.heap.size + 2, 4, none⟩ (.slice ai2 it.length pi2) (.inl (show w.heap.size + 2 < e9 by omega))))
  replace HB := hide ((HB.out.setCell (p := ⟨w.heap.size + 2, 3, none⟩) (show w.heap.size ≤ w.heap.size + 2 by omega) (.int .i64 ir)).setCell (p := ⟨w.heap.size + 2, 4, none⟩) (show w.heap.size ≤ w.heap.size + 2 by omega) (.slice ai2 it.length pi2))
  clear o3 o4 of ol
  generalize ((w3.setCell ⟨w.heap.size + 2, 3, none⟩ (.int .i64 ir)).setCell ⟨w.heap.size + 2, 4, none⟩ (.slice ai2 it.length pi2)) = W3 at *
  rw [← hi9] at hsv hw3s
  have hsW3 : W3.heap.size = i9 := hsv
  clear hsv hi9
  have a5 := RowIs.cell (j := 5) RA rfl
  have a6 := RowIs.cell (j := 6) RA rfl
  have af := fun j => RowIs.frozen RA j
  have al := RA.lt
  have o5 := RowIs.cell (j := 5) RO rfl
  have o6 := RowIs.cell (j := 6) RO rfl
  have of := fun j => RowIs.frozen RO j
  have ol := RO.lt
  go_wp2_with fail
  refine (copy1 ot orr (.slice ao ot.length po) _ (rd_fv (HV3.out.new HB.out)) hl3).mono ?_; rintro e w4 ⟨vU, rfl, ho, hb⟩
  obtain ⟨ao2, po2, rfl, qU1, qU2⟩ := owns_form ho
  clear a5 a6 af al
  clear o5 o6 of ol
  rw [hsW3] at ho
  have hw4s := hb.size
  rw [hsW3] at hw4s
  obtain ⟨u9, hu9⟩ : ∃ n, n = w4.heap.size := ⟨_, rfl⟩
  have hOU := (fun z => fv_ow z (rd_fine HV3.out)) ho
  rw [← hu9] at hOU
  replace RA := RA.new hb
  replace RZ := RZ.new hb
  replace RO := RO.new hb
  replace HE := hide (HE.out.new hb)
  replace HI := hide (HI.out.new hb)
  replace HB := hide (bchain HB.out hb)
  have HU := hide hOU
  clear hb ho hOU
  have o5 := RowIs.cell (j := 5) RO rfl
  have o6 := RowIs.cell (j := 6) RO rfl
  have of := fun j => RowIs.frozen RO j
  have ol := RO.lt
  go_upto_region 5 with fail
  have hsv : ((w4.setCell ⟨w.heap.size + 2, 5, none⟩ (.int .i64 orr)).setCell ⟨w.heap.size + 2, 6, none⟩ (.slice ao2 ot.length po2)).heap.size = w4.heap.size := by simp
  replace RA := ((RA.far ⟨w.heap.size + 2, 5, none⟩ (.int .i64 orr) (show w.heap.size + 2 ≠ w.heap.size by omega)).far ⟨w.heap.size + 2, 6, none⟩ (.slice ao2 ot.length po2) (show w.heap.size + 2 ≠ w.heap.size by omega))
  replace RZ := ((RZ.far ⟨w.heap.size + 2, 5, none⟩ (.int .i64 orr) (show w.heap.size + 2 ≠ (w.heap.size + 1) by omega)).far ⟨w.heap.size + 2, 6, none⟩ (.slice ao2 ot.length po2) (show w.heap.size + 2 ≠ (w.heap.size + 1) by omega))
  replace RO := ((RO.set 5 (.int .i64 orr)).set 6 (.slice ao2 ot.length po2))
  replace HE := hide (((HE.out.far ⟨w.heap.size + 2, 5, none⟩ (.int .i64 orr) (.inl (show w.heap.size + 2 < (w.heap.size + 3) by omega))).far ⟨w.heap.size + 2, 6, none⟩ (.slice ao2 ot.length po2) (.inl (show w.heap.size + 2 < (w.heap.size + 3) by omega))))
  replace HI := hide (((HI.out.far ⟨w.heap.size + 2, 5, none⟩ (.int .i64 orr) (.inl (show w.heap.size + 2 < e9 by omega))).far ⟨w.heap.size + 2, 6, none⟩ (.slice ao2 ot.length po2) (.inl (show w.heap.size + 2 < e9 by omega))))
  replace HU := hide (((HU.out.far ⟨w.heap.size + 2, 5, none⟩ (.int .i64 orr) (.inl (show w.heap.size + 2 < i9 by omega))).far ⟨w.heap.size + 2, 6, none⟩ (.slice ao2 ot.length po2) (.inl (show w.heap.size + 2 < i9 by omega))))
  replace HB := hide ((HB.out.setCell (p := ⟨w.heap.size + 2, 5, none⟩) (show w.heap.size ≤ w.heap.size + 2 by omega) (.int .i64 orr)).setCell (p := ⟨w.heap.size + 2, 6, none⟩) (show w.heap.size ≤ w.heap.size + 2 by omega) (.slice ao2 ot.length po2))
  clear o5 o6 of ol
  generalize ((w4.setCell ⟨w.heap.size + 2, 5, none⟩ (.int .i64 orr)).setCell ⟨w.heap.size + 2, 6, none⟩ (.slice ao2 ot.length po2)) = W4 at *
  rw [← hu9] at hsv hw4s
  have hsW4 : W4.heap.size = u9 := hsv
  clear hsv hu9
  have hb : Below W4.heap.size W4 (W4.alloc (.cells #[] 57)) := (Below.refl _ _).alloc (Nat.le_refl _) _
  have HF0 : Hid (OwX flowS (W4.alloc (.cells #[] 57)) u9 (W4.alloc (.cells #[] 57)).heap.size (.slice (some ⟨u9, 0, none⟩) 0 0) []) := by have h0 := owX_empty (E := flowS) W4 (W4.alloc (.cells #[] 57)).heap.size (by simp); rw [hsW4] at h0; exact h0
  have hsa : (W4.alloc (.cells #[] 57)).heap.size = u9 + 1 := by simp; omega
  replace RA := RA.new hb
  replace RZ := RZ.new hb
  replace RO := RO.new hb
  replace HE := hide (HE.out.new hb)
  replace HI := hide (HI.out.new hb)
  replace HU := hide (HU.out.new hb)
  replace HB := hide (bchain HB.out hb)
  have o10 := RowIs.cell (j := 10) RO rfl
  have of := fun j => RowIs.frozen RO j
  have ol := RO.lt
  go_upto_region 6 with fail
  have hsv : ((W4.alloc (.cells #[] 57)).setCell ⟨w.heap.size + 2, 10, none⟩ (.slice (some ⟨u9, 0, none⟩) 0 0)).heap.size = (W4.alloc (.cells #[] 57)).heap.size := by simp
  replace RA := (RA.far ⟨w.heap.size + 2, 10, none⟩ (.slice (some ⟨u9, 0, none⟩) 0 0) (show w.heap.size + 2 ≠ w.heap.size by omega))
  replace RZ := (RZ.far ⟨w.heap.size + 2, 10, none⟩ (.slice (some ⟨u9, 0, none⟩) 0 0) (show w.heap.size + 2 ≠ (w.heap.size + 1) by omega))
  replace RO := (RO.set 10 (.slice (some ⟨u9, 0, none⟩) 0 0))
  replace HE := hide ((HE.out.far ⟨w.heap.size + 2, 10, none⟩ (.slice (some ⟨u9, 0, none⟩) 0 0) (.inl (show w.heap.size + 2 < (w.heap.size + 3) by omega))))
  replace HI := hide ((HI.out.far ⟨w.heap.size + 2, 10, none⟩ (.slice (some ⟨u9, 0, none⟩) 0 0) (.inl (show w.heap.size + 2 < e9 by omega))))
  replace HU := hide ((HU.out.far ⟨w.heap.size + 2, 10, none⟩ (.slice (some ⟨u9, 0, none⟩) 0 0) (.inl (show w.heap.size + 2 < i9 by omega))))
  replace HF0 := hide ((HF0.out.far ⟨w.heap.size + 2, 10, none⟩ (.slice (some ⟨u9, 0, none⟩) 0 0) (.inl (show w.heap.size + 2 < u9 by omega))))
  replace HB := hide (HB.out.setCell (p := ⟨w.heap.size + 2, 10, none⟩) (show w.heap.size ≤ w.heap.size + 2 by omega) (.slice (some ⟨u9, 0, none⟩) 0 0))
  clear o10 of ol
  generalize ((W4.alloc (.cells #[] 57)).setCell ⟨w.heap.size + 2, 10, none⟩ (.slice (some ⟨u9, 0, none⟩) 0 0)) = W5 at *
  rw [hsa] at hsv HF0
  clear hb hsa
  have HF1 := hide (HF0.out.wide (lo' := u9) (hi' := W5.heap.size) (Nat.le_refl _) (by omega))
  have HRA := hide RA; have HRZ := hide RZ; have HRO := hide RO
  have hx5 : u9 ≤ W5.heap.size := by omega
  have he0f : w.heap.size + 3 ≤ e9 ∧ e9 ≤ i9 ∧ i9 ≤ u9 := ⟨hw2s, hw3s, hw4s⟩
  clear RA RZ RO HF0 hsv hsW4 hw4s hsW3 hw3s hsW2 hw2s hsW1 hsO
  have a10 := RowIs.cell (j := 10) HRA.out rfl
  go_wp2_with fail
  clear a10
  go_loopw [4] (fun i wr => ∃ (k : Nat) (ab : Option Addr) (pb : Nat), i = .int .i64 (k : Int) ∧ k ≤ fl.length ∧ Hid (RowIs wr w.heap.size 32 [.int .i64 rl, .int .i64 rt, .slice ae es.length pe, .int .i64 ir, .slice ai it.length pi, .int .i64 orr, .slice ao ot.length po, .int .i64 gt, .int .i64 gv, .int .i64 fs, .slice af fl.length pf, .bool aw, .bool de]) ∧ Hid (RowIs wr (w.heap.size + 1) 32 [.int .i64 0, .int .i64 0, .slice none 0 0, .int .i64 0, .slice none 0 0, .int .i64 0, .slice none 0 0, .int .i64 0, .int .i64 0, .int .i64 0, .slice none 0 0, .bool false, .bool false]) ∧ Hid (RowIs wr (w.heap.size + 2) 32 [.int .i64 rl, .int .i64 rt, .slice ae2 es.length pe2, .int .i64 ir, .slice ai2 it.length pi2, .int .i64 orr, .slice ao2 ot.length po2, .int .i64 gt, .int .i64 gv, .int .i64 fs, .slice ab k pb, .bool aw, .bool de]) ∧ Hid (OwX entryS wr (w.heap.size + 3) e9 (.slice ae2 es.length pe2) es) ∧ Hid (OwX fieldS wr e9 i9 (.slice ai2 it.length pi2) it) ∧ Hid (OwX fieldS wr i9 u9 (.slice ao2 ot.length po2) ot) ∧ Hid (OwX flowS wr u9 wr.heap.size (.slice ab k pb) (fl.take k)) ∧ Hid (Below w.heap.size w wr) ∧ u9 ≤ wr.heap.size) (fun i _ => fl.length - (intOf i).toNat)
  case atStart => exact ⟨0, _, _, rfl, Nat.zero_le _, HRA, HRZ, HRO, HE, HI, HU, HF1, HB, hx5⟩
  case round =>
    clear HRA HRZ HRO HE HI HU HF1 HB hx5
    obtain ⟨k, ab, pb, rfl, hk, HRA, HRZ, HRO, HE, HI, HU, HF, HB, hsr⟩ := hrel
    have a10 := RowIs.cell (j := 10) HRA.out rfl
    have al := HRA.out.lt
    by_cases hlt : k < fl.length
    rotate_left
    · have hltI : ¬ (k : Int) < fl.length := by omega
      obtain rfl : k = fl.length := by omega
      rw [List.take_length] at HF
      have HR2 := hide (rowIs_setRow (cs' := [.int .i64 rl, .int .i64 rt, .slice ae2 es.length pe2, .int .i64 ir, .slice ai2 it.length pi2, .int .i64 orr, .slice ao2 ot.length po2, .int .i64 gt, .int .i64 gv, .int .i64 fs, .slice ab fl.length pb, .bool aw, .bool de]) HRZ.out)
      have HB2 := hide (below_setRow HB.out (show w.heap.size ≤ w.heap.size + 1 by omega) #[.int .i64 rl, .int .i64 rt, .slice ae2 es.length pe2, .int .i64 ir, .slice ai2 it.length pi2, .int .i64 orr, .slice ao2 ot.length po2, .int .i64 gt, .int .i64 gv, .int .i64 fs, .slice ab fl.length pb, .bool aw, .bool de])
      have hsx : (wr.setRow (w.heap.size + 1) #[.int .i64 rl, .int .i64 rt, .slice ae2 es.length pe2, .int .i64 ir, .slice ai2 it.length pi2, .int .i64 orr, .slice ao2 ot.length po2, .int .i64 gt, .int .i64 gv, .int .i64 fs, .slice ab fl.length pb, .bool aw, .bool de]).heap.size = wr.heap.size := setRow_size _ _ _
      have hkx : ∀ q, w.heap.size + 3 ≤ q → (wr.setRow (w.heap.size + 1) #[.int .i64 rl, .int .i64 rt, .slice ae2 es.length pe2, .int .i64 ir, .slice ai2 it.length pi2, .int .i64 orr, .slice ao2 ot.length po2, .int .i64 gt, .int .i64 gv, .int .i64 fs, .slice ab fl.length pb, .bool aw, .bool de]).heap[q]? = wr.heap[q]? := fun q hq => setRow_other _ _ _ _ (by omega)
      go_wp2_with (first | (refine wpList_load_row (by rfl) 32 _ (by rfl) (w.heap.size + 2) (by rfl) [.int .i64 rl, .int .i64 rt, .slice ae2 es.length pe2, .int .i64 ir, .slice ai2 it.length pi2, .int .i64 orr, .slice ao2 ot.length po2, .int .i64 gt, .int .i64 gv, .int .i64 fs, .slice ab fl.length pb, .bool aw, .bool de] _ 32 HRO.out Tryz.underlying32 rfl (by kernel_rfl) ?_) | (refine wpList_store_row (by rfl) 32 _ _ (by rfl) (w.heap.size + 1) [.int .i64 rl, .int .i64 rt, .slice ae2 es.length pe2, .int .i64 ir, .slice ai2 it.length pi2, .int .i64 orr, .slice ao2 ot.length po2, .int .i64 gt, .int .i64 gv, .int .i64 fs, .slice ab fl.length pb, .bool aw, .bool de] (by rfl) (by rfl) 32 [.int .i64 0, .int .i64 0, .slice none 0 0, .int .i64 0, .slice none 0 0, .int .i64 0, .slice none 0 0, .int .i64 0, .int .i64 0, .int .i64 0, .slice none 0 0, .bool false, .bool false] HRZ.out (by kernel_rfl) rfl (by intro u hu; simp at hu; rcases hu with rfl | rfl | rfl | rfl | rfl | rfl | rfl | rfl | rfl | rfl | rfl | rfl | rfl <;> rfl) ?_))
      generalize wr.setRow (w.heap.size + 1) #[.int .i64 rl, .int .i64 rt, .slice ae2 es.length pe2, .int .i64 ir, .slice ai2 it.length pi2, .int .i64 orr, .slice ao2 ot.length po2, .int .i64 gt, .int .i64 gv, .int .i64 fs, .slice ab fl.length pb, .bool aw, .bool de] = V at *
      have HE2 := HE.out.keep1 hsx (fun q hq => hkx q (by omega))
      have HI2 := HI.out.keep1 hsx (fun q hq => hkx q (by omega))
      have HU2 := HU.out.keep1 hsx (fun q hq => hkx q (by omega))
      have HF2 := HF.out.keep1 hsx (fun q hq => hkx q (by omega))
      obtain ⟨bs, hcn, hlo⟩ := cnow_of (d := ⟨⟨rl, rt, es⟩, ir, it, orr, ot, gt, gv, fs, fl, aw, de⟩) HE2 HI2 HU2 HF2 (by omega) (by omega) (by omega) (by omega) (by omega) (by omega)
      have HCN := hide hcn
      clear hcn HE2 HI2 HU2 HF2
      have z0 := RowIs.cell (j := 0) HR2.out rfl
      have z1 := RowIs.cell (j := 1) HR2.out rfl
      have z2 := RowIs.cell (j := 2) HR2.out rfl
      have z3 := RowIs.cell (j := 3) HR2.out rfl
      have z4 := RowIs.cell (j := 4) HR2.out rfl
      have z5 := RowIs.cell (j := 5) HR2.out rfl
      have z6 := RowIs.cell (j := 6) HR2.out rfl
      have z7 := RowIs.cell (j := 7) HR2.out rfl
      have z8 := RowIs.cell (j := 8) HR2.out rfl
      have z9 := RowIs.cell (j := 9) HR2.out rfl
      have z10 := RowIs.cell (j := 10) HR2.out rfl
      have z11 := RowIs.cell (j := 11) HR2.out rfl
      have z12 := RowIs.cell (j := 12) HR2.out rfl
      have zf := fun j => RowIs.frozen HR2.out j
      refine bodyPost_ret (v := .agg #[.int .i64 rl, .int .i64 rt, .slice ae2 es.length pe2, .int .i64 ir, .slice ai2 it.length pi2, .int .i64 orr, .slice ao2 ot.length po2, .int .i64 gt, .int .i64 gv, .int .i64 fs, .slice ab fl.length pb, .bool aw, .bool de]) (by simp [results, Tryz.results47, go_sem, *]) rfl ?_
      exact ⟨_, rfl, ⟨_, _, _, _, bs, rfl, HCN.out, fun q hq => by have := hlo q hq; omega⟩, HB2.out⟩
    have hltI : (k : Int) < fl.length := by omega
    obtain ⟨b, o, cs, hae, hbw, hrd, hc⟩ := (HV4.out.new HB.out).at k hlt
    subst hae
    have HTK : Hid (fl.take (k + 1) = fl.take k ++ [fl[k]]) := List.take_succ_eq_append_getElem hlt
    have h20 := H20.out fl[k] (List.getElem_mem hlt)
    obtain ⟨x, hx⟩ : ∃ x, fl[k] = x := ⟨_, rfl⟩
    rw [hx] at hrd HTK h20
    clear hx
    obtain ⟨vq, rfl, s0, s1, hfd⟩ := hrd
    obtain ⟨aq, pq, rfl, g1, g2⟩ := hfd.form
    have c0 : wr.cell? ⟨b, o + k * 15, none⟩ = some (.int .i64 x.id) := hc 0 _ rfl
    have c1 : wr.cell? ⟨b, o + k * 15 + 1, none⟩ = some (.int .i64 x.get) := hc 1 _ rfl
    have c2 : wr.cell? ⟨b, o + k * 15 + 2, none⟩ = some (.int .i64 x.give) := hc 2 _ rfl
    have c3 : wr.cell? ⟨b, o + k * 15 + 3, none⟩ = some (.slice aq x.fds.length pq) := hc 3 _ rfl
    have c4 : wr.cell? ⟨b, o + k * 15 + 4, none⟩ = some (.int .i64 x.tun.up.r) := hc 4 _ rfl
    have c5 : wr.cell? ⟨b, o + k * 15 + 5, none⟩ = some (.string x.tun.up.b) := hc 5 _ rfl
    have c6 : wr.cell? ⟨b, o + k * 15 + 6, none⟩ = some (.bool x.tun.up.e) := hc 6 _ rfl
    have c7 : wr.cell? ⟨b, o + k * 15 + 7, none⟩ = some (.bool x.tun.up.k) := hc 7 _ rfl
    have c8 : wr.cell? ⟨b, o + k * 15 + 8, none⟩ = some (.int .i64 x.tun.dn.r) := hc 8 _ rfl
    have c9 : wr.cell? ⟨b, o + k * 15 + 9, none⟩ = some (.string x.tun.dn.b) := hc 9 _ rfl
    have c10 : wr.cell? ⟨b, o + k * 15 + 10, none⟩ = some (.bool x.tun.dn.e) := hc 10 _ rfl
    have c11 : wr.cell? ⟨b, o + k * 15 + 11, none⟩ = some (.bool x.tun.dn.k) := hc 11 _ rfl
    have c12 : wr.cell? ⟨b, o + k * 15 + 12, none⟩ = some (.int .i64 x.tun.went) := hc 12 _ rfl
    have c13 : wr.cell? ⟨b, o + k * 15 + 13, none⟩ = some (.int .i64 x.tun.came) := hc 13 _ rfl
    have c14 : wr.cell? ⟨b, o + k * 15 + 14, none⟩ = some (.bool x.ended) := hc 14 _ rfl
    have hX : Below wr.heap.size wr ((wr.alloc (.cells #[.int .i64 0, .int .i64 0, .int .i64 0, .slice none 0 0, .int .i64 0, .string ⟨#[]⟩, .bool false, .bool false, .int .i64 0, .string ⟨#[]⟩, .bool false, .bool false, .int .i64 0, .int .i64 0, .bool false] 57)).setRow wr.heap.size #[.int .i64 x.id, .int .i64 x.get, .int .i64 x.give, .slice aq x.fds.length pq, .int .i64 x.tun.up.r, .string x.tun.up.b, .bool x.tun.up.e, .bool x.tun.up.k, .int .i64 x.tun.dn.r, .string x.tun.dn.b, .bool x.tun.dn.e, .bool x.tun.dn.k, .int .i64 x.tun.went, .int .i64 x.tun.came, .bool x.ended]) := below_setRow ((Below.refl _ _).alloc (Nat.le_refl _) _) (Nat.le_refl _) #[.int .i64 x.id, .int .i64 x.get, .int .i64 x.give, .slice aq x.fds.length pq, .int .i64 x.tun.up.r, .string x.tun.up.b, .bool x.tun.up.e, .bool x.tun.up.k, .int .i64 x.tun.dn.r, .string x.tun.dn.b, .bool x.tun.dn.e, .bool x.tun.dn.k, .int .i64 x.tun.went, .int .i64 x.tun.came, .bool x.ended]
    have RX : RowIs ((wr.alloc (.cells #[.int .i64 0, .int .i64 0, .int .i64 0, .slice none 0 0, .int .i64 0, .string ⟨#[]⟩, .bool false, .bool false, .int .i64 0, .string ⟨#[]⟩, .bool false, .bool false, .int .i64 0, .int .i64 0, .bool false] 57)).setRow wr.heap.size #[.int .i64 x.id, .int .i64 x.get, .int .i64 x.give, .slice aq x.fds.length pq, .int .i64 x.tun.up.r, .string x.tun.up.b, .bool x.tun.up.e, .bool x.tun.up.k, .int .i64 x.tun.dn.r, .string x.tun.dn.b, .bool x.tun.dn.e, .bool x.tun.dn.k, .int .i64 x.tun.went, .int .i64 x.tun.came, .bool x.ended]) wr.heap.size 57 [.int .i64 x.id, .int .i64 x.get, .int .i64 x.give, .slice aq x.fds.length pq, .int .i64 x.tun.up.r, .string x.tun.up.b, .bool x.tun.up.e, .bool x.tun.up.k, .int .i64 x.tun.dn.r, .string x.tun.dn.b, .bool x.tun.dn.e, .bool x.tun.dn.k, .int .i64 x.tun.went, .int .i64 x.tun.came, .bool x.ended] := rowIs_setRow (rowIs_new wr 57 [.int .i64 0, .int .i64 0, .int .i64 0, .slice none 0 0, .int .i64 0, .string ⟨#[]⟩, .bool false, .bool false, .int .i64 0, .string ⟨#[]⟩, .bool false, .bool false, .int .i64 0, .int .i64 0, .bool false])
    have hsX : ((wr.alloc (.cells #[.int .i64 0, .int .i64 0, .int .i64 0, .slice none 0 0, .int .i64 0, .string ⟨#[]⟩, .bool false, .bool false, .int .i64 0, .string ⟨#[]⟩, .bool false, .bool false, .int .i64 0, .int .i64 0, .bool false] 57)).setRow wr.heap.size #[.int .i64 x.id, .int .i64 x.get, .int .i64 x.give, .slice aq x.fds.length pq, .int .i64 x.tun.up.r, .string x.tun.up.b, .bool x.tun.up.e, .bool x.tun.up.k, .int .i64 x.tun.dn.r, .string x.tun.dn.b, .bool x.tun.dn.e, .bool x.tun.dn.k, .int .i64 x.tun.went, .int .i64 x.tun.came, .bool x.ended]).heap.size = wr.heap.size + 1 := by rw [setRow_size]; simp
    have HLS := hide (hfd.new hX)
    clear hc hfd
    go_upto_region 10 with (refine wpList_store_row (by rfl) 57 _ _ (by rfl) wr.heap.size [.int .i64 x.id, .int .i64 x.get, .int .i64 x.give, .slice aq x.fds.length pq, .int .i64 x.tun.up.r, .string x.tun.up.b, .bool x.tun.up.e, .bool x.tun.up.k, .int .i64 x.tun.dn.r, .string x.tun.dn.b, .bool x.tun.dn.e, .bool x.tun.dn.k, .int .i64 x.tun.went, .int .i64 x.tun.came, .bool x.ended] (by rfl) (by rfl) 57 [.int .i64 0, .int .i64 0, .int .i64 0, .slice none 0 0, .int .i64 0, .string ⟨#[]⟩, .bool false, .bool false, .int .i64 0, .string ⟨#[]⟩, .bool false, .bool false, .int .i64 0, .int .i64 0, .bool false] (rowIs_new wr 57 [.int .i64 0, .int .i64 0, .int .i64 0, .slice none 0 0, .int .i64 0, .string ⟨#[]⟩, .bool false, .bool false, .int .i64 0, .string ⟨#[]⟩, .bool false, .bool false, .int .i64 0, .int .i64 0, .bool false]) (by kernel_rfl) rfl (by intro u hu; simp at hu; rcases hu with rfl | rfl | rfl | rfl | rfl | rfl | rfl | rfl | rfl | rfl | rfl | rfl | rfl | rfl | rfl <;> rfl) ?_)
    replace HRA := hide (HRA.out.new hX); replace HRZ := hide (HRZ.out.new hX); replace HRO := hide (HRO.out.new hX)
    replace HE := hide (HE.out.new hX); replace HI := hide (HI.out.new hX); replace HU := hide (HU.out.new hX); replace HF := hide (HF.out.new hX)
    replace HB := hide (bchain HB.out hX)
    clear a10 al hbw c0 c1 c2 c3 c4 c5 c6 c7 c8 c9 c10 c11 c12 c13 c14 hX
    generalize hge : wr.heap.size = ge at *
    clear hge
    generalize (wr.alloc (.cells #[.int .i64 0, .int .i64 0, .int .i64 0, .slice none 0 0, .int .i64 0, .string ⟨#[]⟩, .bool false, .bool false, .int .i64 0, .string ⟨#[]⟩, .bool false, .bool false, .int .i64 0, .int .i64 0, .bool false] 57)).setRow ge #[.int .i64 x.id, .int .i64 x.get, .int .i64 x.give, .slice aq x.fds.length pq, .int .i64 x.tun.up.r, .string x.tun.up.b, .bool x.tun.up.e, .bool x.tun.up.k, .int .i64 x.tun.dn.r, .string x.tun.dn.b, .bool x.tun.dn.e, .bool x.tun.dn.k, .int .i64 x.tun.went, .int .i64 x.tun.came, .bool x.ended] = X at *
    have hgX : ge + 1 ≤ X.heap.size := by omega
    clear hsX
    have x3 := RX.cell (j := 3) rfl
    have xf := RX.frozen 3
    have xl := RX.lt
    have hY : Below X.heap.size X (X.alloc (.cells #[] 163)) := (Below.refl _ _).alloc (Nat.le_refl _) _
    have hoY : (X.alloc (.cells #[] 163)).ownsRow X.heap.size 163 2 (.slice (some ⟨X.heap.size, 0, none⟩) 0 0) 0 [] := owns_lit X 163 2 0 #[] rfl (by omega)
    have hrY := rd_fv (HLS.out.new hY)
    have HFI := hide (rd_fine HLS.out)
    go_wp2_with (at_builtin; go_must (refine wpList_app _ (by rfl) _ _ 27 (by rfl) 163 (.agg #[.string ⟨#[]⟩, .string ⟨#[]⟩]) 2 32 Tryz.underlying27 (by kernel_rfl) rfl (by decide) X.heap.size _ 0 [] (by rfl) hoY _ x.fds.length (fv x.fds) (by rfl) hrY (fv_one _) (by omega) (by decide) hY.size ?_))
    intro ad7 cp7 w7 hown7 hg7 hat7
    try simp only [Nat.zero_add, List.nil_append] at hown7
    have hb7 : Below X.heap.size X w7 := hY.grown hg7 hY.size (fun k hk => (hoY.lt k hk).1)
    have R7 := RX.new hb7
    have c37 := R7.cell (j := 3) rfl
    have f37 := R7.frozen 3
    have l7 := R7.lt
    have hs7 := hb7.size
    have HRB := hide (R7.set 3 (.slice ad7 x.fds.length cp7))
    have HO7 : Hid (w7.ownsRow X.heap.size 163 2 (.slice ad7 x.fds.length cp7) x.fds.length (fv x.fds)) := hown7
    have HO8 := hide (owns_apart HO7.out ⟨ge, 3, none⟩ (.slice ad7 x.fds.length cp7) (fun e => by have := (HO7.out.lt _ e).1; simp at this; omega))
    replace HRA := hide ((HRA.out.new hb7).far ⟨ge, 3, none⟩ (.slice ad7 x.fds.length cp7) (show ge ≠ w.heap.size by omega))
    replace HRZ := hide ((HRZ.out.new hb7).far ⟨ge, 3, none⟩ (.slice ad7 x.fds.length cp7) (show ge ≠ w.heap.size + 1 by omega))
    replace HRO := hide ((HRO.out.new hb7).far ⟨ge, 3, none⟩ (.slice ad7 x.fds.length cp7) (show ge ≠ w.heap.size + 2 by omega))
    replace HE := hide ((HE.out.new hb7).far ⟨ge, 3, none⟩ (.slice ad7 x.fds.length cp7) (.inr (show e9 ≤ ge by omega)))
    replace HI := hide ((HI.out.new hb7).far ⟨ge, 3, none⟩ (.slice ad7 x.fds.length cp7) (.inr (show i9 ≤ ge by omega)))
    replace HU := hide ((HU.out.new hb7).far ⟨ge, 3, none⟩ (.slice ad7 x.fds.length cp7) (.inr (show u9 ≤ ge by omega)))
    replace HF := hide ((HF.out.new hb7).far ⟨ge, 3, none⟩ (.slice ad7 x.fds.length cp7) (.inr (Nat.le_refl _)))
    replace HB := hide ((bchain HB.out hb7).setCell (p := ⟨ge, 3, none⟩) (show w.heap.size ≤ ge by omega) (.slice ad7 x.fds.length cp7))
    have hs8 : ge + 1 ≤ (w7.setCell ⟨ge, 3, none⟩ (.slice ad7 x.fds.length cp7)).heap.size := by simp; omega
    clear hown7 hg7 hat7 hoY hrY hY HO7 HLS RX x3 xf xl R7
    try rw [Nat.zero_add]
    go_upto_region 11 with fail
    clear c37 f37 l7 hb7
    generalize w7.setCell ⟨ge, 3, none⟩ (.slice ad7 x.fds.length cp7) = V at *
    have o10 := RowIs.cell (j := 10) HRO.out rfl
    have ol := HRO.out.lt
    have hZ : Below V.heap.size V (V.alloc (.cells #[.int .i64 x.id, .int .i64 x.get, .int .i64 x.give, .slice ad7 x.fds.length cp7, .int .i64 x.tun.up.r, .string x.tun.up.b, .bool x.tun.up.e, .bool x.tun.up.k, .int .i64 x.tun.dn.r, .string x.tun.dn.b, .bool x.tun.dn.e, .bool x.tun.dn.k, .int .i64 x.tun.went, .int .i64 x.tun.came, .bool x.ended] 57)) := (Below.refl _ _).alloc (Nat.le_refl _) _
    have RZ := rowIs_new V 57 [.int .i64 x.id, .int .i64 x.get, .int .i64 x.give, .slice ad7 x.fds.length cp7, .int .i64 x.tun.up.r, .string x.tun.up.b, .bool x.tun.up.e, .bool x.tun.up.k, .int .i64 x.tun.dn.r, .string x.tun.dn.b, .bool x.tun.dn.e, .bool x.tun.dn.k, .int .i64 x.tun.went, .int .i64 x.tun.came, .bool x.ended]
    have hrdl : Reads (V.alloc (.cells #[.int .i64 x.id, .int .i64 x.get, .int .i64 x.give, .slice ad7 x.fds.length cp7, .int .i64 x.tun.up.r, .string x.tun.up.b, .bool x.tun.up.e, .bool x.tun.up.k, .int .i64 x.tun.dn.r, .string x.tun.dn.b, .bool x.tun.dn.e, .bool x.tun.dn.k, .int .i64 x.tun.went, .int .i64 x.tun.came, .bool x.ended] 57)) (.slice (some ⟨V.heap.size, 0, none⟩) 1 1) 1 15 [.int .i64 x.id, .int .i64 x.get, .int .i64 x.give, .slice ad7 x.fds.length cp7, .int .i64 x.tun.up.r, .string x.tun.up.b, .bool x.tun.up.e, .bool x.tun.up.k, .int .i64 x.tun.dn.r, .string x.tun.dn.b, .bool x.tun.dn.e, .bool x.tun.dn.k, .int .i64 x.tun.went, .int .i64 x.tun.came, .bool x.ended] := ⟨by simp, _, _, rfl, Nat.le_refl _, by unfold maxLen; omega, fun _ => ⟨V.heap.size, 0, rfl, RZ.lt, fun r y hy => by simpa using RZ.cell hy⟩⟩
    have hone : ∀ y ∈ ([.int .i64 x.id, .int .i64 x.get, .int .i64 x.give, .slice ad7 x.fds.length cp7, .int .i64 x.tun.up.r, .string x.tun.up.b, .bool x.tun.up.e, .bool x.tun.up.k, .int .i64 x.tun.dn.r, .string x.tun.dn.b, .bool x.tun.dn.e, .bool x.tun.dn.k, .int .i64 x.tun.went, .int .i64 x.tun.came, .bool x.ended] : List Value), y.oneCell' = true := by intro y hu; simp at hu; rcases hu with rfl | rfl | rfl | rfl | rfl | rfl | rfl | rfl | rfl | rfl | rfl | rfl | rfl | rfl | rfl <;> rfl
    have hlk : (fl.take k).length = k := by rw [List.length_take]; omega
    have hsZ := hZ.size
    obtain ⟨xs, hoz, hgrow⟩ := (HF.out.new hZ).grow (by omega) (by omega)
    rw [hlk] at hoz hgrow
    have hoe : OwE flowS (V.alloc (.cells #[.int .i64 x.id, .int .i64 x.get, .int .i64 x.give, .slice ad7 x.fds.length cp7, .int .i64 x.tun.up.r, .string x.tun.up.b, .bool x.tun.up.e, .bool x.tun.up.k, .int .i64 x.tun.dn.r, .string x.tun.dn.b, .bool x.tun.dn.e, .bool x.tun.dn.k, .int .i64 x.tun.went, .int .i64 x.tun.came, .bool x.ended] 57)) ge (V.alloc (.cells #[.int .i64 x.id, .int .i64 x.get, .int .i64 x.give, .slice ad7 x.fds.length cp7, .int .i64 x.tun.up.r, .string x.tun.up.b, .bool x.tun.up.e, .bool x.tun.up.k, .int .i64 x.tun.dn.r, .string x.tun.dn.b, .bool x.tun.dn.e, .bool x.tun.dn.k, .int .i64 x.tun.went, .int .i64 x.tun.came, .bool x.ended] 57)).heap.size [.int .i64 x.id, .int .i64 x.get, .int .i64 x.give, .slice ad7 x.fds.length cp7, .int .i64 x.tun.up.r, .string x.tun.up.b, .bool x.tun.up.e, .bool x.tun.up.k, .int .i64 x.tun.dn.r, .string x.tun.dn.b, .bool x.tun.dn.e, .bool x.tun.dn.k, .int .i64 x.tun.went, .int .i64 x.tun.came, .bool x.ended] x := by
      have h9 := fv_owr (owns_base (owns_new HO8.out hZ) (fun _ _ => Nat.zero_le _)) HFI.out
      refine ⟨_, ⟨_, _, rfl, s0, s1, h9, rfl⟩, opt_nodup _, fun y hy => ⟨?_, h9.lt y hy⟩⟩
      cases hq : (Value.slice ad7 x.fds.length cp7).ownBlock with
      | none => rw [hq] at hy; cases hy
      | some z => rw [hq] at hy; simp at hy; subst hy; have := (HO8.out.lt y hq).1; omega
    have HGR := hide (fun w1 v' h1 h2 h3 => hgrow w1 v' _ x hoe h1 h2 h3)
    have HBO : Hid (∀ q, (Value.slice ab k pb).ownBlock = some q → u9 ≤ q) := fun q hq => (HF.out.own q hq).1
    replace HRA := hide (HRA.out.new hZ); replace HRZ := hide (HRZ.out.new hZ); replace HRO := hide (HRO.out.new hZ)
    replace HE := hide (HE.out.new hZ); replace HI := hide (HI.out.new hZ); replace HU := hide (HU.out.new hZ)
    have HBZ := hide (bchain HB.out hZ)
    clear hgrow hoe RZ HF HO8 HB hZ
    go_wp2_with (first | (refine wpList_load_row (by rfl) 57 _ (by rfl) ge (by rfl) [.int .i64 x.id, .int .i64 x.get, .int .i64 x.give, .slice ad7 x.fds.length cp7, .int .i64 x.tun.up.r, .string x.tun.up.b, .bool x.tun.up.e, .bool x.tun.up.k, .int .i64 x.tun.dn.r, .string x.tun.dn.b, .bool x.tun.dn.e, .bool x.tun.dn.k, .int .i64 x.tun.went, .int .i64 x.tun.came, .bool x.ended] _ 57 HRB.out Tryz.underlying57 rfl (by kernel_rfl) ?_) | (at_builtin; go_must (refine wpList_app _ (by rfl) _ _ 30 (by rfl) 57 (.agg #[.int .i64 0, .int .i64 0, .int .i64 0, .slice none 0 0, .int .i64 0, .string ⟨#[]⟩, .bool false, .bool false, .int .i64 0, .string ⟨#[]⟩, .bool false, .bool false, .int .i64 0, .int .i64 0, .bool false]) 15 136 Tryz.underlying30 (by kernel_rfl) rfl (by decide) 0 _ k xs (by rfl) hoz _ 1 _ (by rfl) hrdl hone (by omega) (by decide) (Nat.zero_le _) ?_)))
    intro ad9 cp9 w9 hown9 hg9 hat9
    obtain ⟨U, hU⟩ : ∃ U, V.alloc (.cells #[.int .i64 x.id, .int .i64 x.get, .int .i64 x.give, .slice ad7 x.fds.length cp7, .int .i64 x.tun.up.r, .string x.tun.up.b, .bool x.tun.up.e, .bool x.tun.up.k, .int .i64 x.tun.dn.r, .string x.tun.dn.b, .bool x.tun.dn.e, .bool x.tun.dn.k, .int .i64 x.tun.went, .int .i64 x.tun.came, .bool x.ended] 57) = U := ⟨_, rfl⟩
    have HO9 := hide (HGR.out w9 _ hown9 hg9 (hat9.imp id (fun h => by rw [h]; simp)))
    rw [hU] at HRA HRZ HRO HE HI HU HBZ hg9 hsZ
    have HTR : Turn u9 U.heap.size U w9 := ⟨hg9.os, hg9.tape, hg9.output, hg9.size, fun q hq hn => hg9.block q hq (fun e => by have := HBO.out q e.symm; omega)⟩
    have hsU : u9 ≤ U.heap.size := by omega
    have HB9 := hide (HBZ.out.grown hg9 (by omega) (fun q hq => by have := HBO.out q hq; omega))
    rw [← HTK.out] at HO9
    replace HRA := hide (HRA.out.kept (HTR.block _ HRA.out.lt (by omega)))
    replace HRZ := hide (HRZ.out.kept (HTR.block _ HRZ.out.lt (by omega)))
    replace HRO := hide (HRO.out.kept (HTR.block _ HRO.out.lt (by omega)))
    replace HE := hide (HE.out.turn HTR (.inl (by omega)))
    replace HI := hide (HI.out.turn HTR (.inl (by omega)))
    replace HU := hide (HU.out.turn HTR (.inl (by omega)))
    have hs9 : u9 ≤ w9.heap.size := Nat.le_trans hsU HTR.size
    clear hown9 hg9 hat9 HGR HBZ HBO hoz hrdl hone HRB HTR o10 ol hU
    have o10 := RowIs.cell (j := 10) HRO.out rfl
    have of := fun j => RowIs.frozen HRO.out j
    have ol := HRO.out.lt
    have hsw : (w9.setCell ⟨w.heap.size + 2, 10, none⟩ (.slice ad9 (k + 1) cp9)).heap.size = w9.heap.size := by simp
    replace HRA := hide (HRA.out.far ⟨w.heap.size + 2, 10, none⟩ (.slice ad9 (k + 1) cp9) (show w.heap.size + 2 ≠ w.heap.size by omega))
    replace HRZ := hide (HRZ.out.far ⟨w.heap.size + 2, 10, none⟩ (.slice ad9 (k + 1) cp9) (show w.heap.size + 2 ≠ w.heap.size + 1 by omega))
    have HRO2 := hide (HRO.out.set 10 (.slice ad9 (k + 1) cp9))
    replace HE := hide (HE.out.far ⟨w.heap.size + 2, 10, none⟩ (.slice ad9 (k + 1) cp9) (.inl (show w.heap.size + 2 < w.heap.size + 3 by omega)))
    replace HI := hide (HI.out.far ⟨w.heap.size + 2, 10, none⟩ (.slice ad9 (k + 1) cp9) (.inl (show w.heap.size + 2 < e9 by omega)))
    replace HU := hide (HU.out.far ⟨w.heap.size + 2, 10, none⟩ (.slice ad9 (k + 1) cp9) (.inl (show w.heap.size + 2 < i9 by omega)))
    replace HO9 := hide (HO9.out.far ⟨w.heap.size + 2, 10, none⟩ (.slice ad9 (k + 1) cp9) (.inl (show w.heap.size + 2 < u9 by omega)))
    replace HB9 := hide (HB9.out.setCell (p := ⟨w.heap.size + 2, 10, none⟩) (show w.heap.size ≤ w.heap.size + 2 by omega) (.slice ad9 (k + 1) cp9))
    rw [← hsw] at HO9 hs9
    clear HRO hsw
    go_wp2_with fail
    go_roundw
    case rel => exact ⟨k + 1, ad9, cp9, by go_num, by omega, HRA, HRZ, HRO2, HE, HI, HU, HO9, HB9, hs9⟩
    case measure => simp [intOf]; omega
end Go.Proofs.YtfmeinkhdgbgjaaGreat
