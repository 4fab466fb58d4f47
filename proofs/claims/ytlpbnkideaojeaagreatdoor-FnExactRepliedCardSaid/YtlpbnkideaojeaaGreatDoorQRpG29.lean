/- Lemmas. -/
import Derived.Test.YtlpbnkideaojeaaGreatDoorQRpG28
namespace Go.Proofs.YtlpbnkideaojeaaGreatDoor
open Go.RowKit
open List renaming getElem_toArray → aI, getElem_cons_succ → aJ, getElem_cons_zero → aK, setIfInBounds_toArray → aL, set_cons_zero → aM, set_cons_succ → aN
set_option maxRecDepth 100000
set_option linter.unusedSimpArgs false
set_option linter.unusedVariables false
def iA (w : World) (g : Nat) (bs : List Nat) (r : aH × List Fr) (x : Ending) (w' : World) : Prop :=
 ∃ v bs', x = .returned v ∧ cZ w' g r.1 bs' ∧ w'.ownsRow w.heap.size 72 4 v r.2.length (fr r.2) ∧ aG (g :: bs) w w' ∧ gu w bs bs' ∧ ∀ q, v.ownBlock = some q → q ∉ g :: bs'
theorem aG.then {g : Nat} {w w1 w2 : World} {bs xG : List Nat} (ht : aG (g :: bs) w w1) (hn : gu w bs xG) (ht2 : aG (g :: xG) w1 w2) : aG (g :: bs) w w2 := ht.Zr ht2 (fun x hx => by
 rcases List.mem_cons.1 hx with rfl | hx
 ·exact .inl (by simp)
 ·rcases hn x hx with e | e
  ·exact .inl (by simp [e])
  ·exact .inr e)
theorem iA.after {w w1 w' : World} {g : Nat} {bs xG : List Nat} {r : aH × List Fr} {x : Ending} (ht : aG (g :: bs) w w1) (hn : gu w bs xG) (h : iA w1 g xG r x w') : iA w g bs r x w' := by
 obtain ⟨v, bs', rfl, hc, ho, ht2, hn2, ha⟩ := h
 exact ⟨v, bs', rfl, hc, eG ho (fun q hq => Nat.le_trans ht.size (ho.lt q hq).1), ht.then hn ht2, hn.trans hn2 ht.size, ha⟩
theorem iA.nothing {w : World} {g n : Nat} {d : aH} {bs : List Nat} (h : cZ w g d bs) (hn : n = w.heap.size := by simp) : iA w g bs (d, []) (.returned (.slice (some ⟨n, 0, none⟩) 0 0)) (w.alloc (.cells #[] 72)) := by
 subst hn
 have hbx : Below w.heap.size w (w.alloc (.cells #[] 72)) := (Below.refl _ _).alloc (Nat.le_refl _) _
 exact ⟨_, bs, rfl, h.new hbx, kW w 72 4 0 #[] rfl (by omega), aG.new hbx, gu.refl _ _, fun q hq hx => by simp [Value.ownBlock] at hq; have := h.tu q hx; omega⟩
theorem iA.one {w : World} {g n : Nat} {d : aH} {bs : List Nat} (f : Fr) (h : cZ w g d bs) (hn : n = w.heap.size := by simp) : iA w g bs (d, [f]) (.returned (.slice (some ⟨n, 0, none⟩) 1 1)) (w.alloc (.cells #[.int .i64 f.k, .int .i64 f.fl, .int .i64 f.st, .string f.b] 72)) := by
 subst hn
 have hbx : Below w.heap.size w (w.alloc (.cells #[.int .i64 f.k, .int .i64 f.fl, .int .i64 f.st, .string f.b] 72)) := (Below.refl _ _).alloc (Nat.le_refl _) _
 exact ⟨_, bs, rfl, h.new hbx, Zi w f, aG.new hbx, gu.refl _ _, fun q hq hx => by simp [Value.ownBlock] at hq; have := h.tu q hx; omega⟩
def FD (lo : Nat) (d : aH) (v : Value) (w : World) : Prop := ∃ ve vi vo vf bs, v = bH d ve vi vo vf ∧ dY w bs d ve vi vo vf ∧ ∀ b ∈ bs, lo ≤ b
theorem KO {w : World} {d : aH} {ve vi vo vf : Value} {a b a2 b2 a3 b3 a4 b4 : Nat} (h1 : aD bE w a b ve d.reg.es) (h2 : aD bT w a2 b2 vi d.inT) (h3 : aD bT w a3 b3 vo d.outT) (h4 : aD bF w a4 b4 vf d.flows) (i1 : b ≤ a2) (i2 : b2 ≤ a3) (i3 : b3 ≤ a4) (j1 : a ≤ b) (j2 : a2 ≤ b2) (j3 : a3 ≤ b3) :
  ∃ bs, dY w bs d ve vi vo vf ∧ ∀ x ∈ bs, a ≤ x := by
 obtain ⟨be, e1, e2, e3⟩ := h1
 obtain ⟨bi, f1, f2, f3⟩ := h2
 obtain ⟨bo, g1, g2, g3⟩ := h3
 obtain ⟨bf, k1, k2, k3⟩ := h4
 refine ⟨be ++ bi ++ bo ++ bf, ⟨⟨be, bi, bo, bf, e1, f1, g1, k1, rfl⟩, ?_⟩, fun x hx => ?_⟩
 ·refine jv (jv (jv e2 f2 fun x hx hx2 => ?_) g2 fun x hx hx2 => ?_) k2 fun x hx hx2 => ?_
  ·have := e3 x hx; have := f3 x hx2; omega
  ·have := g3 x hx2
   rcases List.mem_append.1 hx with h | h
   ·have := e3 x h; omega
   ·have := f3 x h; omega
  ·have := k3 x hx2
   rcases List.mem_append.1 hx with h | h
   ·rcases List.mem_append.1 h with h | h
    ·have := e3 x h; omega
    ·have := f3 x h; omega
   ·have := g3 x h; omega
 ·rcases List.mem_append.1 hx with h | h
  ·rcases List.mem_append.1 h with h | h
   ·rcases List.mem_append.1 h with h | h
    ·exact (e3 x h).1
    ·have := f3 x h; omega
   ·have := g3 x h; omega
  ·have := k3 x h; omega
theorem Qe : ∀ {L : List Fd}, L.all okF = true → 9 * (L.length : Int) ≤ aS L
 | [], _ => by simp [aS]
 | f :: L, h => by
  simp only [List.all_cons, Bool.and_eq_true] at h
  have h1 := Qe h.2
  have h2 := Hg h.1
  simp only [aS, List.length_cons]
  omega
theorem Db {room : Int} {L : List Fd} (h : bI room L = true) : L.length ≤ 1000 := by
 unfold bI at h
 simp only [Bool.and_eq_true, decide_eq_true_eq] at h
 have h1 := Qe h.2.1
 have h2 := jm h.1
 omega
set_option maxHeartbeats 8000000 in
theorem Sc (d : aH) (ve vi vo vf : Value) (w : World) (hv : je w d ve vi vo vf) (hok : dV d = true) :
  Calls Tryz.prog 18 #[bH d ve vi vo vf] w fun x w' => ∃ v', x = .returned v' ∧ FD w.heap.size d v' w' ∧ Below w.heap.size w w' := by
 have hl1 := (rH hok).2
 have hl2 := Db (jI.1 hok).2.1
 have hl3 := Db (jI.1 hok).2.2.1
 have hl4 : d.flows.length ≤ 60 := by have := (rH hok).1; omega
 have H20 : Hid (∀ f ∈ d.flows, f.fds.length ≤ 20) := fun f hf => by
  have := (zu hok hf).2.2.2
  unfold dZ at this
  simp only [Bool.and_eq_true, decide_eq_true_eq] at this
  exact this.2
 obtain ⟨hv1, hv2, hv3, hv4⟩ := hv
 obtain ⟨ae, pe, rfl, e1, e2⟩ := hv1.form
 obtain ⟨ai, pi, rfl, i1, i2⟩ := hv2.form
 obtain ⟨ao, po, rfl, o1, o2⟩ := hv3.form
 obtain ⟨af, pf, rfl, f1, f2⟩ := hv4.form
 obtain ⟨⟨rl, rt, es⟩, ir, it, bG, ot, gt, gv, fs, fl, aw, de⟩ := d
 dsimp only [bH] at *
 have FH := hide hv1; have xP := hide hv2; have xQ := hide hv3; have FK := hide hv4
 clear hok hv1 hv2 hv3 hv4
 have aP : Below w.heap.size w (w.alloc (.cells #[.int .i64 rl, .int .i64 rt, .slice ae es.length pe, .int .i64 ir, .slice ai it.length pi, .int .i64 bG, .slice ao ot.length po, .int .i64 gt, .int .i64 gv, .int .i64 fs, .slice af fl.length pf, .bool aw, .bool de] 40)) := (Below.refl _ _).alloc (Nat.le_refl _) _
 have RA := aB w 40 [.int .i64 rl, .int .i64 rt, .slice ae es.length pe, .int .i64 ir, .slice ai it.length pi, .int .i64 bG, .slice ao ot.length po, .int .i64 gt, .int .i64 gv, .int .i64 fs, .slice af fl.length pf, .bool aw, .bool de]
 generalize hA : w.alloc (.cells #[.int .i64 rl, .int .i64 rt, .slice ae es.length pe, .int .i64 ir, .slice ai it.length pi, .int .i64 bG, .slice ao ot.length po, .int .i64 gt, .int .i64 gv, .int .i64 fs, .slice af fl.length pf, .bool aw, .bool de] 40) = WA at *
 have hsA : WA.heap.size = w.heap.size + 1 := by rw [← hA]; simp
 have vQ : Below WA.heap.size WA (WA.alloc (.cells #[.int .i64 0, .int .i64 0, .slice none 0 0, .int .i64 0, .slice none 0 0, .int .i64 0, .slice none 0 0, .int .i64 0, .int .i64 0, .int .i64 0, .slice none 0 0, .bool false, .bool false] 40)) := (Below.refl _ _).alloc (Nat.le_refl _) _
 have RZ := aB WA 40 [.int .i64 0, .int .i64 0, .slice none 0 0, .int .i64 0, .slice none 0 0, .int .i64 0, .slice none 0 0, .int .i64 0, .int .i64 0, .int .i64 0, .slice none 0 0, .bool false, .bool false]
 generalize hZ : WA.alloc (.cells #[.int .i64 0, .int .i64 0, .slice none 0 0, .int .i64 0, .slice none 0 0, .int .i64 0, .slice none 0 0, .int .i64 0, .int .i64 0, .int .i64 0, .slice none 0 0, .bool false, .bool false] 40) = WZ at *
 have BG : WZ.heap.size = w.heap.size + 2 := by rw [← hZ]; simp; omega
 have qX : Below WZ.heap.size WZ ((WZ.alloc (.cells #[.int .i64 0, .int .i64 0, .slice none 0 0, .int .i64 0, .slice none 0 0, .int .i64 0, .slice none 0 0, .int .i64 0, .int .i64 0, .int .i64 0, .slice none 0 0, .bool false, .bool false] 40)).setRow WZ.heap.size #[.int .i64 rl, .int .i64 rt, .slice ae es.length pe, .int .i64 ir, .slice ai it.length pi, .int .i64 bG, .slice ao ot.length po, .int .i64 gt, .int .i64 gv, .int .i64 fs, .slice af fl.length pf, .bool aw, .bool de]) := below_setRow ((Below.refl _ _).alloc (Nat.le_refl _) _) (Nat.le_refl _) #[.int .i64 rl, .int .i64 rt, .slice ae es.length pe, .int .i64 ir, .slice ai it.length pi, .int .i64 bG, .slice ao ot.length po, .int .i64 gt, .int .i64 gv, .int .i64 fs, .slice af fl.length pf, .bool aw, .bool de]
 have RN := aB WZ 40 [.int .i64 0, .int .i64 0, .slice none 0 0, .int .i64 0, .slice none 0 0, .int .i64 0, .slice none 0 0, .int .i64 0, .int .i64 0, .int .i64 0, .slice none 0 0, .bool false, .bool false]
 have RO := dW (cs' := [.int .i64 rl, .int .i64 rt, .slice ae es.length pe, .int .i64 ir, .slice ai it.length pi, .int .i64 bG, .slice ao ot.length po, .int .i64 gt, .int .i64 gv, .int .i64 fs, .slice af fl.length pf, .bool aw, .bool de]) RN
 have hsO : ((WZ.alloc (.cells #[.int .i64 0, .int .i64 0, .slice none 0 0, .int .i64 0, .slice none 0 0, .int .i64 0, .slice none 0 0, .int .i64 0, .int .i64 0, .int .i64 0, .slice none 0 0, .bool false, .bool false] 40)).setRow WZ.heap.size #[.int .i64 rl, .int .i64 rt, .slice ae es.length pe, .int .i64 ir, .slice ai it.length pi, .int .i64 bG, .slice ao ot.length po, .int .i64 gt, .int .i64 gv, .int .i64 fs, .slice af fl.length pf, .bool aw, .bool de]).heap.size = w.heap.size + 3 := by rw [setRow_size]; simp; omega
 replace RA := (RA.new vQ)
 have Qf := RA
 replace RA := RA.new qX
 rw [hsA] at RZ
 replace RZ := RZ.new qX
 have HB := hide (ah (ah aP vQ) qX)
 rw [BG] at RO RN
 go_enter Tryz.func18, Tryz.ntmps18
 go_upto_region 1 with fail
 go_upto_region 2 with (first | (refine wpList_load_row (by rfl) 40 _ (by rfl) w.heap.size (by rfl) [.int .i64 rl, .int .i64 rt, .slice ae es.length pe, .int .i64 ir, .slice ai it.length pi, .int .i64 bG, .slice ao ot.length po, .int .i64 gt, .int .i64 gv, .int .i64 fs, .slice af fl.length pf, .bool aw, .bool de] _ 40 Qf Tryz.underlying40 rfl (by kernel_rfl) ?_) | (refine wpList_store_row (by rfl) 40 _ _ (by rfl) (w.heap.size + 2) [.int .i64 rl, .int .i64 rt, .slice ae es.length pe, .int .i64 ir, .slice ai it.length pi, .int .i64 bG, .slice ao ot.length po, .int .i64 gt, .int .i64 gv, .int .i64 fs, .slice af fl.length pf, .bool aw, .bool de] (by rfl) (by rfl) 40 [.int .i64 0, .int .i64 0, .slice none 0 0, .int .i64 0, .slice none 0 0, .int .i64 0, .slice none 0 0, .int .i64 0, .int .i64 0, .int .i64 0, .slice none 0 0, .bool false, .bool false] RN (by kernel_rfl) rfl (by intro u hu; simp at hu; rcases hu with rfl | rfl | rfl | rfl | rfl | rfl | rfl | rfl | rfl | rfl | rfl | rfl | rfl <;> rfl) ?_))
 rw [BG] at RA RZ HB hsO
 clear RN Qf aP vQ qX
 generalize hO : (WZ.alloc (.cells #[.int .i64 0, .int .i64 0, .slice none 0 0, .int .i64 0, .slice none 0 0, .int .i64 0, .slice none 0 0, .int .i64 0, .int .i64 0, .int .i64 0, .slice none 0 0, .bool false, .bool false] 40)).setRow (w.heap.size + 2) #[.int .i64 rl, .int .i64 rt, .slice ae es.length pe, .int .i64 ir, .slice ai it.length pi, .int .i64 bG, .slice ao ot.length po, .int .i64 gt, .int .i64 gv, .int .i64 fs, .slice af fl.length pf, .bool aw, .bool de] = W1 at *
 clear hO hA hZ hsA BG WA
 have JB := hsO
 obtain ⟨a0, a1, a2⟩ := jZ RA
 have af := fun j => aj.frozen RA j
 have al := RA.lt
 obtain ⟨o0, o1, o2⟩ := jZ RO
 have of := fun j => aj.frozen RO j
 have ol := RO.lt
 go_wp2_with fail
 refine (Yz ⟨rl, rt, es⟩ (.slice ae es.length pe) _ (FH.out.new HB.out) (by show es.length ≤ 1000; omega)).mono ?_; rintro e w2 ⟨vE, rfl, ho, hb⟩
 obtain ⟨dG, dH, rfl, Sr, Sv⟩ := bW ho
 clear a0 a1 a2 af al
 clear o0 o1 o2 of ol
 rw [JB] at ho
 have EC := hb.size
 rw [JB] at EC
 obtain ⟨e9, tZ⟩ : ∃ n, n = w2.heap.size := ⟨_, rfl⟩
 have xR := GR (E := bE) (f := aF.cs) (fun d hd => ⟨rfl, rfl⟩) ho
 rw [← tZ] at xR
 replace RA := RA.new hb
 replace RZ := RZ.new hb
 replace RO := RO.new hb
 replace HB := hide (ah HB.out hb)
 have HE := hide xR
 clear hb ho xR
 obtain ⟨o0, o1, o2⟩ := jZ RO
 have of := fun j => aj.frozen RO j
 have ol := RO.lt
 go_upto_region 3 with fail
 have hsv : (((w2.setCell ⟨w.heap.size + 2, 0, none⟩ (.int .i64 rl)).setCell ⟨w.heap.size + 2, 1, none⟩ (.int .i64 rt)).setCell ⟨w.heap.size + 2, 2, none⟩ (.slice dG es.length dH)).heap.size = w2.heap.size := by simp
 replace RA := (((RA.far ⟨w.heap.size + 2, 0, none⟩ (.int .i64 rl) (show w.heap.size + 2 ≠ w.heap.size by omega)).far ⟨w.heap.size + 2, 1, none⟩ (.int .i64 rt) (show w.heap.size + 2 ≠ w.heap.size by omega)).far ⟨w.heap.size + 2, 2, none⟩ (.slice dG es.length dH) (show w.heap.size + 2 ≠ w.heap.size by omega))
 replace RZ := (((RZ.far ⟨w.heap.size + 2, 0, none⟩ (.int .i64 rl) (show w.heap.size + 2 ≠ (w.heap.size + 1) by omega)).far ⟨w.heap.size + 2, 1, none⟩ (.int .i64 rt) (show w.heap.size + 2 ≠ (w.heap.size + 1) by omega)).far ⟨w.heap.size + 2, 2, none⟩ (.slice dG es.length dH) (show w.heap.size + 2 ≠ (w.heap.size + 1) by omega))
 replace RO := (((RO.set 0 (.int .i64 rl)).set 1 (.int .i64 rt)).set 2 (.slice dG es.length dH))
 replace HE := hide ((((HE.out.far ⟨w.heap.size + 2, 0, none⟩ (.int .i64 rl) (.inl (show w.heap.size + 2 < (w.heap.size + 3) by omega))).far ⟨w.heap.size + 2, 1, none⟩ (.int .i64 rt) (.inl (show w.heap.size + 2 < (w.heap.size + 3) by omega))).far ⟨w.heap.size + 2, 2, none⟩ (.slice dG es.length dH) (.inl (show w.heap.size + 2 < (w.heap.size + 3) by omega))))
 replace HB := hide (((HB.out.setCell (p := ⟨w.heap.size + 2, 0, none⟩) (show w.heap.size ≤ w.heap.size + 2 by omega) (.int .i64 rl)).setCell (p := ⟨w.heap.size + 2, 1, none⟩) (show w.heap.size ≤ w.heap.size + 2 by omega) (.int .i64 rt)).setCell (p := ⟨w.heap.size + 2, 2, none⟩) (show w.heap.size ≤ w.heap.size + 2 by omega) (.slice dG es.length dH))
 clear o0 o1 o2 of ol
 generalize (((w2.setCell ⟨w.heap.size + 2, 0, none⟩ (.int .i64 rl)).setCell ⟨w.heap.size + 2, 1, none⟩ (.int .i64 rt)).setCell ⟨w.heap.size + 2, 2, none⟩ (.slice dG es.length dH)) = W2 at *
 rw [← tZ] at hsv EC
 have Cw : W2.heap.size = e9 := hsv
 clear hsv tZ
 have a3 := ak 3 RA rfl
 have a4 := ak 4 RA rfl
 have af := fun j => aj.frozen RA j
 have al := RA.lt
 have o3 := ak 3 RO rfl
 have o4 := ak 4 RO rfl
 have of := fun j => aj.frozen RO j
 have ol := RO.lt
 go_wp2_with fail
 refine (Ox it ir (.slice ai it.length pi) _ (dM (xP.out.new HB.out)) hl2).mono ?_; rintro e w3 ⟨vI, rfl, ho, hb⟩
 obtain ⟨dB, dD, rfl, Sw, Sy⟩ := bW ho
 clear a3 a4 af al
 clear o3 o4 of ol
 rw [Cw] at ho
 have ED := hb.size
 rw [Cw] at ED
 obtain ⟨i9, hi9⟩ : ∃ n, n = w3.heap.size := ⟨_, rfl⟩
 have xS := (fun z => vR z (eu xP.out)) ho
 rw [← hi9] at xS
 replace RA := RA.new hb
 replace RZ := RZ.new hb
 replace RO := RO.new hb
 replace HE := hide (HE.out.new hb)
 replace HB := hide (ah HB.out hb)
 have HI := hide xS
 clear hb ho xS
 have o3 := ak 3 RO rfl
 have o4 := ak 4 RO rfl
 have of := fun j => aj.frozen RO j
 have ol := RO.lt
 go_upto_region 4 with fail
 have hsv : ((w3.setCell ⟨w.heap.size + 2, 3, none⟩ (.int .i64 ir)).setCell ⟨w.heap.size + 2, 4, none⟩ (.slice dB it.length dD)).heap.size = w3.heap.size := by simp
 replace RA := ((RA.far ⟨w.heap.size + 2, 3, none⟩ (.int .i64 ir) (show w.heap.size + 2 ≠ w.heap.size by omega)).far ⟨w.heap.size + 2, 4, none⟩ (.slice dB it.length dD) (show w.heap.size + 2 ≠ w.heap.size by omega))
 replace RZ := ((RZ.far ⟨w.heap.size + 2, 3, none⟩ (.int .i64 ir) (show w.heap.size + 2 ≠ (w.heap.size + 1) by omega)).far ⟨w.heap.size + 2, 4, none⟩ (.slice dB it.length dD) (show w.heap.size + 2 ≠ (w.heap.size + 1) by omega))
 replace RO := ((RO.set 3 (.int .i64 ir)).set 4 (.slice dB it.length dD))
 replace HE := hide (((HE.out.far ⟨w.heap.size + 2, 3, none⟩ (.int .i64 ir) (.inl (show w.heap.size + 2 < (w.heap.size + 3) by omega))).far ⟨w.heap.size + 2, 4, none⟩ (.slice dB it.length dD) (.inl (show w.heap.size + 2 < (w.heap.size + 3) by omega))))
 replace HI := hide (((HI.out.far ⟨w.heap.size + 2, 3, none⟩ (.int .i64 ir) (.inl (show w.heap.size + 2 < e9 by omega))).far ⟨w.heap.size + 2, 4, none⟩ (.slice dB it.length dD) (.inl (show w.heap.size + 2 < e9 by omega))))
 replace HB := hide ((HB.out.setCell (p := ⟨w.heap.size + 2, 3, none⟩) (show w.heap.size ≤ w.heap.size + 2 by omega) (.int .i64 ir)).setCell (p := ⟨w.heap.size + 2, 4, none⟩) (show w.heap.size ≤ w.heap.size + 2 by omega) (.slice dB it.length dD))
 clear o3 o4 of ol
 generalize ((w3.setCell ⟨w.heap.size + 2, 3, none⟩ (.int .i64 ir)).setCell ⟨w.heap.size + 2, 4, none⟩ (.slice dB it.length dD)) = W3 at *
 rw [← hi9] at hsv ED
 have Cx : W3.heap.size = i9 := hsv
 clear hsv hi9
 have a5 := ak 5 RA rfl
 have a6 := ak 6 RA rfl
 have af := fun j => aj.frozen RA j
 have al := RA.lt
 have o5 := ak 5 RO rfl
 have o6 := ak 6 RO rfl
 have of := fun j => aj.frozen RO j
 have ol := RO.lt
 go_wp2_with fail
 refine (Ox ot bG (.slice ao ot.length po) _ (dM (xQ.out.new HB.out)) hl3).mono ?_; rintro e w4 ⟨vU, rfl, ho, hb⟩
 obtain ⟨dx, dz, rfl, Sz, SA⟩ := bW ho
 clear a5 a6 af al
 clear o5 o6 of ol
 rw [Cx] at ho
 have EF := hb.size
 rw [Cx] at EF
 obtain ⟨u9, oz⟩ : ∃ n, n = w4.heap.size := ⟨_, rfl⟩
 have xU := (fun z => vR z (eu xQ.out)) ho
 rw [← oz] at xU
 replace RA := RA.new hb
 replace RZ := RZ.new hb
 replace RO := RO.new hb
 replace HE := hide (HE.out.new hb)
 replace HI := hide (HI.out.new hb)
 replace HB := hide (ah HB.out hb)
 have HU := hide xU
 clear hb ho xU
 have o5 := ak 5 RO rfl
 have o6 := ak 6 RO rfl
 have of := fun j => aj.frozen RO j
 have ol := RO.lt
 go_upto_region 5 with fail
 have hsv : ((w4.setCell ⟨w.heap.size + 2, 5, none⟩ (.int .i64 bG)).setCell ⟨w.heap.size + 2, 6, none⟩ (.slice dx ot.length dz)).heap.size = w4.heap.size := by simp
 replace RA := ((RA.far ⟨w.heap.size + 2, 5, none⟩ (.int .i64 bG) (show w.heap.size + 2 ≠ w.heap.size by omega)).far ⟨w.heap.size + 2, 6, none⟩ (.slice dx ot.length dz) (show w.heap.size + 2 ≠ w.heap.size by omega))
 replace RZ := ((RZ.far ⟨w.heap.size + 2, 5, none⟩ (.int .i64 bG) (show w.heap.size + 2 ≠ (w.heap.size + 1) by omega)).far ⟨w.heap.size + 2, 6, none⟩ (.slice dx ot.length dz) (show w.heap.size + 2 ≠ (w.heap.size + 1) by omega))
 replace RO := ((RO.set 5 (.int .i64 bG)).set 6 (.slice dx ot.length dz))
 replace HE := hide (((HE.out.far ⟨w.heap.size + 2, 5, none⟩ (.int .i64 bG) (.inl (show w.heap.size + 2 < (w.heap.size + 3) by omega))).far ⟨w.heap.size + 2, 6, none⟩ (.slice dx ot.length dz) (.inl (show w.heap.size + 2 < (w.heap.size + 3) by omega))))
 replace HI := hide (((HI.out.far ⟨w.heap.size + 2, 5, none⟩ (.int .i64 bG) (.inl (show w.heap.size + 2 < e9 by omega))).far ⟨w.heap.size + 2, 6, none⟩ (.slice dx ot.length dz) (.inl (show w.heap.size + 2 < e9 by omega))))
 replace HU := hide (((HU.out.far ⟨w.heap.size + 2, 5, none⟩ (.int .i64 bG) (.inl (show w.heap.size + 2 < i9 by omega))).far ⟨w.heap.size + 2, 6, none⟩ (.slice dx ot.length dz) (.inl (show w.heap.size + 2 < i9 by omega))))
 replace HB := hide ((HB.out.setCell (p := ⟨w.heap.size + 2, 5, none⟩) (show w.heap.size ≤ w.heap.size + 2 by omega) (.int .i64 bG)).setCell (p := ⟨w.heap.size + 2, 6, none⟩) (show w.heap.size ≤ w.heap.size + 2 by omega) (.slice dx ot.length dz))
 clear o5 o6 of ol
 generalize ((w4.setCell ⟨w.heap.size + 2, 5, none⟩ (.int .i64 bG)).setCell ⟨w.heap.size + 2, 6, none⟩ (.slice dx ot.length dz)) = W4 at *
 rw [← oz] at hsv EF
 have zx : W4.heap.size = u9 := hsv
 clear hsv oz
 have hb : Below W4.heap.size W4 (W4.alloc (.cells #[] 92)) := (Below.refl _ _).alloc (Nat.le_refl _) _
 have xw : Hid (aD bF (W4.alloc (.cells #[] 92)) u9 (W4.alloc (.cells #[] 92)).heap.size (.slice (some ⟨u9, 0, none⟩) 0 0) []) := by have h0 := VA (E := bF) W4 (W4.alloc (.cells #[] 92)).heap.size (by simp); rw [zx] at h0; exact h0
 have hsa : (W4.alloc (.cells #[] 92)).heap.size = u9 + 1 := by simp; omega
 replace RA := RA.new hb
 replace RZ := RZ.new hb
 replace RO := RO.new hb
 replace HE := hide (HE.out.new hb)
 replace HI := hide (HI.out.new hb)
 replace HU := hide (HU.out.new hb)
 replace HB := hide (ah HB.out hb)
 have EG := ak 10 RO rfl
 have of := fun j => aj.frozen RO j
 have ol := RO.lt
 go_upto_region 6 with fail
 have hsv : ((W4.alloc (.cells #[] 92)).setCell ⟨w.heap.size + 2, 10, none⟩ (.slice (some ⟨u9, 0, none⟩) 0 0)).heap.size = (W4.alloc (.cells #[] 92)).heap.size := by simp
 replace RA := (RA.far ⟨w.heap.size + 2, 10, none⟩ (.slice (some ⟨u9, 0, none⟩) 0 0) (show w.heap.size + 2 ≠ w.heap.size by omega))
 replace RZ := (RZ.far ⟨w.heap.size + 2, 10, none⟩ (.slice (some ⟨u9, 0, none⟩) 0 0) (show w.heap.size + 2 ≠ (w.heap.size + 1) by omega))
 replace RO := (RO.set 10 (.slice (some ⟨u9, 0, none⟩) 0 0))
 replace HE := hide ((HE.out.far ⟨w.heap.size + 2, 10, none⟩ (.slice (some ⟨u9, 0, none⟩) 0 0) (.inl (show w.heap.size + 2 < (w.heap.size + 3) by omega))))
 replace HI := hide ((HI.out.far ⟨w.heap.size + 2, 10, none⟩ (.slice (some ⟨u9, 0, none⟩) 0 0) (.inl (show w.heap.size + 2 < e9 by omega))))
 replace HU := hide ((HU.out.far ⟨w.heap.size + 2, 10, none⟩ (.slice (some ⟨u9, 0, none⟩) 0 0) (.inl (show w.heap.size + 2 < i9 by omega))))
 replace xw := hide ((xw.out.far ⟨w.heap.size + 2, 10, none⟩ (.slice (some ⟨u9, 0, none⟩) 0 0) (.inl (show w.heap.size + 2 < u9 by omega))))
 replace HB := hide (HB.out.setCell (p := ⟨w.heap.size + 2, 10, none⟩) (show w.heap.size ≤ w.heap.size + 2 by omega) (.slice (some ⟨u9, 0, none⟩) 0 0))
 clear EG of ol
 generalize ((W4.alloc (.cells #[] 92)).setCell ⟨w.heap.size + 2, 10, none⟩ (.slice (some ⟨u9, 0, none⟩) 0 0)) = W5 at *
 rw [hsa] at hsv xw
 clear hb hsa
 have Qg := hide (xw.out.wide (lo' := u9) (hi' := W5.heap.size) (Nat.le_refl _) (by omega))
 have dA := hide RA; have aZ := hide RZ; have jq := hide RO
 have hx5 : u9 ≤ W5.heap.size := by omega
 have he0f : w.heap.size + 3 ≤ e9 ∧ e9 ≤ i9 ∧ i9 ≤ u9 := ⟨EC, ED, EF⟩
 clear RA RZ RO xw hsv zx EF Cx ED Cw EC JB hsO
 have kX := ak 10 dA.out rfl
 go_wp2_with fail
 clear kX
 go_loopw [4] (fun i wr => ∃ (k : Nat) (ab : Option Addr) (pb : Nat), i = .int .i64 (k : Int) ∧ k ≤ fl.length ∧ Hid (aj wr w.heap.size 40 [.int .i64 rl, .int .i64 rt, .slice ae es.length pe, .int .i64 ir, .slice ai it.length pi, .int .i64 bG, .slice ao ot.length po, .int .i64 gt, .int .i64 gv, .int .i64 fs, .slice af fl.length pf, .bool aw, .bool de]) ∧ Hid (aj wr (w.heap.size + 1) 40 [.int .i64 0, .int .i64 0, .slice none 0 0, .int .i64 0, .slice none 0 0, .int .i64 0, .slice none 0 0, .int .i64 0, .int .i64 0, .int .i64 0, .slice none 0 0, .bool false, .bool false]) ∧ Hid (aj wr (w.heap.size + 2) 40 [.int .i64 rl, .int .i64 rt, .slice dG es.length dH, .int .i64 ir, .slice dB it.length dD, .int .i64 bG, .slice dx ot.length dz, .int .i64 gt, .int .i64 gv, .int .i64 fs, .slice ab k pb, .bool aw, .bool de]) ∧ Hid (aD bE wr (w.heap.size + 3) e9 (.slice dG es.length dH) es) ∧ Hid (aD bT wr e9 i9 (.slice dB it.length dD) it) ∧ Hid (aD bT wr i9 u9 (.slice dx ot.length dz) ot) ∧ Hid (aD bF wr u9 wr.heap.size (.slice ab k pb) (fl.take k)) ∧ Hid (Below w.heap.size w wr) ∧ u9 ≤ wr.heap.size) (fun i _ => fl.length - (intOf i).toNat)
 case atStart => exact ⟨0, _, _, rfl, Nat.zero_le _, dA, aZ, jq, HE, HI, HU, Qg, HB, hx5⟩
 case round =>
  clear dA aZ jq HE HI HU Qg HB hx5
  obtain ⟨k, ab, pb, rfl, hk, dA, aZ, jq, HE, HI, HU, HF, HB, hsr⟩ := hrel
  have kX := ak 10 dA.out rfl
  have al := dA.out.lt
  by_cases hlt : k < fl.length
  rotate_left
  ·have Bz : ¬ (k : Int) < fl.length := by omega
   obtain rfl : k = fl.length := by omega
   rw [List.take_length] at HF
   have HR2 := hide (dW (cs' := [.int .i64 rl, .int .i64 rt, .slice dG es.length dH, .int .i64 ir, .slice dB it.length dD, .int .i64 bG, .slice dx ot.length dz, .int .i64 gt, .int .i64 gv, .int .i64 fs, .slice ab fl.length pb, .bool aw, .bool de]) aZ.out)
   have HB2 := hide (below_setRow HB.out (show w.heap.size ≤ w.heap.size + 1 by omega) #[.int .i64 rl, .int .i64 rt, .slice dG es.length dH, .int .i64 ir, .slice dB it.length dD, .int .i64 bG, .slice dx ot.length dz, .int .i64 gt, .int .i64 gv, .int .i64 fs, .slice ab fl.length pb, .bool aw, .bool de])
   have hsx : (wr.setRow (w.heap.size + 1) #[.int .i64 rl, .int .i64 rt, .slice dG es.length dH, .int .i64 ir, .slice dB it.length dD, .int .i64 bG, .slice dx ot.length dz, .int .i64 gt, .int .i64 gv, .int .i64 fs, .slice ab fl.length pb, .bool aw, .bool de]).heap.size = wr.heap.size := setRow_size _ _ _
   have hkx : ∀ q, w.heap.size + 3 ≤ q → (wr.setRow (w.heap.size + 1) #[.int .i64 rl, .int .i64 rt, .slice dG es.length dH, .int .i64 ir, .slice dB it.length dD, .int .i64 bG, .slice dx ot.length dz, .int .i64 gt, .int .i64 gv, .int .i64 fs, .slice ab fl.length pb, .bool aw, .bool de]).heap[q]? = wr.heap[q]? := fun q hq => setRow_other _ _ _ _ (by omega)
   go_wp2_with (first | (refine wpList_load_row (by rfl) 40 _ (by rfl) (w.heap.size + 2) (by rfl) [.int .i64 rl, .int .i64 rt, .slice dG es.length dH, .int .i64 ir, .slice dB it.length dD, .int .i64 bG, .slice dx ot.length dz, .int .i64 gt, .int .i64 gv, .int .i64 fs, .slice ab fl.length pb, .bool aw, .bool de] _ 40 jq.out Tryz.underlying40 rfl (by kernel_rfl) ?_) | (refine wpList_store_row (by rfl) 40 _ _ (by rfl) (w.heap.size + 1) [.int .i64 rl, .int .i64 rt, .slice dG es.length dH, .int .i64 ir, .slice dB it.length dD, .int .i64 bG, .slice dx ot.length dz, .int .i64 gt, .int .i64 gv, .int .i64 fs, .slice ab fl.length pb, .bool aw, .bool de] (by rfl) (by rfl) 40 [.int .i64 0, .int .i64 0, .slice none 0 0, .int .i64 0, .slice none 0 0, .int .i64 0, .slice none 0 0, .int .i64 0, .int .i64 0, .int .i64 0, .slice none 0 0, .bool false, .bool false] aZ.out (by kernel_rfl) rfl (by intro u hu; simp at hu; rcases hu with rfl | rfl | rfl | rfl | rfl | rfl | rfl | rfl | rfl | rfl | rfl | rfl | rfl <;> rfl) ?_))
   generalize wr.setRow (w.heap.size + 1) #[.int .i64 rl, .int .i64 rt, .slice dG es.length dH, .int .i64 ir, .slice dB it.length dD, .int .i64 bG, .slice dx ot.length dz, .int .i64 gt, .int .i64 gv, .int .i64 fs, .slice ab fl.length pb, .bool aw, .bool de] = V at *
   have HE2 := HE.out.nA hsx (fun q hq => hkx q (by omega))
   have HI2 := HI.out.nA hsx (fun q hq => hkx q (by omega))
   have zy := HU.out.nA hsx (fun q hq => hkx q (by omega))
   have lI := HF.out.nA hsx (fun q hq => hkx q (by omega))
   obtain ⟨bs, hcn, hlo⟩ := KO (d := ⟨⟨rl, rt, es⟩, ir, it, bG, ot, gt, gv, fs, fl, aw, de⟩) HE2 HI2 zy lI (by omega) (by omega) (by omega) (by omega) (by omega) (by omega)
   have fH := hide hcn
   clear hcn HE2 HI2 zy lI
   obtain ⟨z0, z1, z2, z3, z4, z5, z6, z7, z8, z9, jf, jg, z12⟩ := dw HR2.out
   have zf := fun j => aj.frozen HR2.out j
   refine bodyPost_ret (v := .agg #[.int .i64 rl, .int .i64 rt, .slice dG es.length dH, .int .i64 ir, .slice dB it.length dD, .int .i64 bG, .slice dx ot.length dz, .int .i64 gt, .int .i64 gv, .int .i64 fs, .slice ab fl.length pb, .bool aw, .bool de]) (by simp [results, Tryz.results18, go_sem, *]) rfl ?_
   exact ⟨_, rfl, ⟨_, _, _, _, bs, rfl, fH.out, fun q hq => by have := hlo q hq; omega⟩, HB2.out⟩
  have Bz : (k : Int) < fl.length := by omega
  obtain ⟨b, o, cs, hae, hbw, hrd, hc⟩ := (FK.out.new HB.out).at k hlt
  subst hae
  have fA : Hid (fl.take (k + 1) = fl.take k ++ [fl[k]]) := List.take_succ_eq_append_getElem hlt
  have h20 := H20.out fl[k] (List.getElem_mem hlt)
  obtain ⟨x, hx⟩ : ∃ x, fl[k] = x := ⟨_, rfl⟩
  rw [hx] at hrd fA h20
  clear hx
  obtain ⟨vq, rfl, s0, s1, lF⟩ := hrd
  obtain ⟨aq, pq, rfl, g1, g2⟩ := lF.form
  have c0 : wr.cell? ⟨b, o + k * 15, none⟩ = some (.int .i64 x.id) := hc 0 _ rfl
  have c1 : wr.cell? ⟨b, o + k * 15 + 1, none⟩ = some (.int .i64 x.get) := hc 1 _ rfl
  have c2 : wr.cell? ⟨b, o + k * 15 + 2, none⟩ = some (.int .i64 x.give) := hc 2 _ rfl
  have c3 : wr.cell? ⟨b, o + k * 15 + 3, none⟩ = some (.slice aq x.fds.length pq) := hc 3 _ rfl
  have c4 : wr.cell? ⟨b, o + k * 15 + 4, none⟩ = some (.int .i64 x.tun.up.r) := hc 4 _ rfl
  have c5 : wr.cell? ⟨b, o + k * 15 + 5, none⟩ = some (.string x.tun.up.b) := hc 5 _ rfl
  have c6 : wr.cell? ⟨b, o + k * 15 + 6, none⟩ = some (.bool x.tun.up.e) := hc 6 _ rfl
  have c7 : wr.cell? ⟨b, o + k * 15 + 7, none⟩ = some (.bool x.tun.up.k) := hc 7 _ rfl
  have c8 : wr.cell? ⟨b, o + k * 15 + 8, none⟩ = some (.int .i64 x.tun.dn.r) := hc 8 _ rfl
  have c9 : wr.cell? ⟨b, o + k * 15 + 9, none⟩ = some (.string x.tun.dn.b) := hc 9 _ rfl
  have c10 : wr.cell? ⟨b, o + k * 15 + 10, none⟩ = some (.bool x.tun.dn.e) := hc 10 _ rfl
  have c11 : wr.cell? ⟨b, o + k * 15 + 11, none⟩ = some (.bool x.tun.dn.k) := hc 11 _ rfl
  have c12 : wr.cell? ⟨b, o + k * 15 + 12, none⟩ = some (.int .i64 x.tun.went) := hc 12 _ rfl
  have c13 : wr.cell? ⟨b, o + k * 15 + 13, none⟩ = some (.int .i64 x.tun.came) := hc 13 _ rfl
  have c14 : wr.cell? ⟨b, o + k * 15 + 14, none⟩ = some (.bool x.ended) := hc 14 _ rfl
  have hX : Below wr.heap.size wr ((wr.alloc (.cells #[.int .i64 0, .int .i64 0, .int .i64 0, .slice none 0 0, .int .i64 0, .string ⟨#[]⟩, .bool false, .bool false, .int .i64 0, .string ⟨#[]⟩, .bool false, .bool false, .int .i64 0, .int .i64 0, .bool false] 92)).setRow wr.heap.size #[.int .i64 x.id, .int .i64 x.get, .int .i64 x.give, .slice aq x.fds.length pq, .int .i64 x.tun.up.r, .string x.tun.up.b, .bool x.tun.up.e, .bool x.tun.up.k, .int .i64 x.tun.dn.r, .string x.tun.dn.b, .bool x.tun.dn.e, .bool x.tun.dn.k, .int .i64 x.tun.went, .int .i64 x.tun.came, .bool x.ended]) := below_setRow ((Below.refl _ _).alloc (Nat.le_refl _) _) (Nat.le_refl _) #[.int .i64 x.id, .int .i64 x.get, .int .i64 x.give, .slice aq x.fds.length pq, .int .i64 x.tun.up.r, .string x.tun.up.b, .bool x.tun.up.e, .bool x.tun.up.k, .int .i64 x.tun.dn.r, .string x.tun.dn.b, .bool x.tun.dn.e, .bool x.tun.dn.k, .int .i64 x.tun.went, .int .i64 x.tun.came, .bool x.ended]
  have RX : aj ((wr.alloc (.cells #[.int .i64 0, .int .i64 0, .int .i64 0, .slice none 0 0, .int .i64 0, .string ⟨#[]⟩, .bool false, .bool false, .int .i64 0, .string ⟨#[]⟩, .bool false, .bool false, .int .i64 0, .int .i64 0, .bool false] 92)).setRow wr.heap.size #[.int .i64 x.id, .int .i64 x.get, .int .i64 x.give, .slice aq x.fds.length pq, .int .i64 x.tun.up.r, .string x.tun.up.b, .bool x.tun.up.e, .bool x.tun.up.k, .int .i64 x.tun.dn.r, .string x.tun.dn.b, .bool x.tun.dn.e, .bool x.tun.dn.k, .int .i64 x.tun.went, .int .i64 x.tun.came, .bool x.ended]) wr.heap.size 92 [.int .i64 x.id, .int .i64 x.get, .int .i64 x.give, .slice aq x.fds.length pq, .int .i64 x.tun.up.r, .string x.tun.up.b, .bool x.tun.up.e, .bool x.tun.up.k, .int .i64 x.tun.dn.r, .string x.tun.dn.b, .bool x.tun.dn.e, .bool x.tun.dn.k, .int .i64 x.tun.went, .int .i64 x.tun.came, .bool x.ended] := dW (aB wr 92 [.int .i64 0, .int .i64 0, .int .i64 0, .slice none 0 0, .int .i64 0, .string ⟨#[]⟩, .bool false, .bool false, .int .i64 0, .string ⟨#[]⟩, .bool false, .bool false, .int .i64 0, .int .i64 0, .bool false])
  have hsX : ((wr.alloc (.cells #[.int .i64 0, .int .i64 0, .int .i64 0, .slice none 0 0, .int .i64 0, .string ⟨#[]⟩, .bool false, .bool false, .int .i64 0, .string ⟨#[]⟩, .bool false, .bool false, .int .i64 0, .int .i64 0, .bool false] 92)).setRow wr.heap.size #[.int .i64 x.id, .int .i64 x.get, .int .i64 x.give, .slice aq x.fds.length pq, .int .i64 x.tun.up.r, .string x.tun.up.b, .bool x.tun.up.e, .bool x.tun.up.k, .int .i64 x.tun.dn.r, .string x.tun.dn.b, .bool x.tun.dn.e, .bool x.tun.dn.k, .int .i64 x.tun.went, .int .i64 x.tun.came, .bool x.ended]).heap.size = wr.heap.size + 1 := by rw [setRow_size]; simp
  have rM := hide (lF.new hX)
  clear hc lF
  go_upto_region 10 with (refine wpList_store_row (by rfl) 92 _ _ (by rfl) wr.heap.size [.int .i64 x.id, .int .i64 x.get, .int .i64 x.give, .slice aq x.fds.length pq, .int .i64 x.tun.up.r, .string x.tun.up.b, .bool x.tun.up.e, .bool x.tun.up.k, .int .i64 x.tun.dn.r, .string x.tun.dn.b, .bool x.tun.dn.e, .bool x.tun.dn.k, .int .i64 x.tun.went, .int .i64 x.tun.came, .bool x.ended] (by rfl) (by rfl) 92 [.int .i64 0, .int .i64 0, .int .i64 0, .slice none 0 0, .int .i64 0, .string ⟨#[]⟩, .bool false, .bool false, .int .i64 0, .string ⟨#[]⟩, .bool false, .bool false, .int .i64 0, .int .i64 0, .bool false] (aB wr 92 [.int .i64 0, .int .i64 0, .int .i64 0, .slice none 0 0, .int .i64 0, .string ⟨#[]⟩, .bool false, .bool false, .int .i64 0, .string ⟨#[]⟩, .bool false, .bool false, .int .i64 0, .int .i64 0, .bool false]) (by kernel_rfl) rfl (by intro u hu; simp at hu; rcases hu with rfl | rfl | rfl | rfl | rfl | rfl | rfl | rfl | rfl | rfl | rfl | rfl | rfl | rfl | rfl <;> rfl) ?_)
  replace dA := hide (dA.out.new hX); replace aZ := hide (aZ.out.new hX); replace jq := hide (jq.out.new hX)
  replace HE := hide (HE.out.new hX); replace HI := hide (HI.out.new hX); replace HU := hide (HU.out.new hX); replace HF := hide (HF.out.new hX)
  replace HB := hide (ah HB.out hX)
  clear kX al hbw c0 c1 c2 c3 c4 c5 c6 c7 c8 c9 c10 c11 c12 c13 c14 hX
  generalize hge : wr.heap.size = ge at *
  clear hge
  generalize (wr.alloc (.cells #[.int .i64 0, .int .i64 0, .int .i64 0, .slice none 0 0, .int .i64 0, .string ⟨#[]⟩, .bool false, .bool false, .int .i64 0, .string ⟨#[]⟩, .bool false, .bool false, .int .i64 0, .int .i64 0, .bool false] 92)).setRow ge #[.int .i64 x.id, .int .i64 x.get, .int .i64 x.give, .slice aq x.fds.length pq, .int .i64 x.tun.up.r, .string x.tun.up.b, .bool x.tun.up.e, .bool x.tun.up.k, .int .i64 x.tun.dn.r, .string x.tun.dn.b, .bool x.tun.dn.e, .bool x.tun.dn.k, .int .i64 x.tun.went, .int .i64 x.tun.came, .bool x.ended] = X at *
  have hgX : ge + 1 ≤ X.heap.size := by omega
  clear hsX
  have x3 := RX.cell (j := 3) rfl
  have xf := RX.frozen 3
  have xl := RX.lt
  have hY : Below X.heap.size X (X.alloc (.cells #[] 104)) := (Below.refl _ _).alloc (Nat.le_refl _) _
  have JC : (X.alloc (.cells #[] 104)).ownsRow X.heap.size 104 2 (.slice (some ⟨X.heap.size, 0, none⟩) 0 0) 0 [] := kW X 104 2 0 #[] rfl (by omega)
  have Qh := dM (rM.out.new hY)
  have nu := hide (eu rM.out)
  go_wp2_with (at_builtin; go_must (refine yC _ (by rfl) _ _ 35 (by rfl) 104 (.agg #[.string ⟨#[]⟩, .string ⟨#[]⟩]) 2 32 Tryz.underlying35 (by kernel_rfl) rfl (by decide) X.heap.size _ 0 [] (by rfl) JC _ x.fds.length (fv x.fds) (by rfl) Qh (nV _) (by omega) (by decide) hY.size ?_))
  intro fV iI w7 kN jT qK
  try simp only [Nat.zero_add, List.nil_append] at kN
  have dK : Below X.heap.size X w7 := hY.grown jT hY.size (fun k hk => (JC.lt k hk).1)
  have R7 := RX.new dK
  have c37 := R7.cell (j := 3) rfl
  have f37 := R7.frozen 3
  have l7 := R7.lt
  have hs7 := dK.size
  have uR := hide (R7.set 3 (.slice fV x.fds.length iI))
  have wT : Hid (w7.ownsRow X.heap.size 104 2 (.slice fV x.fds.length iI) x.fds.length (fv x.fds)) := kN
  have JD := hide (fD wT.out ⟨ge, 3, none⟩ (.slice fV x.fds.length iI) (fun e => by have := (wT.out.lt _ e).1; simp at this; omega))
  replace dA := hide ((dA.out.new dK).far ⟨ge, 3, none⟩ (.slice fV x.fds.length iI) (show ge ≠ w.heap.size by omega))
  replace aZ := hide ((aZ.out.new dK).far ⟨ge, 3, none⟩ (.slice fV x.fds.length iI) (show ge ≠ w.heap.size + 1 by omega))
  replace jq := hide ((jq.out.new dK).far ⟨ge, 3, none⟩ (.slice fV x.fds.length iI) (show ge ≠ w.heap.size + 2 by omega))
  replace HE := hide ((HE.out.new dK).far ⟨ge, 3, none⟩ (.slice fV x.fds.length iI) (.inr (show e9 ≤ ge by omega)))
  replace HI := hide ((HI.out.new dK).far ⟨ge, 3, none⟩ (.slice fV x.fds.length iI) (.inr (show i9 ≤ ge by omega)))
  replace HU := hide ((HU.out.new dK).far ⟨ge, 3, none⟩ (.slice fV x.fds.length iI) (.inr (show u9 ≤ ge by omega)))
  replace HF := hide ((HF.out.new dK).far ⟨ge, 3, none⟩ (.slice fV x.fds.length iI) (.inr (Nat.le_refl _)))
  replace HB := hide ((ah HB.out dK).setCell (p := ⟨ge, 3, none⟩) (show w.heap.size ≤ ge by omega) (.slice fV x.fds.length iI))
  have hs8 : ge + 1 ≤ (w7.setCell ⟨ge, 3, none⟩ (.slice fV x.fds.length iI)).heap.size := by simp; omega
  clear kN jT qK JC Qh hY wT rM RX x3 xf xl R7
  try rw [Nat.zero_add]
  go_upto_region 11 with fail
  clear c37 f37 l7 dK
  generalize w7.setCell ⟨ge, 3, none⟩ (.slice fV x.fds.length iI) = V at *
  have EG := ak 10 jq.out rfl
  have ol := jq.out.lt
  have hZ : Below V.heap.size V (V.alloc (.cells #[.int .i64 x.id, .int .i64 x.get, .int .i64 x.give, .slice fV x.fds.length iI, .int .i64 x.tun.up.r, .string x.tun.up.b, .bool x.tun.up.e, .bool x.tun.up.k, .int .i64 x.tun.dn.r, .string x.tun.dn.b, .bool x.tun.dn.e, .bool x.tun.dn.k, .int .i64 x.tun.went, .int .i64 x.tun.came, .bool x.ended] 92)) := (Below.refl _ _).alloc (Nat.le_refl _) _
  have RZ := aB V 92 [.int .i64 x.id, .int .i64 x.get, .int .i64 x.give, .slice fV x.fds.length iI, .int .i64 x.tun.up.r, .string x.tun.up.b, .bool x.tun.up.e, .bool x.tun.up.k, .int .i64 x.tun.dn.r, .string x.tun.dn.b, .bool x.tun.dn.e, .bool x.tun.dn.k, .int .i64 x.tun.went, .int .i64 x.tun.came, .bool x.ended]
  have Qi : Reads (V.alloc (.cells #[.int .i64 x.id, .int .i64 x.get, .int .i64 x.give, .slice fV x.fds.length iI, .int .i64 x.tun.up.r, .string x.tun.up.b, .bool x.tun.up.e, .bool x.tun.up.k, .int .i64 x.tun.dn.r, .string x.tun.dn.b, .bool x.tun.dn.e, .bool x.tun.dn.k, .int .i64 x.tun.went, .int .i64 x.tun.came, .bool x.ended] 92)) (.slice (some ⟨V.heap.size, 0, none⟩) 1 1) 1 15 [.int .i64 x.id, .int .i64 x.get, .int .i64 x.give, .slice fV x.fds.length iI, .int .i64 x.tun.up.r, .string x.tun.up.b, .bool x.tun.up.e, .bool x.tun.up.k, .int .i64 x.tun.dn.r, .string x.tun.dn.b, .bool x.tun.dn.e, .bool x.tun.dn.k, .int .i64 x.tun.went, .int .i64 x.tun.came, .bool x.ended] := ⟨by simp, _, _, rfl, Nat.le_refl _, by unfold maxLen; omega, fun _ => ⟨V.heap.size, 0, rfl, RZ.lt, fun r y hy => by simpa using RZ.cell hy⟩⟩
  have hone : ∀ y ∈ ([.int .i64 x.id, .int .i64 x.get, .int .i64 x.give, .slice fV x.fds.length iI, .int .i64 x.tun.up.r, .string x.tun.up.b, .bool x.tun.up.e, .bool x.tun.up.k, .int .i64 x.tun.dn.r, .string x.tun.dn.b, .bool x.tun.dn.e, .bool x.tun.dn.k, .int .i64 x.tun.went, .int .i64 x.tun.came, .bool x.ended] : List Value), y.oneCell' = true := by intro y hu; simp at hu; rcases hu with rfl | rfl | rfl | rfl | rfl | rfl | rfl | rfl | rfl | rfl | rfl | rfl | rfl | rfl | rfl <;> rfl
  have hlk : (fl.take k).length = k := by rw [List.length_take]; omega
  have BG := hZ.size
  obtain ⟨xs, JE, hgrow⟩ := (HF.out.new hZ).grow (by omega) (by omega)
  rw [hlk] at JE hgrow
  have hoe : kJ bF (V.alloc (.cells #[.int .i64 x.id, .int .i64 x.get, .int .i64 x.give, .slice fV x.fds.length iI, .int .i64 x.tun.up.r, .string x.tun.up.b, .bool x.tun.up.e, .bool x.tun.up.k, .int .i64 x.tun.dn.r, .string x.tun.dn.b, .bool x.tun.dn.e, .bool x.tun.dn.k, .int .i64 x.tun.went, .int .i64 x.tun.came, .bool x.ended] 92)) ge (V.alloc (.cells #[.int .i64 x.id, .int .i64 x.get, .int .i64 x.give, .slice fV x.fds.length iI, .int .i64 x.tun.up.r, .string x.tun.up.b, .bool x.tun.up.e, .bool x.tun.up.k, .int .i64 x.tun.dn.r, .string x.tun.dn.b, .bool x.tun.dn.e, .bool x.tun.dn.k, .int .i64 x.tun.went, .int .i64 x.tun.came, .bool x.ended] 92)).heap.size [.int .i64 x.id, .int .i64 x.get, .int .i64 x.give, .slice fV x.fds.length iI, .int .i64 x.tun.up.r, .string x.tun.up.b, .bool x.tun.up.e, .bool x.tun.up.k, .int .i64 x.tun.dn.r, .string x.tun.dn.b, .bool x.tun.dn.e, .bool x.tun.dn.k, .int .i64 x.tun.went, .int .i64 x.tun.came, .bool x.ended] x := by
   have h9 := zN (eG (aX JD.out hZ) (fun _ _ => Nat.zero_le _)) nu.out
   refine ⟨_, ⟨_, _, rfl, s0, s1, h9, rfl⟩, uh _, fun y hy => ⟨?_, h9.lt y hy⟩⟩
   cases hq : (Value.slice fV x.fds.length iI).ownBlock with
   | none => rw [hq] at hy; cases hy
   | some z => rw [hq] at hy; simp at hy; subst hy; have := (JD.out.lt y hq).1; omega
  have Qj := hide (fun w1 v' h1 h2 h3 => hgrow w1 v' _ x hoe h1 h2 h3)
  have zW : Hid (∀ q, (Value.slice ab k pb).ownBlock = some q → u9 ≤ q) := fun q hq => (HF.out.own q hq).1
  replace dA := hide (dA.out.new hZ); replace aZ := hide (aZ.out.new hZ); replace jq := hide (jq.out.new hZ)
  replace HE := hide (HE.out.new hZ); replace HI := hide (HI.out.new hZ); replace HU := hide (HU.out.new hZ)
  have JF := hide (ah HB.out hZ)
  clear hgrow hoe RZ HF JD HB hZ
  go_wp2_with (first | (refine wpList_load_row (by rfl) 92 _ (by rfl) ge (by rfl) [.int .i64 x.id, .int .i64 x.get, .int .i64 x.give, .slice fV x.fds.length iI, .int .i64 x.tun.up.r, .string x.tun.up.b, .bool x.tun.up.e, .bool x.tun.up.k, .int .i64 x.tun.dn.r, .string x.tun.dn.b, .bool x.tun.dn.e, .bool x.tun.dn.k, .int .i64 x.tun.went, .int .i64 x.tun.came, .bool x.ended] _ 92 uR.out Tryz.underlying92 rfl (by kernel_rfl) ?_) | (at_builtin; go_must (refine yC _ (by rfl) _ _ 38 (by rfl) 92 (.agg #[.int .i64 0, .int .i64 0, .int .i64 0, .slice none 0 0, .int .i64 0, .string ⟨#[]⟩, .bool false, .bool false, .int .i64 0, .string ⟨#[]⟩, .bool false, .bool false, .int .i64 0, .int .i64 0, .bool false]) 15 136 Tryz.underlying38 (by kernel_rfl) rfl (by decide) 0 _ k xs (by rfl) JE _ 1 _ (by rfl) Qi hone (by omega) (by decide) (Nat.zero_le _) ?_)))
  intro iw qO w9 kR ou om
  obtain ⟨U, hU⟩ : ∃ U, V.alloc (.cells #[.int .i64 x.id, .int .i64 x.get, .int .i64 x.give, .slice fV x.fds.length iI, .int .i64 x.tun.up.r, .string x.tun.up.b, .bool x.tun.up.e, .bool x.tun.up.k, .int .i64 x.tun.dn.r, .string x.tun.dn.b, .bool x.tun.dn.e, .bool x.tun.dn.k, .int .i64 x.tun.went, .int .i64 x.tun.came, .bool x.ended] 92) = U := ⟨_, rfl⟩
  have BH := hide (Qj.out w9 _ kR ou (om.imp id (fun h => by rw [h]; simp)))
  rw [hU] at dA aZ jq HE HI HU JF ou BG
  have kT : Turn u9 U.heap.size U w9 := ⟨ou.os, ou.tape, ou.output, ou.size, fun q hq hn => ou.block q hq (fun e => by have := zW.out q e.symm; omega)⟩
  have hsU : u9 ≤ U.heap.size := by omega
  have JG := hide (JF.out.grown ou (by omega) (fun q hq => by have := zW.out q hq; omega))
  rw [← fA.out] at BH
  replace dA := hide (dA.out.kept (kT.block _ dA.out.lt (by omega)))
  replace aZ := hide (aZ.out.kept (kT.block _ aZ.out.lt (by omega)))
  replace jq := hide (jq.out.kept (kT.block _ jq.out.lt (by omega)))
  replace HE := hide (HE.out.turn kT (.inl (by omega)))
  replace HI := hide (HI.out.turn kT (.inl (by omega)))
  replace HU := hide (HU.out.turn kT (.inl (by omega)))
  have Qk : u9 ≤ w9.heap.size := Nat.le_trans hsU kT.size
  clear kR ou om Qj JF zW JE Qi hone uR kT EG ol hU
  have EG := ak 10 jq.out rfl
  have of := fun j => aj.frozen jq.out j
  have ol := jq.out.lt
  have hsw : (w9.setCell ⟨w.heap.size + 2, 10, none⟩ (.slice iw (k + 1) qO)).heap.size = w9.heap.size := by simp
  replace dA := hide (dA.out.far ⟨w.heap.size + 2, 10, none⟩ (.slice iw (k + 1) qO) (show w.heap.size + 2 ≠ w.heap.size by omega))
  replace aZ := hide (aZ.out.far ⟨w.heap.size + 2, 10, none⟩ (.slice iw (k + 1) qO) (show w.heap.size + 2 ≠ w.heap.size + 1 by omega))
  have aaq := hide (jq.out.set 10 (.slice iw (k + 1) qO))
  replace HE := hide (HE.out.far ⟨w.heap.size + 2, 10, none⟩ (.slice iw (k + 1) qO) (.inl (show w.heap.size + 2 < w.heap.size + 3 by omega)))
  replace HI := hide (HI.out.far ⟨w.heap.size + 2, 10, none⟩ (.slice iw (k + 1) qO) (.inl (show w.heap.size + 2 < e9 by omega)))
  replace HU := hide (HU.out.far ⟨w.heap.size + 2, 10, none⟩ (.slice iw (k + 1) qO) (.inl (show w.heap.size + 2 < i9 by omega)))
  replace BH := hide (BH.out.far ⟨w.heap.size + 2, 10, none⟩ (.slice iw (k + 1) qO) (.inl (show w.heap.size + 2 < u9 by omega)))
  replace JG := hide (JG.out.setCell (p := ⟨w.heap.size + 2, 10, none⟩) (show w.heap.size ≤ w.heap.size + 2 by omega) (.slice iw (k + 1) qO))
  rw [← hsw] at BH Qk
  clear jq hsw
  go_wp2_with fail
  go_roundw
  case rel => exact ⟨k + 1, iw, qO, by go_num, by omega, dA, aZ, aaq, HE, HI, HU, BH, JG, Qk⟩
  case measure => simp [intOf]; omega
theorem BK {w w' : World} {g og base' : Nat} {ty : TypeId} (hty : ty ≠ 5) {A C : List Value} {fK : Nat → Prop} {room : Int} {L : List Fd} {ad : Option Addr} {cap : Nat} {E : ByteArray} (h : jL w g ty A C og fK room L) (hb : BytesAt w base' ad cap E) (hg : w.grownBy w' (Value.slice ad E.size cap).ownBlock) : jL w' g ty A C og fK room L := by
 obtain ⟨a, p, h1, h2, h3, h4⟩ := h.ex
 exact ⟨⟨a, p, h1.kept (hg.block g h1.lt (fun e => Ql hb h1.row hty e.symm)), gK h2 (fun k hk hlt => hg.block k hlt (fun e => aar hb h2 (by decide) k hk e.symm)), h3, h4⟩⟩
set_option maxRecDepth 100000 in
set_option maxHeartbeats 8000000 in
theorem EH (g og : Nat) (ty : TypeId) (hty : ty ≠ 5) (A C : List Value) (fK : Nat → Prop) (room : Int) (L l : List Fd) (lv : Value) (w : World) (h : jL w g ty A C og fK room L) (hok : bI room L = true) (Bw : ∀ f ∈ l, okF f = true) (hl20 : l.length ≤ 20) (hr1 : Reads w lv l.length 2 (fv l)) (Ij : 0 < l.length → ∀ k, lv.ownBlock = some k → k ≠ g) (yL : ∀ k, w.heap.size ≤ k → fK k) :
  Calls Tryz.prog 51 #[.pointer (some ⟨g, og, none⟩), lv] w fun x w' => x = .returned (.string (bA room L l).1) ∧ jL w' g ty A C og fK room (bA room L l).2 ∧ Turn g (g + 1) w w' := by
 have hgw := YB h
 have HT := hide h; have eD := hide hr1; have gL := hide Bw
 obtain ⟨la, lc, rfl, hlc, hlm, h3⟩ := hr1.2
 have H3 := hide h3
 have HLG := hide Ij
 unfold maxLen at hlm
 clear h hr1 h3 Bw Ij
 go_enter Tryz.func51, Tryz.ntmps51
 go_wp2_with fail
 go_loopw [5, 6] (fun bv i wr => ∃ (k : Nat) (ad : Option Addr) (cap : Nat), i = .int .i64 k ∧ k ≤ l.length ∧ bv = .slice ad (bA room L (l.take k)).1.size cap ∧ BytesAt wr w.heap.size ad cap (bA room L (l.take k)).1 ∧ jL wr g ty A C og fK room (bA room L (l.take k)).2 ∧ Turn g (g + 1) w wr) (fun _ i _ => l.length - (intOf i).toNat)
 case atStart => exact ⟨0, _, _, rfl, Nat.zero_le _, rfl, aas w, wV HT.out ((Below.refl _ _).alloc (Nat.le_refl _) _), (Turn.refl _ _ _).alloc _⟩
 case round =>
  obtain ⟨k, ad0, cap0, rfl, hk, rfl, yV, ht0, htu⟩ := hrel
  have oo := Ji (room := room) (l.take k) L
  rw [List.length_take, Nat.min_eq_left hk] at oo
  replace oo : (bA room L (l.take k)).1.size ≤ 10000 := by omega
  have oq := hide (xW (room := room) (l.take k) hok fun f hf => gL.out f (List.mem_of_mem_take hf))
  by_cases hlt : k < l.length
  ·have fA := hide (O4 (room := room) L l k hlt)
   have fT := gL.out _ (List.getElem_mem hlt)
   obtain ⟨b, o, rfl, hbb, hc⟩ := H3.out (by omega)
   obtain ⟨s0, s1⟩ := kK l k hlt
   have hbg := HLG.out (by omega) b rfl
   have C0 := hide (hc _ _ s0); have C1 := hide (hc _ _ s1)
   have c0 : wr.cell? ⟨b, o + k * 2, none⟩ = some (.string l[k].n) := by rw [htu.cell b (o + k * 2) hbb (by omega)]; exact hc _ _ s0
   have c1 : wr.cell? ⟨b, o + k * 2 + 1, none⟩ = some (.string l[k].v) := by rw [htu.cell b (o + k * 2 + 1) hbb (by omega)]; exact hc _ _ s1
   obtain ⟨f, bK⟩ : ∃ f, l[k] = f := ⟨_, rfl⟩
   rw [bK] at fA fT c0 c1 C0 C1
   clear bK
   obtain ⟨⟨es, N⟩, hE⟩ : ∃ E, bA room L (l.take k) = E := ⟨_, rfl⟩
   rw [hE] at fA oo oq yV ht0 ⊢
   simp only at fA oo oq yV ht0 ⊢
   have hNl := (mE oq.out).2.2.2.2
   obtain ⟨a, p, hx, ho, hap, _⟩ := ht0.ex
   have x0 := hx.cell0 rfl
   have x1 := hx.cell (j := 1) rfl
   have hlx := hx.lt
   have hlb : b < wr.heap.size := Nat.lt_of_lt_of_le hbb htu.size
   have dU := hide yV; have HT := hide ht0; have dh := hide htu; have HO := hide ho
   clear hc s0 s1 hx ho hap yV ht0 htu hE
   have Ev := Jh (room := room) (L := N) f
   obtain ⟨F, hF⟩ : ∃ F, bP room N f = F := ⟨_, rfl⟩
   have xA := hF
   unfold bP at xA
   have hlk := Hr N f
   obtain ⟨⟨n, al⟩, hD⟩ : ∃ D, bn N f = D := ⟨_, rfl⟩
   rw [hD] at xA hlk
   rw [hF] at fA Ev
   have EI := hide xA
   clear xA hF
   simp only at hlk
   obtain ⟨n0, n1⟩ := hlk
   have nb : n ≤ 111 := by omega
   have hsw := dh.out.size
   go_wp2_with fail
   have q0 : ∀ y : Later wr, y.w.cell? ⟨g, og, none⟩ = some (.int .i64 room) := fun y => (y.b.cell (p := ⟨g, og, none⟩) hlx).trans x0
   have q1 : ∀ y : Later wr, y.w.cell? ⟨g, og + 1, none⟩ = some (.slice a N.length p) := fun y => (y.b.cell (p := ⟨g, og + 1, none⟩) hlx).trans x1
   have q2 : ∀ y : Later wr, y.w.cell? ⟨b, o + k * 2, none⟩ = some (.string f.n) := fun y => (y.b.cell (p := ⟨b, o + k * 2, none⟩) hlb).trans c0
   have q3 : ∀ y : Later wr, y.w.cell? ⟨b, o + k * 2 + 1, none⟩ = some (.string f.v) := fun y => (y.b.cell (p := ⟨b, o + k * 2 + 1, none⟩) hlb).trans c1
   clear x0 x1
   have Qm : Hid (∀ u, Below wr.heap.size wr u → Calls Tryz.prog 81 #[.agg #[.int .i64 room, .slice a N.length p], .agg #[.string f.n, .string f.v]] u fun x w' => x = .returned (.tuple #[.int .i64 n, .bool al]) ∧ Below u.heap.size u w') := fun u hu => by
    have := Zd N room (.slice a N.length p) f u ((eP HO.out).new hu) hNl
    rw [hD] at this
    exact this
   have hne : Nonempty (Later wr) := ⟨⟨wr, Below.refl _ _⟩⟩; refine eH (by kernel_rfl) (by kernel_rfl) ?_
   repeat (go_big_quiet_step (fail))
   go_big_quiet_want; go_big_quiet_op; refine ⟨.tuple #[.int .i64 n, .bool al], fun y => gW (x := y) ((fun _ => Qm.out y.w y.b) y.w), ?_⟩; go_big_quiet_on
   repeat (go_big_quiet_step (fail))
   refine wpQuiet_nil ?_; intro _ hw'; obtain ⟨y, hw''⟩ := hw'; subst hw''; have hby := y.b
   clear q0 q1 q2 q3 hne Qm hD
   obtain ⟨w5, Qn⟩ : ∃ w5, y.w = w5 := ⟨_, rfl⟩
   rw [Qn] at hby ⊢
   clear Qn y
   replace dU := hide (yX dU.out hby); replace HT := hide (wV HT.out hby); replace dh := hide (dh.out.trans (iL hby _ _))
   clear c0 c1 hby HO
   cases al
   ·have EJ : Hid ((aY n 6 64 ++ ((if n = 0 then aU f.n else ⟨#[]⟩) ++ aU f.v), shr room (f :: N)) = F) := by show _ = _; simpa using EI.out
    clear EI
    have ok6 := D7 n0 nb
    have p1 := yS n 6 64
    have p2 := wP f.n
    have p3 := wP f.v
    obtain ⟨g1, g2, g3⟩ := qF fT
    have m1 : f.n.size ≤ maxLen := by unfold maxLen; omega
    have m2 : f.v.size ≤ maxLen := by unfold maxLen; omega
    have Qo : Hid (∀ u ∈ N, okF u = true) := (mE oq.out).2.2.1
    have hr0 := (mE oq.out).1
    go_wp2_with fail
    refine (Ar n 6 64 _ n0 (by omega) (by omega) (by omega) (by omega) (by simp [pw])).mono ?_; rw [Qp ok6]; rintro x w6 ⟨rfl, tF⟩
    replace dU := hide (yX dU.out tF); replace HT := hide (wV HT.out tF); replace dh := hide (dh.out.trans (iL tF _ _))
    clear tF
    go_wp2_with (at_builtin; refine BL _ rfl _ _ rfl w.heap.size ad0 cap0 (es) (aY n 6 64) rfl dU.out rfl (by omega) (by have := dh.out.size; omega) ?_)
    intro dN dO E1 w7 hE1 BM xB
    replace HT := hide (BK hty HT.out dU.out xB); replace dh := hide (BN dh.out dU.out (Nat.le_refl _) xB); replace dU := hide BM
    clear BM xB
    have aat : E1.size ≤ 10006 := by rw [hE1, iZ]; omega
    have tH := hide hE1
    clear hE1
    by_cases hn0 : n = 0
    ·subst hn0
     have c0 := (dh.out.cell b (o + k * 2) hbb (by omega)).trans C0.out
     have c1 := (dh.out.cell b (o + k * 2 + 1) hbb (by omega)).trans C1.out
     go_wp2_with fail
     refine (Ig f.n _ m1).mono ?_; rintro x w8 ⟨rfl, EK⟩
     replace dU := hide (yX dU.out EK); replace HT := hide (wV HT.out EK); replace dh := hide (dh.out.trans (iL EK _ _))
     clear EK
     go_wp2_with (at_builtin; refine BL _ rfl _ _ rfl w.heap.size dN dO (E1) (aU f.n) rfl dU.out rfl (by omega) (by have := dh.out.size; omega) ?_)
     intro JH cap2 E2 w9 hE2 Qq JI
     replace HT := hide (BK hty HT.out dU.out JI); replace dh := hide (BN dh.out dU.out (Nat.le_refl _) JI); replace dU := hide Qq
     clear Qq JI
     have aau : E2.size ≤ 10212 := by rw [hE2, iZ]; omega
     have HE2 := hide hE2
     clear hE2
     clear c0 c1
     have c0 := (dh.out.cell b (o + k * 2) hbb (by omega)).trans C0.out
     have c1 := (dh.out.cell b (o + k * 2 + 1) hbb (by omega)).trans C1.out
     go_wp2_with fail
     refine (Ig f.v _ m2).mono ?_; rintro x tY ⟨rfl, tJ⟩
     replace dU := hide (yX dU.out tJ); replace HT := hide (wV HT.out tJ); replace dh := hide (dh.out.trans (iL tJ _ _))
     clear tJ
     go_wp2_with (at_builtin; refine BL _ rfl _ _ rfl w.heap.size JH cap2 (E2) (aU f.v) rfl dU.out rfl (by omega) (by have := dh.out.size; omega) ?_)
     intro iP iQ E3 Fy JJ BO xC
     replace HT := hide (BK hty HT.out dU.out xC); replace dh := hide (BN dh.out dU.out (Nat.le_refl _) xC); replace dU := hide BO
     clear BO xC
     have hEz3 : E3.size ≤ 10418 := by rw [JJ, iZ]; omega
     have HE3 := hide JJ
     clear JJ
     clear c0 c1
     have c0 := (dh.out.cell b (o + k * 2) hbb (by omega)).trans C0.out
     have c1 := (dh.out.cell b (o + k * 2 + 1) hbb (by omega)).trans C1.out
     go_wp2_with fail
     refine (Ov g og ty A C fK room N f _ HT.out Qo.out fT hr0 (by omega) (fun q hq => yL q (by have := dh.out.size; omega))).mono ?_; rintro x Co ⟨rfl, BP, xD⟩
     have JK := hide BP
     replace dU : Hid (BytesAt Co _ _ _ _) := hide (Nc dU.out xD (fun q hq => by have := (dU.out.lt q hq).1; omega))
     replace dh := hide (dh.out.trans xD)
     clear BP xD HT c0 c1
     have HT := JK
     go_wp2_with fail
     go_roundw
     case rel =>
      refine ⟨k + 1, iP, iQ, by go_num, by omega, ?_⟩
      rw [fA.out.1, fA.out.2, ← EJ.out]
      have q : es ++ (aY 0 6 64 ++ (aU f.n ++ aU f.v)) = E3 := by rw [HE3.out, HE2.out, tH.out]; simp [nG]
      dsimp only; rw [if_pos trivial, q]
      exact ⟨rfl, dU.out, HT.out, dh.out⟩
     case measure => simp [intOf]; omega
    ·have hn1 : (n == 0) = false := by simp [hn0]
     have c0 := (dh.out.cell b (o + k * 2) hbb (by omega)).trans C0.out
     have c1 := (dh.out.cell b (o + k * 2 + 1) hbb (by omega)).trans C1.out
     go_wp2_with fail
     refine (Ig f.v _ m2).mono ?_; rintro x tY ⟨rfl, tJ⟩
     replace dU := hide (yX dU.out tJ); replace HT := hide (wV HT.out tJ); replace dh := hide (dh.out.trans (iL tJ _ _))
     clear tJ
     go_wp2_with (at_builtin; refine BL _ rfl _ _ rfl w.heap.size dN dO (E1) (aU f.v) rfl dU.out rfl (by omega) (by have := dh.out.size; omega) ?_)
     intro JH cap2 E2 Fy hE2 BO xC
     replace HT := hide (BK hty HT.out dU.out xC); replace dh := hide (BN dh.out dU.out (Nat.le_refl _) xC); replace dU := hide BO
     clear BO xC
     have aau : E2.size ≤ 10212 := by rw [hE2, iZ]; omega
     have HE2 := hide hE2
     clear hE2
     clear c0 c1
     have c0 := (dh.out.cell b (o + k * 2) hbb (by omega)).trans C0.out
     have c1 := (dh.out.cell b (o + k * 2 + 1) hbb (by omega)).trans C1.out
     go_wp2_with fail
     refine (Ov g og ty A C fK room N f _ HT.out Qo.out fT hr0 (by omega) (fun q hq => yL q (by have := dh.out.size; omega))).mono ?_; rintro x Co ⟨rfl, BP, xD⟩
     have JK := hide BP
     replace dU : Hid (BytesAt Co _ _ _ _) := hide (Nc dU.out xD (fun q hq => by have := (dU.out.lt q hq).1; omega))
     replace dh := hide (dh.out.trans xD)
     clear BP xD HT c0 c1
     have HT := JK
     go_wp2_with fail
     go_roundw
     case rel =>
      refine ⟨k + 1, JH, cap2, by go_num, by omega, ?_⟩
      rw [fA.out.1, fA.out.2, ← EJ.out]
      have q : es ++ (aY n 6 64 ++ ((if n = 0 then aU f.n else ⟨#[]⟩) ++ aU f.v)) = E2 := by rw [HE2.out, tH.out]; simp [hn0, Am, nG]
      dsimp only; rw [q]
      exact ⟨rfl, dU.out, HT.out, dh.out⟩
     case measure => simp [intOf]; omega
   ·have EJ : Hid ((aY n 7 128, N) = F) := by show _ = _; simpa using EI.out
    clear EI
    have ok7 := D6 n0 nb
    have p1 := yS n 7 128
    go_wp2_with fail
    refine (Ar n 7 128 _ n0 (by omega) (by omega) (by omega) (by omega) (by simp [pw])).mono ?_; rw [Qp ok7]; rintro x w6 ⟨rfl, tF⟩
    replace dU := hide (yX dU.out tF); replace HT := hide (wV HT.out tF); replace dh := hide (dh.out.trans (iL tF _ _))
    clear tF
    go_wp2_with (at_builtin; refine BL _ rfl _ _ rfl w.heap.size ad0 cap0 (es) (aY n 7 128) rfl dU.out rfl (by omega) (by have := dh.out.size; omega) ?_)
    intro dN dO E1 w7 hE1 BM xB
    replace HT := hide (BK hty HT.out dU.out xB); replace dh := hide (BN dh.out dU.out (Nat.le_refl _) xB); replace dU := hide BM
    clear BM xB
    have aat : E1.size ≤ 10006 := by rw [hE1, iZ]; omega
    have tH := hide hE1
    clear hE1
    go_wp2_with fail
    go_roundw
    case rel =>
     refine ⟨k + 1, dN, dO, by go_num, by omega, ?_⟩
     rw [fA.out.1, fA.out.2, ← EJ.out]
     dsimp only; rw [← tH.out]
     exact ⟨rfl, dU.out, HT.out, dh.out⟩
    case measure => simp [intOf]; omega
  ·obtain rfl : k = l.length := by omega
   rw [List.take_length] at yV ht0 ⊢
   have hcv := aav yV
   have HT := hide ht0; have dh := hide htu
   clear ht0 htu
   go_wp2_with fail
   go_ret
   exact ⟨rfl, HT.out, dh.out⟩
theorem JL (l : List Fd) : dZ l = (l.all okF && decide (l.length ≤ 20)) := by unfold dZ; first | rfl | simp [Bool.and_comm]
set_option maxHeartbeats 4000000 in
theorem aaw (f : aV) (e : aF) (v : Value) (w : World) (hr : aT bT w v f.fds) (h1 : f.tun.up.b.size ≤ maxLen) (h2 : f.tun.dn.b.size ≤ maxLen) :
  Calls Tryz.prog 93 #[.agg #[.int .i64 f.id, .int .i64 f.get, .int .i64 f.give, v, .int .i64 f.tun.up.r, .string f.tun.up.b, .bool f.tun.up.e, .bool f.tun.up.k, .int .i64 f.tun.dn.r, .string f.tun.dn.b, .bool f.tun.dn.e, .bool f.tun.dn.k, .int .i64 f.tun.went, .int .i64 f.tun.came, .bool f.ended], .agg #[.int .i64 e.id, .int .i64 e.state]] w fun x w' => x = .returned (.bool (gN f e)) ∧ Below w.heap.size w w' := by
 obtain ⟨ad, cap, rfl, q1, q2⟩ := hr.form
 have HR := hide hr
 clear hr
 by_cases c0 : f.id = e.id
 rotate_left
 ·have c0' : (f.id != e.id) = true := by simpa using c0
  have HN := hide (pz (f := f) (e := e) (fun h => c0 h.1))
  clear c0
  go_enter Tryz.func93, Tryz.ntmps93
  go_wp2_with fail
  go_ret
  exact ⟨by rw [HN.out]; rfl, (by repeat' (first | (with_reducible exact Below.refl _ _) | (with_reducible refine Below.drew ?_) | (with_reducible refine ay _ ?_) | (with_reducible refine aA ?_ _) | (refine ah ?_ (by with_reducible assumption)) | (with_reducible refine Below.setCell ?_ ?_ _) | go_size))⟩
 have c0' : (f.id != e.id) = false := by simpa using c0
 have oW := hide c0
 clear c0
 cases m0 : fP f.get
 ·have HN := hide (pz (f := f) (e := e) (fun h => by rw [m0] at h; simp at h))
  go_enter Tryz.func93, Tryz.ntmps93
  go_wp2_with fail
  refine (mK f.get _).mono ?_; rw [m0]; rintro e v0 ⟨rfl, hsame⟩; obtain rfl := hsame.symm; clear hsame
  go_wp2_with fail
  go_ret
  exact ⟨by rw [HN.out]; rfl, (by repeat' (first | (with_reducible exact Below.refl _ _) | (with_reducible refine Below.drew ?_) | (with_reducible refine ay _ ?_) | (with_reducible refine aA ?_ _) | (refine ah ?_ (by with_reducible assumption)) | (with_reducible refine Below.setCell ?_ ?_ _) | go_size))⟩
 cases m1 : fP f.give
 ·have HN := hide (pz (f := f) (e := e) (fun h => by rw [m1] at h; simp at h))
  go_enter Tryz.func93, Tryz.ntmps93
  go_wp2_with fail
  refine (mK f.get _).mono ?_; rw [m0]; rintro e v0 ⟨rfl, hsame⟩; obtain rfl := hsame.symm; clear hsame
  go_wp2_with fail
  refine (mK f.give _).mono ?_; rw [m1]; rintro e v1 ⟨rfl, hsame⟩; obtain rfl := hsame.symm; clear hsame
  go_wp2_with fail
  go_ret
  exact ⟨by rw [HN.out]; rfl, (by repeat' (first | (with_reducible exact Below.refl _ _) | (with_reducible refine Below.drew ?_) | (with_reducible refine ay _ ?_) | (with_reducible refine aA ?_ _) | (refine ah ?_ (by with_reducible assumption)) | (with_reducible refine Below.setCell ?_ ?_ _) | go_size))⟩
 by_cases m2 : f.fds.length ≤ 20
 rotate_left
 ·have HN := hide (pz (f := f) (e := e) (fun h => m2 (by have := h.2.2.2.1; rw [JL] at this; simp only [Bool.and_eq_true, decide_eq_true_eq] at this; exact this.2)))
  have m2' : ¬ (f.fds.length : Int) ≤ 20 := by omega
  clear m2
  go_enter Tryz.func93, Tryz.ntmps93
  go_wp2_with fail
  refine (mK f.get _).mono ?_; rw [m0]; rintro e v0 ⟨rfl, hsame⟩; obtain rfl := hsame.symm; clear hsame
  go_wp2_with fail
  refine (mK f.give _).mono ?_; rw [m1]; rintro e v1 ⟨rfl, hsame⟩; obtain rfl := hsame.symm; clear hsame
  go_wp2_with fail
  go_ret
  exact ⟨by rw [HN.out]; rfl, (by repeat' (first | (with_reducible exact Below.refl _ _) | (with_reducible refine Below.drew ?_) | (with_reducible refine ay _ ?_) | (with_reducible refine aA ?_ _) | (refine ah ?_ (by with_reducible assumption)) | (with_reducible refine Below.setCell ?_ ?_ _) | go_size))⟩
 have m2' : (f.fds.length : Int) ≤ 20 := by omega
 cases m3 : f.fds.all okF
 ·have HN := hide (pz (f := f) (e := e) (fun h => by have := h.2.2.2.1; rw [JL, m3] at this; simp at this))
  clear m2
  go_enter Tryz.func93, Tryz.ntmps93
  go_wp2_with fail
  refine (mK f.get _).mono ?_; rw [m0]; rintro e v0 ⟨rfl, hsame⟩; obtain rfl := hsame.symm; clear hsame
  go_wp2_with fail
  refine (mK f.give _).mono ?_; rw [m1]; rintro e v1 ⟨rfl, hsame⟩; obtain rfl := hsame.symm; clear hsame
  go_wp2_with fail
  refine (zZ f.fds _ _ (dM (HR.out.new (by repeat' (first | (with_reducible exact Below.refl _ _) | (with_reducible refine Below.drew ?_) | (with_reducible refine ay _ ?_) | (with_reducible refine aA ?_ _) | (refine ah ?_ (by with_reducible assumption)) | (with_reducible refine Below.setCell ?_ ?_ _) | go_size)))) (eu (HR.out.new (by repeat' (first | (with_reducible exact Below.refl _ _) | (with_reducible refine Below.drew ?_) | (with_reducible refine ay _ ?_) | (with_reducible refine aA ?_ _) | (refine ah ?_ (by with_reducible assumption)) | (with_reducible refine Below.setCell ?_ ?_ _) | go_size))))).mono ?_; rw [m3]; rintro x w3 ⟨rfl, hb3⟩
  have R3 := ((aB w 92 [.int .i64 f.id, .int .i64 f.get, .int .i64 f.give, .slice ad f.fds.length cap, .int .i64 f.tun.up.r, .string f.tun.up.b, .bool f.tun.up.e, .bool f.tun.up.k, .int .i64 f.tun.dn.r, .string f.tun.dn.b, .bool f.tun.dn.e, .bool f.tun.dn.k, .int .i64 f.tun.went, .int .i64 f.tun.came, .bool f.ended]).alloc (.cells #[.int .i64 e.id, .int .i64 e.state] 94)).new hb3
  have c4 := ak 4 R3 rfl
  have c5 := ak 5 R3 rfl
  have c6 := ak 6 R3 rfl
  have c7 := ak 7 R3 rfl
  have c8 := ak 8 R3 rfl
  have c9 := ak 9 R3 rfl
  have c10 := ak 10 R3 rfl
  have c11 := ak 11 R3 rfl
  have c12 := ak 12 R3 rfl
  have c13 := ak 13 R3 rfl
  clear R3
  go_wp2_with fail
  go_ret
  exact ⟨by rw [HN.out]; rfl, ah (by repeat' (first | (with_reducible exact Below.refl _ _) | (with_reducible refine Below.drew ?_) | (with_reducible refine ay _ ?_) | (with_reducible refine aA ?_ _) | (refine ah ?_ (by with_reducible assumption)) | (with_reducible refine Below.setCell ?_ ?_ _) | go_size)) hb3⟩
 have HS := hide (show dZ f.fds = true by rw [JL, m3, decide_eq_true m2]; rfl)
 clear m2
 cases m4 : jJ f.tun
 ·have HN := hide (pz (f := f) (e := e) (fun h => by rw [m4] at h; simp at h))
  go_enter Tryz.func93, Tryz.ntmps93
  go_wp2_with fail
  refine (mK f.get _).mono ?_; rw [m0]; rintro e v0 ⟨rfl, hsame⟩; obtain rfl := hsame.symm; clear hsame
  go_wp2_with fail
  refine (mK f.give _).mono ?_; rw [m1]; rintro e v1 ⟨rfl, hsame⟩; obtain rfl := hsame.symm; clear hsame
  go_wp2_with fail
  refine (zZ f.fds _ _ (dM (HR.out.new (by repeat' (first | (with_reducible exact Below.refl _ _) | (with_reducible refine Below.drew ?_) | (with_reducible refine ay _ ?_) | (with_reducible refine aA ?_ _) | (refine ah ?_ (by with_reducible assumption)) | (with_reducible refine Below.setCell ?_ ?_ _) | go_size)))) (eu (HR.out.new (by repeat' (first | (with_reducible exact Below.refl _ _) | (with_reducible refine Below.drew ?_) | (with_reducible refine ay _ ?_) | (with_reducible refine aA ?_ _) | (refine ah ?_ (by with_reducible assumption)) | (with_reducible refine Below.setCell ?_ ?_ _) | go_size))))).mono ?_; rw [m3]; rintro x w3 ⟨rfl, hb3⟩
  have R3 := ((aB w 92 [.int .i64 f.id, .int .i64 f.get, .int .i64 f.give, .slice ad f.fds.length cap, .int .i64 f.tun.up.r, .string f.tun.up.b, .bool f.tun.up.e, .bool f.tun.up.k, .int .i64 f.tun.dn.r, .string f.tun.dn.b, .bool f.tun.dn.e, .bool f.tun.dn.k, .int .i64 f.tun.went, .int .i64 f.tun.came, .bool f.ended]).alloc (.cells #[.int .i64 e.id, .int .i64 e.state] 94)).new hb3
  have c4 := ak 4 R3 rfl
  have c5 := ak 5 R3 rfl
  have c6 := ak 6 R3 rfl
  have c7 := ak 7 R3 rfl
  have c8 := ak 8 R3 rfl
  have c9 := ak 9 R3 rfl
  have c10 := ak 10 R3 rfl
  have c11 := ak 11 R3 rfl
  have c12 := ak 12 R3 rfl
  have c13 := ak 13 R3 rfl
  clear R3
  go_wp2_with fail
  refine (NH f.tun _ h1 h2).mono ?_; rw [m4]; rintro x w4 ⟨rfl, hb4⟩
  go_wp2_with fail
  go_ret
  exact ⟨by rw [HN.out]; rfl, ah (ah (by repeat' (first | (with_reducible exact Below.refl _ _) | (with_reducible refine Below.drew ?_) | (with_reducible refine ay _ ?_) | (with_reducible refine aA ?_ _) | (refine ah ?_ (by with_reducible assumption)) | (with_reducible refine Below.setCell ?_ ?_ _) | go_size)) hb3) hb4⟩
 have HY := hide (Qr oW.out m0 m1 HS.out m4)
 go_enter Tryz.func93, Tryz.ntmps93
 go_wp2_with fail
 refine (mK f.get _).mono ?_; rw [m0]; rintro e v0 ⟨rfl, hsame⟩; obtain rfl := hsame.symm; clear hsame
 go_wp2_with fail
 refine (mK f.give _).mono ?_; rw [m1]; rintro e v1 ⟨rfl, hsame⟩; obtain rfl := hsame.symm; clear hsame
 go_wp2_with fail
 refine (zZ f.fds _ _ (dM (HR.out.new (by repeat' (first | (with_reducible exact Below.refl _ _) | (with_reducible refine Below.drew ?_) | (with_reducible refine ay _ ?_) | (with_reducible refine aA ?_ _) | (refine ah ?_ (by with_reducible assumption)) | (with_reducible refine Below.setCell ?_ ?_ _) | go_size)))) (eu (HR.out.new (by repeat' (first | (with_reducible exact Below.refl _ _) | (with_reducible refine Below.drew ?_) | (with_reducible refine ay _ ?_) | (with_reducible refine aA ?_ _) | (refine ah ?_ (by with_reducible assumption)) | (with_reducible refine Below.setCell ?_ ?_ _) | go_size))))).mono ?_; rw [m3]; rintro x w3 ⟨rfl, hb3⟩
 have R3 := ((aB w 92 [.int .i64 f.id, .int .i64 f.get, .int .i64 f.give, .slice ad f.fds.length cap, .int .i64 f.tun.up.r, .string f.tun.up.b, .bool f.tun.up.e, .bool f.tun.up.k, .int .i64 f.tun.dn.r, .string f.tun.dn.b, .bool f.tun.dn.e, .bool f.tun.dn.k, .int .i64 f.tun.went, .int .i64 f.tun.came, .bool f.ended]).alloc (.cells #[.int .i64 e.id, .int .i64 e.state] 94)).new hb3
 have c4 := ak 4 R3 rfl
 have c5 := ak 5 R3 rfl
 have c6 := ak 6 R3 rfl
 have c7 := ak 7 R3 rfl
 have c8 := ak 8 R3 rfl
 have c9 := ak 9 R3 rfl
 have c10 := ak 10 R3 rfl
 have c11 := ak 11 R3 rfl
 have c12 := ak 12 R3 rfl
 have c13 := ak 13 R3 rfl
 clear R3
 go_wp2_with fail
 refine (NH f.tun _ h1 h2).mono ?_; rw [m4]; rintro x w4 ⟨rfl, hb4⟩
 go_wp2_with fail
 go_ret
 exact ⟨by rw [HY.out]; rfl, ah (ah (by repeat' (first | (with_reducible exact Below.refl _ _) | (with_reducible refine Below.drew ?_) | (with_reducible refine ay _ ?_) | (with_reducible refine aA ?_ _) | (refine ah ?_ (by with_reducible assumption)) | (with_reducible refine Below.setCell ?_ ?_ _) | go_size)) hb3) hb4⟩
set_option maxHeartbeats 4000000 in
theorem aax (F : List aV) (E : List aF) (vf ve : Value) (w : World) (hf : aT bF w vf F) (he : aT bE w ve E) :
  Calls Tryz.prog 92 #[vf, ve, .func (.func 93) #[] #[]] w fun x w' => x = .returned (.bool (eX F E)) ∧ Below w.heap.size w w' := by
 obtain ⟨af, cf, rfl, f1, f2⟩ := hf.form
 obtain ⟨ae, ce, rfl, e1, e2⟩ := he.form
 have HF := hide hf; have HE := hide he
 clear hf he
 obtain ⟨A, hA⟩ : ∃ A, eX F E = A := ⟨_, rfl⟩
 rw [hA]
 by_cases hl : F.length = E.length
 rotate_left
 ·have hl' : ((F.length : Int) != E.length) = true := by simpa using fun c : (F.length : Int) = E.length => hl (by omega)
  have HN : Hid (A = false) := by
   show A = false
   rw [← hA]
   cases q : eX F E
   ·rfl
   ·exact absurd (Dj q) hl
  clear hl hA
  go_enter Tryz.func92, Tryz.ntmps92
  go_wp2_with fail
  go_ret
  exact ⟨by rw [HN.out]; rfl, (by repeat' (first | (with_reducible exact Below.refl _ _) | (with_reducible refine Below.drew ?_) | (with_reducible refine ay _ ?_) | (with_reducible refine aA ?_ _) | (refine ah ?_ (by with_reducible assumption)) | (with_reducible refine Below.setCell ?_ ?_ _) | go_size))⟩
 have hl' : ((F.length : Int) != E.length) = false := by simpa using (show (F.length : Int) = E.length by omega)
 have HL := hide hl
 have hle : F.length ≤ E.length := by omega
 have HA := hide hA
 clear hl hA
 go_enter Tryz.func92, Tryz.ntmps92
 go_wp2_with fail
 go_loopw [17] (fun i wr => ∃ (k : Nat), i = .int .i64 k ∧ k ≤ F.length ∧ Hid (∀ j (h : j < F.length) (h' : j < E.length), j < k → gN F[j] E[j] = true) ∧ Hid (Below w.heap.size w wr)) (fun i _ => F.length - (intOf i).toNat)
 case atStart => exact ⟨0, rfl, Nat.zero_le _, fun j _ _ hj => absurd hj (Nat.not_lt_zero _), Below.refl _ _⟩
 case round =>
  obtain ⟨k, rfl, hk, HN, HB⟩ := hrel
  by_cases hlt : k < F.length
  ·have BQ : k < E.length := by omega
   obtain ⟨b, o, cs, rfl, hbw, hrd, hc⟩ := (HF.out.new HB.out).at k hlt
   obtain ⟨be, oe, cse, rfl, hbe, hre, hce⟩ := (HE.out.new HB.out).at k BQ
   have EL : Hid (gN F[k] E[k] = false → A = false) := fun h => HA.out.symm.trans (Qs hlt BQ h)
   have EM : Hid (gN F[k] E[k] = true → ∀ j (h : j < F.length) (h' : j < E.length), j < k + 1 → gN F[j] E[j] = true) := fun h j h1 h2 hj => by
    by_cases e : j = k
    ·subst e; exact h
    ·exact HN.out j h1 h2 (by omega)
   obtain ⟨f, bK⟩ : ∃ f, F[k] = f := ⟨_, rfl⟩
   obtain ⟨e, hee⟩ : ∃ e, E[k] = e := ⟨_, rfl⟩
   rw [bK, hee] at EL EM
   rw [bK] at hrd
   rw [hee] at hre
   clear bK hee HN
   obtain ⟨vq, rfl, s0, s1, lF⟩ := hrd
   obtain ⟨aq, pq, rfl, _⟩ := lF.form
   obtain rfl := hre
   have jV := hide lF
   clear lF
   have BU : wr.cell? ⟨be, oe + k * 2, none⟩ = some (.int .i64 e.id) := hce 0 _ rfl
   have Qt : wr.cell? ⟨be, oe + k * 2 + 1, none⟩ = some (.int .i64 e.state) := hce 1 _ rfl
   have c0 : wr.cell? ⟨b, o + k * 15, none⟩ = some (.int .i64 f.id) := hc 0 _ rfl
   have c1 : wr.cell? ⟨b, o + k * 15 + 1, none⟩ = some (.int .i64 f.get) := hc 1 _ rfl
   have c2 : wr.cell? ⟨b, o + k * 15 + 2, none⟩ = some (.int .i64 f.give) := hc 2 _ rfl
   have c3 : wr.cell? ⟨b, o + k * 15 + 3, none⟩ = some (.slice aq f.fds.length pq) := hc 3 _ rfl
   have c4 : wr.cell? ⟨b, o + k * 15 + 4, none⟩ = some (.int .i64 f.tun.up.r) := hc 4 _ rfl
   have c5 : wr.cell? ⟨b, o + k * 15 + 5, none⟩ = some (.string f.tun.up.b) := hc 5 _ rfl
   have c6 : wr.cell? ⟨b, o + k * 15 + 6, none⟩ = some (.bool f.tun.up.e) := hc 6 _ rfl
   have c7 : wr.cell? ⟨b, o + k * 15 + 7, none⟩ = some (.bool f.tun.up.k) := hc 7 _ rfl
   have c8 : wr.cell? ⟨b, o + k * 15 + 8, none⟩ = some (.int .i64 f.tun.dn.r) := hc 8 _ rfl
   have c9 : wr.cell? ⟨b, o + k * 15 + 9, none⟩ = some (.string f.tun.dn.b) := hc 9 _ rfl
   have c10 : wr.cell? ⟨b, o + k * 15 + 10, none⟩ = some (.bool f.tun.dn.e) := hc 10 _ rfl
   have c11 : wr.cell? ⟨b, o + k * 15 + 11, none⟩ = some (.bool f.tun.dn.k) := hc 11 _ rfl
   have c12 : wr.cell? ⟨b, o + k * 15 + 12, none⟩ = some (.int .i64 f.tun.went) := hc 12 _ rfl
   have c13 : wr.cell? ⟨b, o + k * 15 + 13, none⟩ = some (.int .i64 f.tun.came) := hc 13 _ rfl
   have c14 : wr.cell? ⟨b, o + k * 15 + 14, none⟩ = some (.bool f.ended) := hc 14 _ rfl
   clear hc hce
   have yN : (k : Int) < E.length := by omega
   have hX : Below wr.heap.size wr ((wr.alloc (.cells #[.int .i64 0, .int .i64 0, .int .i64 0, .slice none 0 0, .int .i64 0, .string ⟨#[]⟩, .bool false, .bool false, .int .i64 0, .string ⟨#[]⟩, .bool false, .bool false, .int .i64 0, .int .i64 0, .bool false] 92)).setRow wr.heap.size #[.int .i64 f.id, .int .i64 f.get, .int .i64 f.give, .slice aq f.fds.length pq, .int .i64 f.tun.up.r, .string f.tun.up.b, .bool f.tun.up.e, .bool f.tun.up.k, .int .i64 f.tun.dn.r, .string f.tun.dn.b, .bool f.tun.dn.e, .bool f.tun.dn.k, .int .i64 f.tun.went, .int .i64 f.tun.came, .bool f.ended]) := below_setRow ((Below.refl _ _).alloc (Nat.le_refl _) _) (Nat.le_refl _) #[.int .i64 f.id, .int .i64 f.get, .int .i64 f.give, .slice aq f.fds.length pq, .int .i64 f.tun.up.r, .string f.tun.up.b, .bool f.tun.up.e, .bool f.tun.up.k, .int .i64 f.tun.dn.r, .string f.tun.dn.b, .bool f.tun.dn.e, .bool f.tun.dn.k, .int .i64 f.tun.went, .int .i64 f.tun.came, .bool f.ended]
   have RX : aj ((wr.alloc (.cells #[.int .i64 0, .int .i64 0, .int .i64 0, .slice none 0 0, .int .i64 0, .string ⟨#[]⟩, .bool false, .bool false, .int .i64 0, .string ⟨#[]⟩, .bool false, .bool false, .int .i64 0, .int .i64 0, .bool false] 92)).setRow wr.heap.size #[.int .i64 f.id, .int .i64 f.get, .int .i64 f.give, .slice aq f.fds.length pq, .int .i64 f.tun.up.r, .string f.tun.up.b, .bool f.tun.up.e, .bool f.tun.up.k, .int .i64 f.tun.dn.r, .string f.tun.dn.b, .bool f.tun.dn.e, .bool f.tun.dn.k, .int .i64 f.tun.went, .int .i64 f.tun.came, .bool f.ended]) wr.heap.size 92 [.int .i64 f.id, .int .i64 f.get, .int .i64 f.give, .slice aq f.fds.length pq, .int .i64 f.tun.up.r, .string f.tun.up.b, .bool f.tun.up.e, .bool f.tun.up.k, .int .i64 f.tun.dn.r, .string f.tun.dn.b, .bool f.tun.dn.e, .bool f.tun.dn.k, .int .i64 f.tun.went, .int .i64 f.tun.came, .bool f.ended] := dW (aB wr 92 [.int .i64 0, .int .i64 0, .int .i64 0, .slice none 0 0, .int .i64 0, .string ⟨#[]⟩, .bool false, .bool false, .int .i64 0, .string ⟨#[]⟩, .bool false, .bool false, .int .i64 0, .int .i64 0, .bool false])
   have ceX := (hX.cell (p := ⟨be, oe + k * 2, none⟩) hbe).trans BU
   have ceY := (hX.cell (p := ⟨be, oe + k * 2 + 1, none⟩) hbe).trans Qt
   have aay : be < ((wr.alloc (.cells #[.int .i64 0, .int .i64 0, .int .i64 0, .slice none 0 0, .int .i64 0, .string ⟨#[]⟩, .bool false, .bool false, .int .i64 0, .string ⟨#[]⟩, .bool false, .bool false, .int .i64 0, .int .i64 0, .bool false] 92)).setRow wr.heap.size #[.int .i64 f.id, .int .i64 f.get, .int .i64 f.give, .slice aq f.fds.length pq, .int .i64 f.tun.up.r, .string f.tun.up.b, .bool f.tun.up.e, .bool f.tun.up.k, .int .i64 f.tun.dn.r, .string f.tun.dn.b, .bool f.tun.dn.e, .bool f.tun.dn.k, .int .i64 f.tun.went, .int .i64 f.tun.came, .bool f.ended]).heap.size := Nat.lt_of_lt_of_le hbe hX.size
   go_upto_region 6 with (refine wpList_store_row (by rfl) 92 _ _ (by rfl) wr.heap.size [.int .i64 f.id, .int .i64 f.get, .int .i64 f.give, .slice aq f.fds.length pq, .int .i64 f.tun.up.r, .string f.tun.up.b, .bool f.tun.up.e, .bool f.tun.up.k, .int .i64 f.tun.dn.r, .string f.tun.dn.b, .bool f.tun.dn.e, .bool f.tun.dn.k, .int .i64 f.tun.went, .int .i64 f.tun.came, .bool f.ended] (by rfl) (by rfl) 92 [.int .i64 0, .int .i64 0, .int .i64 0, .slice none 0 0, .int .i64 0, .string ⟨#[]⟩, .bool false, .bool false, .int .i64 0, .string ⟨#[]⟩, .bool false, .bool false, .int .i64 0, .int .i64 0, .bool false] (aB wr 92 [.int .i64 0, .int .i64 0, .int .i64 0, .slice none 0 0, .int .i64 0, .string ⟨#[]⟩, .bool false, .bool false, .int .i64 0, .string ⟨#[]⟩, .bool false, .bool false, .int .i64 0, .int .i64 0, .bool false]) (by kernel_rfl) rfl (by intro u hu; simp at hu; rcases hu with rfl | rfl | rfl | rfl | rfl | rfl | rfl | rfl | rfl | rfl | rfl | rfl | rfl | rfl | rfl <;> rfl) ?_)
   replace jV := hide (jV.out.new hX)
   replace HB := hide (ah HB.out hX)
   clear hX BU Qt c0 c1 c2 c3 c4 c5 c6 c7 c8 c9 c10 c11 c12 c13 c14
   generalize (wr.alloc (.cells #[.int .i64 0, .int .i64 0, .int .i64 0, .slice none 0 0, .int .i64 0, .string ⟨#[]⟩, .bool false, .bool false, .int .i64 0, .string ⟨#[]⟩, .bool false, .bool false, .int .i64 0, .int .i64 0, .bool false] 92)).setRow wr.heap.size #[.int .i64 f.id, .int .i64 f.get, .int .i64 f.give, .slice aq f.fds.length pq, .int .i64 f.tun.up.r, .string f.tun.up.b, .bool f.tun.up.e, .bool f.tun.up.k, .int .i64 f.tun.dn.r, .string f.tun.dn.b, .bool f.tun.dn.e, .bool f.tun.dn.k, .int .i64 f.tun.went, .int .i64 f.tun.came, .bool f.ended] = V at *
   generalize wr.heap.size = gy at *
   try simp only [Act.put, aI, aJ, aK, aL, aM, aN]
   have aP : Below V.heap.size V (V.alloc (.cells #[.int .i64 e.id, .int .i64 e.state] 94)) := (Below.refl _ _).alloc (Nat.le_refl _) _
   have gV := hide (RX.new aP)
   replace jV := hide (jV.out.new aP)
   replace HB := hide (ah HB.out aP)
   have re0 := ak 0 (aB V 94 [.int .i64 e.id, .int .i64 e.state]) rfl
   have re1 := ak 1 (aB V 94 [.int .i64 e.id, .int .i64 e.state]) rfl
   clear RX aP
   go_upto_region 7 with fail
   clear ceX ceY aay
   generalize V.alloc (.cells #[.int .i64 e.id, .int .i64 e.state] 94) = X at *
   generalize V.heap.size = gz at *
   go_wp2_with (refine wpList_load_row (by rfl) 92 _ (by rfl) gy (by rfl) [.int .i64 f.id, .int .i64 f.get, .int .i64 f.give, .slice aq f.fds.length pq, .int .i64 f.tun.up.r, .string f.tun.up.b, .bool f.tun.up.e, .bool f.tun.up.k, .int .i64 f.tun.dn.r, .string f.tun.dn.b, .bool f.tun.dn.e, .bool f.tun.dn.k, .int .i64 f.tun.went, .int .i64 f.tun.came, .bool f.ended] _ 92 gV.out Tryz.underlying92 rfl (by kernel_rfl) ?_)
   refine (aaw f e _ _ jV.out s0 s1).mono ?_; rintro z w5 ⟨rfl, hb5⟩
   replace HB := hide (ah HB.out hb5)
   clear hb5 gV jV re0 re1
   cases hq : gN f e
   ·have xw := hide (EL.out hq)
    clear hq EL EM
    go_wp2_with fail
    go_ret
    exact ⟨by rw [xw.out]; rfl, HB.out⟩
   ·have HN := hide (EM.out hq)
    clear hq EL EM
    go_wp2_with fail
    go_roundw
    case rel => exact ⟨k + 1, by go_num, by omega, HN, HB⟩
    case measure => simp [intOf]; omega
  ·have F6 : Hid (A = true) := HA.out.symm.trans (Gi HL.out fun j h h' => HN.out j h h' (by omega))
   have hge : ¬ (k : Int) < F.length := by omega
   go_wp2_with fail
   go_ret
   exact ⟨by rw [F6.out]; rfl, HB.out⟩
set_option maxHeartbeats 8000000 in
theorem Qu (d : aH) (ve vi vo vf : Value) (w : World) (hv : je w d ve vi vo vf) : Calls Tryz.prog 57 #[bH d ve vi vo vf] w fun x w' => x = .returned (.bool (dV d)) ∧ Below w.heap.size w w' := by
 dsimp only [bH] at *
 have HV := hide hv
 clear hv
 obtain ⟨ae, pe, rfl, _⟩ := HV.out.e.form
 obtain ⟨ai, pi, rfl, _⟩ := HV.out.i.form
 obtain ⟨ao, po, rfl, _⟩ := HV.out.o.form
 obtain ⟨af, pf, rfl, _⟩ := HV.out.f.form
 have hin : aQ d.first 0 16777215 = (fP d.first && !decide (d.first < 0)) := by
  rw [Bool.eq_iff_iff]
  unfold fP aQ
  simp
  omega
 obtain ⟨V, hV⟩ : ∃ V, w.alloc (.cells #[.int .i64 d.reg.lim, .int .i64 d.reg.top, .slice ae d.reg.es.length pe, .int .i64 d.inr, .slice ai d.inT.length pi, .int .i64 d.au, .slice ao d.outT.length po, .int .i64 d.get, .int .i64 d.give, .int .i64 d.first, .slice af d.flows.length pf, .bool d.away, .bool d.dead] 40) = V := ⟨_, rfl⟩
 have HB : Below w.heap.size w V := by rw [← hV]; exact (Below.refl _ _).alloc (Nat.le_refl _) _
 have RX : aj V w.heap.size 40 [.int .i64 d.reg.lim, .int .i64 d.reg.top, .slice ae d.reg.es.length pe, .int .i64 d.inr, .slice ai d.inT.length pi, .int .i64 d.au, .slice ao d.outT.length po, .int .i64 d.get, .int .i64 d.give, .int .i64 d.first, .slice af d.flows.length pf, .bool d.away, .bool d.dead] := by rw [← hV]; exact aB w 40 _
 have gV := hide RX
 have x7 := ak 7 RX rfl
 have x8 := ak 8 RX rfl
 have x9 := ak 9 RX rfl
 clear RX
 go_enter Tryz.func57, Tryz.ntmps57
 go_wp2_with fail
 try rw [hV]
 clear hV
 refine (mK d.get _).mono ?_; rintro e v3 ⟨rfl, hsame⟩; obtain rfl := hsame.symm; clear hsame
 cases k4 : fP d.get
 ·have HN := hide (mq (c := d) (fun h => by rw [k4] at h; simp at h))
  go_wp2_with fail
  go_ret
  exact ⟨by rw [HN.out]; rfl, HB⟩
 go_wp2_with fail
 refine (mK d.give _).mono ?_; rintro e v4 ⟨rfl, hsame⟩; obtain rfl := hsame.symm; clear hsame
 cases k5 : fP d.give
 ·have HN := hide (mq (c := d) (fun h => by rw [k5] at h; simp at h))
  go_wp2_with fail
  go_ret
  exact ⟨by rw [HN.out]; rfl, HB⟩
 go_wp2_with fail
 refine (mK d.first _).mono ?_; rintro e v5 ⟨rfl, hsame⟩; obtain rfl := hsame.symm; clear hsame
 cases k6 : fP d.first
 ·have HN := hide (mq (c := d) (fun h => by rw [hin, k6] at h; simp at h))
  go_wp2_with fail
  go_ret
  exact ⟨by rw [HN.out]; rfl, HB⟩
 by_cases k7 : d.first < 0
 ·have HN := hide (mq (c := d) (fun h => by rw [hin, decide_eq_true k7] at h; simp at h))
  go_wp2_with fail
  go_ret
  exact ⟨by rw [HN.out]; rfl, HB⟩
 have HIN := hide (show aQ d.first 0 16777215 = true by rw [hin, k6, decide_eq_false k7]; rfl)
 obtain ⟨x0, x1, x2⟩ := jZ gV.out
 go_wp2_with fail
 refine (aaz d.reg _ _ (HV.out.e.new HB)).mono ?_; rintro x u0 ⟨rfl, hb⟩
 replace gV := hide (gV.out.new hb)
 replace HB := ah HB hb
 clear hb x0 x1 x2 x7 x8 x9
 cases k1 : fE d.reg
 ·have HN := hide (mq (c := d) (fun h => by rw [k1] at h; simp at h))
  go_wp2_with fail
  go_ret
  exact ⟨by rw [HN.out]; rfl, HB⟩
 have x3 := ak 3 gV.out rfl
 have x4 := ak 4 gV.out rfl
 go_wp2_with fail
 refine (IW d.inT d.inr _ _ (dM (HV.out.i.new HB)) (eu (HV.out.i.new HB))).mono ?_; rintro x u1 ⟨rfl, hb⟩
 replace gV := hide (gV.out.new hb)
 replace HB := ah HB hb
 clear hb x3 x4
 cases k2 : bI d.inr d.inT
 ·have HN := hide (mq (c := d) (fun h => by rw [k2] at h; simp at h))
  go_wp2_with fail
  go_ret
  exact ⟨by rw [HN.out]; rfl, HB⟩
 have x5 := ak 5 gV.out rfl
 have x6 := ak 6 gV.out rfl
 go_wp2_with fail
 refine (IW d.outT d.au _ _ (dM (HV.out.o.new HB)) (eu (HV.out.o.new HB))).mono ?_; rintro x u2 ⟨rfl, hb⟩
 replace gV := hide (gV.out.new hb)
 replace HB := ah HB hb
 clear hb x5 x6
 cases k3 : bI d.au d.outT
 ·have HN := hide (mq (c := d) (fun h => by rw [k3] at h; simp at h))
  go_wp2_with fail
  go_ret
  exact ⟨by rw [HN.out]; rfl, HB⟩
 have HC : Hid (dV d = eX d.flows d.reg.es) := by
  show dV d = _
  unfold dV
  rw [k1, k2, k3, k4, k5, HIN.out]; rfl
 have x10 := ak 10 gV.out rfl
 have x2 := ak 2 gV.out rfl
 clear k1 k2 k3 k4 k5 k6 k7 hin
 go_wp2_with fail
 refine (aax d.flows d.reg.es _ _ _ (HV.out.f.new HB) (HV.out.e.new HB)).mono ?_; rintro x u3 ⟨rfl, hb⟩
 have HB2 := hide (ah HB hb)
 clear hb
 go_wp2_with fail
 go_ret
 exact ⟨by rw [HC.out]; rfl, HB2.out⟩
end Go.Proofs.YtlpbnkideaojeaaGreatDoor
