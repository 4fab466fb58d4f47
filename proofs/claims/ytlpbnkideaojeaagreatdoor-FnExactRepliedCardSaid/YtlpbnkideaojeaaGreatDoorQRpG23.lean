/- Lemmas. -/
import Derived.Test.YtlpbnkideaojeaaGreatDoorQRpG22
import Derived.Deep.DeepMust
namespace Go.Proofs.YtlpbnkideaojeaaGreatDoor
open Go.RowKit
set_option maxRecDepth 100000
set_option linter.unusedSimpArgs false
set_option linter.unusedVariables false
abbrev vZ (d : aH) (ve vi vo vf : Value) : List Value := [.int .i64 d.reg.lim, .int .i64 d.reg.top, ve, .int .i64 d.inr, vi, .int .i64 d.au, vo, .int .i64 d.get, .int .i64 d.give, .int .i64 d.first, vf, .bool d.away, .bool d.dead]
abbrev bH (d : aH) (ve vi vo vf : Value) : Value := .agg #[.int .i64 d.reg.lim, .int .i64 d.reg.top, ve, .int .i64 d.inr, vi, .int .i64 d.au, vo, .int .i64 d.get, .int .i64 d.give, .int .i64 d.first, vf, .bool d.away, .bool d.dead]
structure je (w : World) (d : aH) (ve vi vo vf : Value) : Prop where
 e : aT bE w ve d.reg.es
 i : aT bT w vi d.inT
 o : aT bT w vo d.outT
 f : aT bF w vf d.flows
theorem je.new {w w' : World} {d : aH} {ve vi vo vf : Value} (h : je w d ve vi vo vf) (hb : Below w.heap.size w w') : je w' d ve vi vo vf := ⟨h.e.new hb, h.i.new hb, h.o.new hb, h.f.new hb⟩
structure dY (w : World) (bs : List Nat) (d : aH) (ve vi vo vf : Value) : Prop where
 ex : ∃ be bi bo bf, aW bE w ve d.reg.es be ∧ aW bT w vi d.inT bi ∧ aW bT w vo d.outT bo ∧ aW bF w vf d.flows bf ∧ bs = be ++ bi ++ bo ++ bf
 nd : bs.Nodup
theorem dY.rd {w : World} {bs : List Nat} {d : aH} {ve vi vo vf : Value} (h : dY w bs d ve vi vo vf) : je w d ve vi vo vf := by
 obtain ⟨⟨be, bi, bo, bf, h1, h2, h3, h4, _⟩, _⟩ := h
 exact ⟨h1.rd, h2.rd, h3.rd, h4.rd⟩
theorem dY.lt {w : World} {bs : List Nat} {d : aH} {ve vi vo vf : Value} (h : dY w bs d ve vi vo vf) : ∀ b ∈ bs, b < w.heap.size := by
 obtain ⟨⟨be, bi, bo, bf, h1, h2, h3, h4, rfl⟩, _⟩ := h
 intro b hb
 simp only [List.mem_append] at hb
 rcases hb with ((hb | hb) | hb) | hb
 ·exact h1.lt b hb
 ·exact h2.lt b hb
 ·exact h3.lt b hb
 ·exact h4.lt b hb
theorem dY.keep {w w' : World} {bs : List Nat} {d : aH} {ve vi vo vf : Value} (h : dY w bs d ve vi vo vf) (hs : w.heap.size ≤ w'.heap.size) (hk : ∀ b ∈ bs, w'.heap[b]? = w.heap[b]?) : dY w' bs d ve vi vo vf := by
 obtain ⟨⟨be, bi, bo, bf, h1, h2, h3, h4, rfl⟩, hn⟩ := h
 exact ⟨⟨be, bi, bo, bf, h1.keep hs (fun b hb => hk b (by simp [hb])), h2.keep hs (fun b hb => hk b (by simp [hb])), h3.keep hs (fun b hb => hk b (by simp [hb])), h4.keep hs (fun b hb => hk b (by simp [hb])), rfl⟩, hn⟩
theorem dY.new {w w' : World} {bs : List Nat} {d : aH} {ve vi vo vf : Value} (h : dY w bs d ve vi vo vf) (hb : Below w.heap.size w w') : dY w' bs d ve vi vo vf := h.keep hb.size fun b hb' => hb.block b (h.lt b hb')
theorem dY.turn {w w' : World} {bs bs' : List Nat} {d : aH} {ve vi vo vf : Value} (h : dY w bs d ve vi vo vf) (ht : aG bs' w w') (ha : ∀ b ∈ bs, b ∉ bs') : dY w' bs d ve vi vo vf := h.keep ht.size fun b hb' => ht.block b (h.lt b hb') (ha b hb')
def nN (d : aH) : Int := nQ d.reg + iC d.inT + iC d.outT + kH d.flows
theorem Fw (d : aH) : 0 ≤ nQ d.reg ∧ 0 ≤ iC d.inT ∧ 0 ≤ iC d.outT ∧ 0 ≤ kH d.flows := ⟨UA _, Dh _, Dh _, LB _⟩
theorem Pq (L : List Fd) (room : Int) (v : Value) (w : World) (hr : aT bT w v L) (hz : iC L ≤ 1048576) :
  Calls Tryz.prog 21 #[.agg #[.int .i64 room, v]] w fun x w' => ∃ v', x = .returned (.agg #[.int .i64 room, v']) ∧ aD bT w' w.heap.size w'.heap.size v' L ∧ Below w.heap.size w w' := by
 refine (WL L room v w (dM hr) (by have := zO L; omega)).mono ?_
 rintro x w' ⟨v', rfl, ho, hb⟩
 exact ⟨v', rfl, vR ho (eu hr), hb⟩
theorem Pt (L : List Fd) (room : Int) (v : Value) (left : Int) (w : World) (hr : aT bT w v L) (h0 : 0 ≤ left) (h1 : left ≤ 1048576) :
  Calls Tryz.prog 15 #[.agg #[.int .i64 room, v], .int .i64 left] w fun x w' => (x = .returned (.int .i64 (-1)) ∨ (x = .returned (.int .i64 (left - iC L)) ∧ 0 ≤ left - iC L)) ∧ Below w.heap.size w w' := by
 refine (WK L room v left w (dM hr) (eu hr) h0 h1).mono ?_
 rintro x w' ⟨rfl, hb⟩
 refine ⟨?_, hb⟩
 unfold iC
 by_cases c : left - L.length - eB L < 0
 ·exact .inl (by rw [if_pos c])
 ·exact .inr ⟨by rw [if_neg c, show left - L.length - eB L = left - (L.length + eB L) by omega], by omega⟩
theorem Pk (L : List Fd) (room : Int) (k : Nat) (v : Value) (bs : List Nat) (w : World) (ho : aW bT w v L bs) (hk1 : k + av L ≤ 1000000000) :
  Calls Tryz.prog 32 #[.agg #[.int .i64 room, v], .int .i64 k] w fun x w' => x = .returned (.int .i64 ((k + av L : Nat) : Int)) ∧ aW bT w' v (bQ L k) bs ∧ aG bs w w' := by
 obtain ⟨ho1, rfl⟩ := F7 ho
 have hc := oI L
 refine (WO L.length k room v (fv L) 0 w ho1 (by omega)).mono ?_
 rintro x w' ⟨rfl, ho2, hg⟩
 rw [hc]
 refine ⟨rfl, zN ?_ (Nq L k hk1), ⟨hg.os, hg.tape, hg.output, hg.size, fun q hq hn => hg.block q hq fun e => hn (by rw [← e]; simp)⟩⟩
 rw [DX, wO]
 exact ho2
theorem Po (L : List Fd) (room : Int) (k : Nat) (v : Value) (w : World) (hr : aT bT w v (bQ L k)) (hk1 : k + av L ≤ 1000000000) :
  Calls Tryz.prog 36 #[.agg #[.int .i64 room, v], .int .i64 k] w fun x w' => x = .returned (.int .i64 ((k + av L : Nat) : Int)) ∧ Below w.heap.size w w' := by
 have h := dM hr
 rw [DX, wO] at h
 rw [oI] at hk1 ⊢
 exact WM L.length k room v w h hk1
def BD (d : aH) (k : Nat) : aH := ⟨⟨d.reg.lim, d.reg.top, rV d.reg.es k⟩, d.inr, bQ d.inT (k + iW d.reg.es), d.au, bQ d.outT (k + iW d.reg.es + av d.inT), d.get, d.give, d.first, wo d.flows (k + iW d.reg.es + av d.inT + av d.outT), d.away, d.dead⟩
def lG (d : aH) : Nat := iW d.reg.es + av d.inT + av d.outT + lM d.flows
set_option maxHeartbeats 4000000 in
theorem Ce (d : aH) (ve vi vo vf : Value) (w : World) (hv : je w d ve vi vo vf) (hs : nN d ≤ 1048576) :
  Calls Tryz.prog 6 #[bH d ve vi vo vf] w fun x w' => ∃ ue ui uo uf bs, x = .returned (bH d ue ui uo uf) ∧ dY w' bs d ue ui uo uf ∧ (∀ b ∈ bs, w.heap.size ≤ b) ∧ Below w.heap.size w w' := by
 dsimp only [bH] at *
 have HV := hide hv
 clear hv
 obtain ⟨ae, pe, rfl, _⟩ := HV.out.e.form
 obtain ⟨ai, pi, rfl, _⟩ := HV.out.i.form
 obtain ⟨ao, po, rfl, _⟩ := HV.out.o.form
 obtain ⟨af, pf, rfl, _⟩ := HV.out.f.form
 obtain ⟨s1, s2, s3, s4⟩ := Fw d
 unfold nN at hs
 obtain ⟨W, hW⟩ : ∃ W, ((w.alloc (.cells #[.int .i64 d.reg.lim, .int .i64 d.reg.top, .slice ae d.reg.es.length pe, .int .i64 d.inr, .slice ai d.inT.length pi, .int .i64 d.au, .slice ao d.outT.length po, .int .i64 d.get, .int .i64 d.give, .int .i64 d.first, .slice af d.flows.length pf, .bool d.away, .bool d.dead] 30)).alloc (.cells #[.int .i64 0, .int .i64 0, .slice none 0 0, .int .i64 0, .slice none 0 0, .int .i64 0, .slice none 0 0, .int .i64 0, .int .i64 0, .int .i64 0, .slice none 0 0, .bool false, .bool false] 40)).alloc (.cells #[.int .i64 0, .int .i64 0, .slice none 0 0, .int .i64 0, .slice none 0 0, .int .i64 0, .slice none 0 0, .int .i64 0, .int .i64 0, .int .i64 0, .slice none 0 0, .bool false, .bool false] 40) = W := ⟨_, rfl⟩
 have RX : aj W w.heap.size 30 [.int .i64 d.reg.lim, .int .i64 d.reg.top, .slice ae d.reg.es.length pe, .int .i64 d.inr, .slice ai d.inT.length pi, .int .i64 d.au, .slice ao d.outT.length po, .int .i64 d.get, .int .i64 d.give, .int .i64 d.first, .slice af d.flows.length pf, .bool d.away, .bool d.dead] := by rw [← hW]; exact ((aB w 30 [.int .i64 d.reg.lim, .int .i64 d.reg.top, .slice ae d.reg.es.length pe, .int .i64 d.inr, .slice ai d.inT.length pi, .int .i64 d.au, .slice ao d.outT.length po, .int .i64 d.get, .int .i64 d.give, .int .i64 d.first, .slice af d.flows.length pf, .bool d.away, .bool d.dead]).alloc _).alloc _
 have RY : aj W (w.heap.size + 1) 40 [.int .i64 0, .int .i64 0, .slice none 0 0, .int .i64 0, .slice none 0 0, .int .i64 0, .slice none 0 0, .int .i64 0, .int .i64 0, .int .i64 0, .slice none 0 0, .bool false, .bool false] := by have := (aB (w.alloc (.cells #[.int .i64 d.reg.lim, .int .i64 d.reg.top, .slice ae d.reg.es.length pe, .int .i64 d.inr, .slice ai d.inT.length pi, .int .i64 d.au, .slice ao d.outT.length po, .int .i64 d.get, .int .i64 d.give, .int .i64 d.first, .slice af d.flows.length pf, .bool d.away, .bool d.dead] 30)) 40 [.int .i64 0, .int .i64 0, .slice none 0 0, .int .i64 0, .slice none 0 0, .int .i64 0, .slice none 0 0, .int .i64 0, .int .i64 0, .int .i64 0, .slice none 0 0, .bool false, .bool false]).alloc (.cells #[.int .i64 0, .int .i64 0, .slice none 0 0, .int .i64 0, .slice none 0 0, .int .i64 0, .slice none 0 0, .int .i64 0, .int .i64 0, .int .i64 0, .slice none 0 0, .bool false, .bool false] 40); rw [hW] at this; simpa using this
 have RZ : aj W (w.heap.size + 1 + 1) 40 [.int .i64 0, .int .i64 0, .slice none 0 0, .int .i64 0, .slice none 0 0, .int .i64 0, .slice none 0 0, .int .i64 0, .int .i64 0, .int .i64 0, .slice none 0 0, .bool false, .bool false] := by have := aB ((w.alloc (.cells #[.int .i64 d.reg.lim, .int .i64 d.reg.top, .slice ae d.reg.es.length pe, .int .i64 d.inr, .slice ai d.inT.length pi, .int .i64 d.au, .slice ao d.outT.length po, .int .i64 d.get, .int .i64 d.give, .int .i64 d.first, .slice af d.flows.length pf, .bool d.away, .bool d.dead] 30)).alloc (.cells #[.int .i64 0, .int .i64 0, .slice none 0 0, .int .i64 0, .slice none 0 0, .int .i64 0, .slice none 0 0, .int .i64 0, .int .i64 0, .int .i64 0, .slice none 0 0, .bool false, .bool false] 40)) 40 [.int .i64 0, .int .i64 0, .slice none 0 0, .int .i64 0, .slice none 0 0, .int .i64 0, .slice none 0 0, .int .i64 0, .int .i64 0, .int .i64 0, .slice none 0 0, .bool false, .bool false]; rw [hW] at this; simpa using this
 have HB : Below w.heap.size w W := by rw [← hW]; exact ((((Below.refl _ _).alloc (Nat.le_refl _) _).alloc (by simp) _).alloc (by simp; omega) _)
 have hWs : w.heap.size + 3 ≤ W.heap.size := by rw [← hW]; first | (simp; done) | (simp; omega)
 go_enter Tryz.func6, Tryz.ntmps6
 skip
 obtain ⟨x0, x1, x2⟩ := jZ RX
 have xf := fun j => aj.frozen RX j
 have xl := RX.lt
 go_wp2_with fail
 clear x0 x1 x2 xf xl
 refine (UD d.reg _ _ (HV.out.e.new HB) (by omega)).mono ?_; rintro x w1 ⟨v1, rfl, ho, hb⟩
 obtain ⟨ne, qe, rfl, _⟩ := ho.form
 have zw1 := hb.size
 have Oe := hide ho
 clear ho
 replace RX := RX.new hb
 replace RY := RY.new hb
 replace RZ := RZ.new hb
 replace HB := ah HB hb
 clear hb
 clear hW
 obtain ⟨z0, z1, z2⟩ := jZ RZ
 have zf := fun j => aj.frozen RZ j
 have zl := RZ.lt
 go_upto_region 3 with fail
 clear z0 z1 z2 zf zl
 have jF := hide (aD.far (aD.far (aD.far Oe.out ⟨w.heap.size + 1 + 1, 0, none⟩ (.int .i64 d.reg.lim) (.inl (by show w.heap.size + 1 + 1 < _; omega))) ⟨w.heap.size + 1 + 1, 1, none⟩ (.int .i64 d.reg.top) (.inl (by show w.heap.size + 1 + 1 < _; omega))) ⟨w.heap.size + 1 + 1, 2, none⟩ (.slice ne d.reg.es.length qe) (.inl (by show w.heap.size + 1 + 1 < _; omega)))
 have bX : aj (((w1.setCell ⟨(w.heap.size + 1 + 1), 0, none⟩ (.int .i64 d.reg.lim)).setCell ⟨(w.heap.size + 1 + 1), 1, none⟩ (.int .i64 d.reg.top)).setCell ⟨(w.heap.size + 1 + 1), 2, none⟩ (.slice ne d.reg.es.length qe)) w.heap.size 30 [.int .i64 d.reg.lim, .int .i64 d.reg.top, .slice ae d.reg.es.length pe, .int .i64 d.inr, .slice ai d.inT.length pi, .int .i64 d.au, .slice ao d.outT.length po, .int .i64 d.get, .int .i64 d.give, .int .i64 d.first, .slice af d.flows.length pf, .bool d.away, .bool d.dead] := (((RX.far ⟨(w.heap.size + 1 + 1), 0, none⟩ (.int .i64 d.reg.lim) (show (w.heap.size + 1 + 1) ≠ w.heap.size by omega)).far ⟨(w.heap.size + 1 + 1), 1, none⟩ (.int .i64 d.reg.top) (show (w.heap.size + 1 + 1) ≠ w.heap.size by omega)).far ⟨(w.heap.size + 1 + 1), 2, none⟩ (.slice ne d.reg.es.length qe) (show (w.heap.size + 1 + 1) ≠ w.heap.size by omega))
 have bY : aj (((w1.setCell ⟨(w.heap.size + 1 + 1), 0, none⟩ (.int .i64 d.reg.lim)).setCell ⟨(w.heap.size + 1 + 1), 1, none⟩ (.int .i64 d.reg.top)).setCell ⟨(w.heap.size + 1 + 1), 2, none⟩ (.slice ne d.reg.es.length qe)) (w.heap.size + 1) 40 [.int .i64 0, .int .i64 0, .slice none 0 0, .int .i64 0, .slice none 0 0, .int .i64 0, .slice none 0 0, .int .i64 0, .int .i64 0, .int .i64 0, .slice none 0 0, .bool false, .bool false] := (((RY.far ⟨(w.heap.size + 1 + 1), 0, none⟩ (.int .i64 d.reg.lim) (show (w.heap.size + 1 + 1) ≠ (w.heap.size + 1) by omega)).far ⟨(w.heap.size + 1 + 1), 1, none⟩ (.int .i64 d.reg.top) (show (w.heap.size + 1 + 1) ≠ (w.heap.size + 1) by omega)).far ⟨(w.heap.size + 1 + 1), 2, none⟩ (.slice ne d.reg.es.length qe) (show (w.heap.size + 1 + 1) ≠ (w.heap.size + 1) by omega))
 have bJ : aj (((w1.setCell ⟨(w.heap.size + 1 + 1), 0, none⟩ (.int .i64 d.reg.lim)).setCell ⟨(w.heap.size + 1 + 1), 1, none⟩ (.int .i64 d.reg.top)).setCell ⟨(w.heap.size + 1 + 1), 2, none⟩ (.slice ne d.reg.es.length qe)) (w.heap.size + 1 + 1) 40 [.int .i64 d.reg.lim, .int .i64 d.reg.top, .slice ne d.reg.es.length qe, .int .i64 0, .slice none 0 0, .int .i64 0, .slice none 0 0, .int .i64 0, .int .i64 0, .int .i64 0, .slice none 0 0, .bool false, .bool false] := (((RZ.set 0 (.int .i64 d.reg.lim)).set 1 (.int .i64 d.reg.top)).set 2 (.slice ne d.reg.es.length qe))
 have bD := (((HB.setCell (p := ⟨(w.heap.size + 1 + 1), 0, none⟩) (show w.heap.size ≤ (w.heap.size + 1 + 1) by omega) (.int .i64 d.reg.lim)).setCell (p := ⟨(w.heap.size + 1 + 1), 1, none⟩) (show w.heap.size ≤ (w.heap.size + 1 + 1) by omega) (.int .i64 d.reg.top)).setCell (p := ⟨(w.heap.size + 1 + 1), 2, none⟩) (show w.heap.size ≤ (w.heap.size + 1 + 1) by omega) (.slice ne d.reg.es.length qe))
 generalize Pv : (((w1.setCell ⟨(w.heap.size + 1 + 1), 0, none⟩ (.int .i64 d.reg.lim)).setCell ⟨(w.heap.size + 1 + 1), 1, none⟩ (.int .i64 d.reg.top)).setCell ⟨(w.heap.size + 1 + 1), 2, none⟩ (.slice ne d.reg.es.length qe)) = V1 at *
 clear RX
 have RX := bX
 clear bX
 clear RY
 have RY := bY
 clear bY
 clear RZ
 have RZ := bJ
 clear bJ
 clear HB
 have HB := bD
 clear bD
 clear Oe
 have Oe := jF
 clear jF
 have zV1 : V1.heap.size = w1.heap.size := by rw [← Pv]; simp
 clear Pv
 have x3 := ak 3 RX rfl
 have x4 := ak 4 RX rfl
 have xf := fun j => aj.frozen RX j
 have xl := RX.lt
 go_wp2_with fail
 clear x3 x4 xf xl
 refine (Pq d.inT d.inr _ _ (HV.out.i.new HB) (by omega)).mono ?_; rintro x w2 ⟨v1, rfl, ho, hb⟩
 obtain ⟨ni, qi, rfl, _⟩ := ho.form
 have zw2 := hb.size
 have Oi := hide ho
 clear ho
 replace Oe := hide (Oe.out.new hb)
 replace RX := RX.new hb
 replace RY := RY.new hb
 replace RZ := RZ.new hb
 replace HB := ah HB hb
 clear hb
 have z3 := ak 3 RZ rfl
 have z4 := ak 4 RZ rfl
 have zf := fun j => aj.frozen RZ j
 have zl := RZ.lt
 go_upto_region 4 with fail
 clear z3 z4 zf zl
 have jF := hide (aD.far (aD.far Oe.out ⟨w.heap.size + 1 + 1, 3, none⟩ (.int .i64 d.inr) (.inl (by show w.heap.size + 1 + 1 < _; omega))) ⟨w.heap.size + 1 + 1, 4, none⟩ (.slice ni d.inT.length qi) (.inl (by show w.heap.size + 1 + 1 < _; omega)))
 have kS := hide (aD.far (aD.far Oi.out ⟨w.heap.size + 1 + 1, 3, none⟩ (.int .i64 d.inr) (.inl (by show w.heap.size + 1 + 1 < _; omega))) ⟨w.heap.size + 1 + 1, 4, none⟩ (.slice ni d.inT.length qi) (.inl (by show w.heap.size + 1 + 1 < _; omega)))
 have bX : aj ((w2.setCell ⟨(w.heap.size + 1 + 1), 3, none⟩ (.int .i64 d.inr)).setCell ⟨(w.heap.size + 1 + 1), 4, none⟩ (.slice ni d.inT.length qi)) w.heap.size 30 [.int .i64 d.reg.lim, .int .i64 d.reg.top, .slice ae d.reg.es.length pe, .int .i64 d.inr, .slice ai d.inT.length pi, .int .i64 d.au, .slice ao d.outT.length po, .int .i64 d.get, .int .i64 d.give, .int .i64 d.first, .slice af d.flows.length pf, .bool d.away, .bool d.dead] := ((RX.far ⟨(w.heap.size + 1 + 1), 3, none⟩ (.int .i64 d.inr) (show (w.heap.size + 1 + 1) ≠ w.heap.size by omega)).far ⟨(w.heap.size + 1 + 1), 4, none⟩ (.slice ni d.inT.length qi) (show (w.heap.size + 1 + 1) ≠ w.heap.size by omega))
 have bY : aj ((w2.setCell ⟨(w.heap.size + 1 + 1), 3, none⟩ (.int .i64 d.inr)).setCell ⟨(w.heap.size + 1 + 1), 4, none⟩ (.slice ni d.inT.length qi)) (w.heap.size + 1) 40 [.int .i64 0, .int .i64 0, .slice none 0 0, .int .i64 0, .slice none 0 0, .int .i64 0, .slice none 0 0, .int .i64 0, .int .i64 0, .int .i64 0, .slice none 0 0, .bool false, .bool false] := ((RY.far ⟨(w.heap.size + 1 + 1), 3, none⟩ (.int .i64 d.inr) (show (w.heap.size + 1 + 1) ≠ (w.heap.size + 1) by omega)).far ⟨(w.heap.size + 1 + 1), 4, none⟩ (.slice ni d.inT.length qi) (show (w.heap.size + 1 + 1) ≠ (w.heap.size + 1) by omega))
 have bJ : aj ((w2.setCell ⟨(w.heap.size + 1 + 1), 3, none⟩ (.int .i64 d.inr)).setCell ⟨(w.heap.size + 1 + 1), 4, none⟩ (.slice ni d.inT.length qi)) (w.heap.size + 1 + 1) 40 [.int .i64 d.reg.lim, .int .i64 d.reg.top, .slice ne d.reg.es.length qe, .int .i64 d.inr, .slice ni d.inT.length qi, .int .i64 0, .slice none 0 0, .int .i64 0, .int .i64 0, .int .i64 0, .slice none 0 0, .bool false, .bool false] := ((RZ.set 3 (.int .i64 d.inr)).set 4 (.slice ni d.inT.length qi))
 have bD := ((HB.setCell (p := ⟨(w.heap.size + 1 + 1), 3, none⟩) (show w.heap.size ≤ (w.heap.size + 1 + 1) by omega) (.int .i64 d.inr)).setCell (p := ⟨(w.heap.size + 1 + 1), 4, none⟩) (show w.heap.size ≤ (w.heap.size + 1 + 1) by omega) (.slice ni d.inT.length qi))
 generalize Pw : ((w2.setCell ⟨(w.heap.size + 1 + 1), 3, none⟩ (.int .i64 d.inr)).setCell ⟨(w.heap.size + 1 + 1), 4, none⟩ (.slice ni d.inT.length qi)) = V2 at *
 clear RX
 have RX := bX
 clear bX
 clear RY
 have RY := bY
 clear bY
 clear RZ
 have RZ := bJ
 clear bJ
 clear HB
 have HB := bD
 clear bD
 clear Oe
 have Oe := jF
 clear jF
 clear Oi
 have Oi := kS
 clear kS
 have zV2 : V2.heap.size = w2.heap.size := by rw [← Pw]; simp
 clear Pw
 have x5 := ak 5 RX rfl
 have x6 := ak 6 RX rfl
 have xf := fun j => aj.frozen RX j
 have xl := RX.lt
 go_wp2_with fail
 clear x5 x6 xf xl
 refine (Pq d.outT d.au _ _ (HV.out.o.new HB) (by omega)).mono ?_; rintro x w3 ⟨v1, rfl, ho, hb⟩
 obtain ⟨no, qo, rfl, _⟩ := ho.form
 have zw3 := hb.size
 have Oo := hide ho
 clear ho
 replace Oe := hide (Oe.out.new hb)
 replace Oi := hide (Oi.out.new hb)
 replace RX := RX.new hb
 replace RY := RY.new hb
 replace RZ := RZ.new hb
 replace HB := ah HB hb
 clear hb
 have z5 := ak 5 RZ rfl
 have z6 := ak 6 RZ rfl
 have zf := fun j => aj.frozen RZ j
 have zl := RZ.lt
 go_upto_region 5 with fail
 clear z5 z6 zf zl
 have jF := hide (aD.far (aD.far Oe.out ⟨w.heap.size + 1 + 1, 5, none⟩ (.int .i64 d.au) (.inl (by show w.heap.size + 1 + 1 < _; omega))) ⟨w.heap.size + 1 + 1, 6, none⟩ (.slice no d.outT.length qo) (.inl (by show w.heap.size + 1 + 1 < _; omega)))
 have kS := hide (aD.far (aD.far Oi.out ⟨w.heap.size + 1 + 1, 5, none⟩ (.int .i64 d.au) (.inl (by show w.heap.size + 1 + 1 < _; omega))) ⟨w.heap.size + 1 + 1, 6, none⟩ (.slice no d.outT.length qo) (.inl (by show w.heap.size + 1 + 1 < _; omega)))
 have mZ := hide (aD.far (aD.far Oo.out ⟨w.heap.size + 1 + 1, 5, none⟩ (.int .i64 d.au) (.inl (by show w.heap.size + 1 + 1 < _; omega))) ⟨w.heap.size + 1 + 1, 6, none⟩ (.slice no d.outT.length qo) (.inl (by show w.heap.size + 1 + 1 < _; omega)))
 have bX : aj ((w3.setCell ⟨(w.heap.size + 1 + 1), 5, none⟩ (.int .i64 d.au)).setCell ⟨(w.heap.size + 1 + 1), 6, none⟩ (.slice no d.outT.length qo)) w.heap.size 30 [.int .i64 d.reg.lim, .int .i64 d.reg.top, .slice ae d.reg.es.length pe, .int .i64 d.inr, .slice ai d.inT.length pi, .int .i64 d.au, .slice ao d.outT.length po, .int .i64 d.get, .int .i64 d.give, .int .i64 d.first, .slice af d.flows.length pf, .bool d.away, .bool d.dead] := ((RX.far ⟨(w.heap.size + 1 + 1), 5, none⟩ (.int .i64 d.au) (show (w.heap.size + 1 + 1) ≠ w.heap.size by omega)).far ⟨(w.heap.size + 1 + 1), 6, none⟩ (.slice no d.outT.length qo) (show (w.heap.size + 1 + 1) ≠ w.heap.size by omega))
 have bY : aj ((w3.setCell ⟨(w.heap.size + 1 + 1), 5, none⟩ (.int .i64 d.au)).setCell ⟨(w.heap.size + 1 + 1), 6, none⟩ (.slice no d.outT.length qo)) (w.heap.size + 1) 40 [.int .i64 0, .int .i64 0, .slice none 0 0, .int .i64 0, .slice none 0 0, .int .i64 0, .slice none 0 0, .int .i64 0, .int .i64 0, .int .i64 0, .slice none 0 0, .bool false, .bool false] := ((RY.far ⟨(w.heap.size + 1 + 1), 5, none⟩ (.int .i64 d.au) (show (w.heap.size + 1 + 1) ≠ (w.heap.size + 1) by omega)).far ⟨(w.heap.size + 1 + 1), 6, none⟩ (.slice no d.outT.length qo) (show (w.heap.size + 1 + 1) ≠ (w.heap.size + 1) by omega))
 have bJ : aj ((w3.setCell ⟨(w.heap.size + 1 + 1), 5, none⟩ (.int .i64 d.au)).setCell ⟨(w.heap.size + 1 + 1), 6, none⟩ (.slice no d.outT.length qo)) (w.heap.size + 1 + 1) 40 [.int .i64 d.reg.lim, .int .i64 d.reg.top, .slice ne d.reg.es.length qe, .int .i64 d.inr, .slice ni d.inT.length qi, .int .i64 d.au, .slice no d.outT.length qo, .int .i64 0, .int .i64 0, .int .i64 0, .slice none 0 0, .bool false, .bool false] := ((RZ.set 5 (.int .i64 d.au)).set 6 (.slice no d.outT.length qo))
 have bD := ((HB.setCell (p := ⟨(w.heap.size + 1 + 1), 5, none⟩) (show w.heap.size ≤ (w.heap.size + 1 + 1) by omega) (.int .i64 d.au)).setCell (p := ⟨(w.heap.size + 1 + 1), 6, none⟩) (show w.heap.size ≤ (w.heap.size + 1 + 1) by omega) (.slice no d.outT.length qo))
 generalize Px : ((w3.setCell ⟨(w.heap.size + 1 + 1), 5, none⟩ (.int .i64 d.au)).setCell ⟨(w.heap.size + 1 + 1), 6, none⟩ (.slice no d.outT.length qo)) = V3 at *
 clear RX
 have RX := bX
 clear bX
 clear RY
 have RY := bY
 clear bY
 clear RZ
 have RZ := bJ
 clear bJ
 clear HB
 have HB := bD
 clear bD
 clear Oe
 have Oe := jF
 clear jF
 clear Oi
 have Oi := kS
 clear kS
 clear Oo
 have Oo := mZ
 clear mZ
 have zV3 : V3.heap.size = w3.heap.size := by rw [← Px]; simp
 clear Px
 have x7 := ak 7 RX rfl
 have x8 := ak 8 RX rfl
 have x9 := ak 9 RX rfl
 have xf := fun j => aj.frozen RX j
 have xl := RX.lt
 have z7 := ak 7 RZ rfl
 have z8 := ak 8 RZ rfl
 have z9 := ak 9 RZ rfl
 have zf := fun j => aj.frozen RZ j
 have zl := RZ.lt
 go_upto_region 8 with fail
 clear z7 z8 z9 zf zl
 clear x7 x8 x9 xf xl
 have jF := hide (aD.far (aD.far (aD.far Oe.out ⟨w.heap.size + 1 + 1, 7, none⟩ (.int .i64 d.get) (.inl (by show w.heap.size + 1 + 1 < _; omega))) ⟨w.heap.size + 1 + 1, 8, none⟩ (.int .i64 d.give) (.inl (by show w.heap.size + 1 + 1 < _; omega))) ⟨w.heap.size + 1 + 1, 9, none⟩ (.int .i64 d.first) (.inl (by show w.heap.size + 1 + 1 < _; omega)))
 have kS := hide (aD.far (aD.far (aD.far Oi.out ⟨w.heap.size + 1 + 1, 7, none⟩ (.int .i64 d.get) (.inl (by show w.heap.size + 1 + 1 < _; omega))) ⟨w.heap.size + 1 + 1, 8, none⟩ (.int .i64 d.give) (.inl (by show w.heap.size + 1 + 1 < _; omega))) ⟨w.heap.size + 1 + 1, 9, none⟩ (.int .i64 d.first) (.inl (by show w.heap.size + 1 + 1 < _; omega)))
 have mZ := hide (aD.far (aD.far (aD.far Oo.out ⟨w.heap.size + 1 + 1, 7, none⟩ (.int .i64 d.get) (.inl (by show w.heap.size + 1 + 1 < _; omega))) ⟨w.heap.size + 1 + 1, 8, none⟩ (.int .i64 d.give) (.inl (by show w.heap.size + 1 + 1 < _; omega))) ⟨w.heap.size + 1 + 1, 9, none⟩ (.int .i64 d.first) (.inl (by show w.heap.size + 1 + 1 < _; omega)))
 have bX : aj (((V3.setCell ⟨(w.heap.size + 1 + 1), 7, none⟩ (.int .i64 d.get)).setCell ⟨(w.heap.size + 1 + 1), 8, none⟩ (.int .i64 d.give)).setCell ⟨(w.heap.size + 1 + 1), 9, none⟩ (.int .i64 d.first)) w.heap.size 30 [.int .i64 d.reg.lim, .int .i64 d.reg.top, .slice ae d.reg.es.length pe, .int .i64 d.inr, .slice ai d.inT.length pi, .int .i64 d.au, .slice ao d.outT.length po, .int .i64 d.get, .int .i64 d.give, .int .i64 d.first, .slice af d.flows.length pf, .bool d.away, .bool d.dead] := (((RX.far ⟨(w.heap.size + 1 + 1), 7, none⟩ (.int .i64 d.get) (show (w.heap.size + 1 + 1) ≠ w.heap.size by omega)).far ⟨(w.heap.size + 1 + 1), 8, none⟩ (.int .i64 d.give) (show (w.heap.size + 1 + 1) ≠ w.heap.size by omega)).far ⟨(w.heap.size + 1 + 1), 9, none⟩ (.int .i64 d.first) (show (w.heap.size + 1 + 1) ≠ w.heap.size by omega))
 have bY : aj (((V3.setCell ⟨(w.heap.size + 1 + 1), 7, none⟩ (.int .i64 d.get)).setCell ⟨(w.heap.size + 1 + 1), 8, none⟩ (.int .i64 d.give)).setCell ⟨(w.heap.size + 1 + 1), 9, none⟩ (.int .i64 d.first)) (w.heap.size + 1) 40 [.int .i64 0, .int .i64 0, .slice none 0 0, .int .i64 0, .slice none 0 0, .int .i64 0, .slice none 0 0, .int .i64 0, .int .i64 0, .int .i64 0, .slice none 0 0, .bool false, .bool false] := (((RY.far ⟨(w.heap.size + 1 + 1), 7, none⟩ (.int .i64 d.get) (show (w.heap.size + 1 + 1) ≠ (w.heap.size + 1) by omega)).far ⟨(w.heap.size + 1 + 1), 8, none⟩ (.int .i64 d.give) (show (w.heap.size + 1 + 1) ≠ (w.heap.size + 1) by omega)).far ⟨(w.heap.size + 1 + 1), 9, none⟩ (.int .i64 d.first) (show (w.heap.size + 1 + 1) ≠ (w.heap.size + 1) by omega))
 have bJ : aj (((V3.setCell ⟨(w.heap.size + 1 + 1), 7, none⟩ (.int .i64 d.get)).setCell ⟨(w.heap.size + 1 + 1), 8, none⟩ (.int .i64 d.give)).setCell ⟨(w.heap.size + 1 + 1), 9, none⟩ (.int .i64 d.first)) (w.heap.size + 1 + 1) 40 [.int .i64 d.reg.lim, .int .i64 d.reg.top, .slice ne d.reg.es.length qe, .int .i64 d.inr, .slice ni d.inT.length qi, .int .i64 d.au, .slice no d.outT.length qo, .int .i64 d.get, .int .i64 d.give, .int .i64 d.first, .slice none 0 0, .bool false, .bool false] := (((RZ.set 7 (.int .i64 d.get)).set 8 (.int .i64 d.give)).set 9 (.int .i64 d.first))
 have bD := (((HB.setCell (p := ⟨(w.heap.size + 1 + 1), 7, none⟩) (show w.heap.size ≤ (w.heap.size + 1 + 1) by omega) (.int .i64 d.get)).setCell (p := ⟨(w.heap.size + 1 + 1), 8, none⟩) (show w.heap.size ≤ (w.heap.size + 1 + 1) by omega) (.int .i64 d.give)).setCell (p := ⟨(w.heap.size + 1 + 1), 9, none⟩) (show w.heap.size ≤ (w.heap.size + 1 + 1) by omega) (.int .i64 d.first))
 generalize Py : (((V3.setCell ⟨(w.heap.size + 1 + 1), 7, none⟩ (.int .i64 d.get)).setCell ⟨(w.heap.size + 1 + 1), 8, none⟩ (.int .i64 d.give)).setCell ⟨(w.heap.size + 1 + 1), 9, none⟩ (.int .i64 d.first)) = V4 at *
 clear RX
 have RX := bX
 clear bX
 clear RY
 have RY := bY
 clear bY
 clear RZ
 have RZ := bJ
 clear bJ
 clear HB
 have HB := bD
 clear bD
 clear Oe
 have Oe := jF
 clear jF
 clear Oi
 have Oi := kS
 clear kS
 clear Oo
 have Oo := mZ
 clear mZ
 have zV4 : V4.heap.size = V3.heap.size := by rw [← Py]; simp
 clear Py
 have x10 := ak 10 RX rfl
 have xf := fun j => aj.frozen RX j
 have xl := RX.lt
 go_wp2_with fail
 clear x10 xf xl
 refine (TU d.flows _ _ (HV.out.f.new HB) (by omega)).mono ?_; rintro x w4 ⟨v1, rfl, ho, hb⟩
 obtain ⟨nf, qf, rfl, _⟩ := ho.form
 have zw4 := hb.size
 have Of := hide ho
 clear ho
 replace Oe := hide (Oe.out.new hb)
 replace Oi := hide (Oi.out.new hb)
 replace Oo := hide (Oo.out.new hb)
 replace RX := RX.new hb
 replace RY := RY.new hb
 replace RZ := RZ.new hb
 replace HB := ah HB hb
 clear hb
 have jf := ak 10 RZ rfl
 have zf := fun j => aj.frozen RZ j
 have zl := RZ.lt
 go_upto_region 9 with fail
 clear jf zf zl
 have jF := hide (aD.far Oe.out ⟨w.heap.size + 1 + 1, 10, none⟩ (.slice nf d.flows.length qf) (.inl (by show w.heap.size + 1 + 1 < _; omega)))
 have kS := hide (aD.far Oi.out ⟨w.heap.size + 1 + 1, 10, none⟩ (.slice nf d.flows.length qf) (.inl (by show w.heap.size + 1 + 1 < _; omega)))
 have mZ := hide (aD.far Oo.out ⟨w.heap.size + 1 + 1, 10, none⟩ (.slice nf d.flows.length qf) (.inl (by show w.heap.size + 1 + 1 < _; omega)))
 have uW := hide (aD.far Of.out ⟨w.heap.size + 1 + 1, 10, none⟩ (.slice nf d.flows.length qf) (.inl (by show w.heap.size + 1 + 1 < _; omega)))
 have bX : aj (w4.setCell ⟨(w.heap.size + 1 + 1), 10, none⟩ (.slice nf d.flows.length qf)) w.heap.size 30 [.int .i64 d.reg.lim, .int .i64 d.reg.top, .slice ae d.reg.es.length pe, .int .i64 d.inr, .slice ai d.inT.length pi, .int .i64 d.au, .slice ao d.outT.length po, .int .i64 d.get, .int .i64 d.give, .int .i64 d.first, .slice af d.flows.length pf, .bool d.away, .bool d.dead] := (RX.far ⟨(w.heap.size + 1 + 1), 10, none⟩ (.slice nf d.flows.length qf) (show (w.heap.size + 1 + 1) ≠ w.heap.size by omega))
 have bY : aj (w4.setCell ⟨(w.heap.size + 1 + 1), 10, none⟩ (.slice nf d.flows.length qf)) (w.heap.size + 1) 40 [.int .i64 0, .int .i64 0, .slice none 0 0, .int .i64 0, .slice none 0 0, .int .i64 0, .slice none 0 0, .int .i64 0, .int .i64 0, .int .i64 0, .slice none 0 0, .bool false, .bool false] := (RY.far ⟨(w.heap.size + 1 + 1), 10, none⟩ (.slice nf d.flows.length qf) (show (w.heap.size + 1 + 1) ≠ (w.heap.size + 1) by omega))
 have bJ : aj (w4.setCell ⟨(w.heap.size + 1 + 1), 10, none⟩ (.slice nf d.flows.length qf)) (w.heap.size + 1 + 1) 40 [.int .i64 d.reg.lim, .int .i64 d.reg.top, .slice ne d.reg.es.length qe, .int .i64 d.inr, .slice ni d.inT.length qi, .int .i64 d.au, .slice no d.outT.length qo, .int .i64 d.get, .int .i64 d.give, .int .i64 d.first, .slice nf d.flows.length qf, .bool false, .bool false] := (RZ.set 10 (.slice nf d.flows.length qf))
 have bD := (HB.setCell (p := ⟨(w.heap.size + 1 + 1), 10, none⟩) (show w.heap.size ≤ (w.heap.size + 1 + 1) by omega) (.slice nf d.flows.length qf))
 generalize Pz : (w4.setCell ⟨(w.heap.size + 1 + 1), 10, none⟩ (.slice nf d.flows.length qf)) = V5 at *
 clear RX
 have RX := bX
 clear bX
 clear RY
 have RY := bY
 clear bY
 clear RZ
 have RZ := bJ
 clear bJ
 clear HB
 have HB := bD
 clear bD
 clear Oe
 have Oe := jF
 clear jF
 clear Oi
 have Oi := kS
 clear kS
 clear Oo
 have Oo := mZ
 clear mZ
 clear Of
 have Of := uW
 clear uW
 have zV5 : V5.heap.size = w4.heap.size := by rw [← Pz]; simp
 clear Pz
 have bC := ak 11 RX rfl
 have bS := ak 12 RX rfl
 have xf := fun j => aj.frozen RX j
 have xl := RX.lt
 have jg := ak 11 RZ rfl
 have z12 := ak 12 RZ rfl
 have zf := fun j => aj.frozen RZ j
 have zl := RZ.lt
 go_upto_region 11 with fail
 clear jg z12 zf zl
 clear bC bS xf xl
 have jF := hide (aD.far (aD.far Oe.out ⟨w.heap.size + 1 + 1, 11, none⟩ (.bool d.away) (.inl (by show w.heap.size + 1 + 1 < _; omega))) ⟨w.heap.size + 1 + 1, 12, none⟩ (.bool d.dead) (.inl (by show w.heap.size + 1 + 1 < _; omega)))
 have kS := hide (aD.far (aD.far Oi.out ⟨w.heap.size + 1 + 1, 11, none⟩ (.bool d.away) (.inl (by show w.heap.size + 1 + 1 < _; omega))) ⟨w.heap.size + 1 + 1, 12, none⟩ (.bool d.dead) (.inl (by show w.heap.size + 1 + 1 < _; omega)))
 have mZ := hide (aD.far (aD.far Oo.out ⟨w.heap.size + 1 + 1, 11, none⟩ (.bool d.away) (.inl (by show w.heap.size + 1 + 1 < _; omega))) ⟨w.heap.size + 1 + 1, 12, none⟩ (.bool d.dead) (.inl (by show w.heap.size + 1 + 1 < _; omega)))
 have uW := hide (aD.far (aD.far Of.out ⟨w.heap.size + 1 + 1, 11, none⟩ (.bool d.away) (.inl (by show w.heap.size + 1 + 1 < _; omega))) ⟨w.heap.size + 1 + 1, 12, none⟩ (.bool d.dead) (.inl (by show w.heap.size + 1 + 1 < _; omega)))
 have bX : aj ((V5.setCell ⟨(w.heap.size + 1 + 1), 11, none⟩ (.bool d.away)).setCell ⟨(w.heap.size + 1 + 1), 12, none⟩ (.bool d.dead)) w.heap.size 30 [.int .i64 d.reg.lim, .int .i64 d.reg.top, .slice ae d.reg.es.length pe, .int .i64 d.inr, .slice ai d.inT.length pi, .int .i64 d.au, .slice ao d.outT.length po, .int .i64 d.get, .int .i64 d.give, .int .i64 d.first, .slice af d.flows.length pf, .bool d.away, .bool d.dead] := ((RX.far ⟨(w.heap.size + 1 + 1), 11, none⟩ (.bool d.away) (show (w.heap.size + 1 + 1) ≠ w.heap.size by omega)).far ⟨(w.heap.size + 1 + 1), 12, none⟩ (.bool d.dead) (show (w.heap.size + 1 + 1) ≠ w.heap.size by omega))
 have bY : aj ((V5.setCell ⟨(w.heap.size + 1 + 1), 11, none⟩ (.bool d.away)).setCell ⟨(w.heap.size + 1 + 1), 12, none⟩ (.bool d.dead)) (w.heap.size + 1) 40 [.int .i64 0, .int .i64 0, .slice none 0 0, .int .i64 0, .slice none 0 0, .int .i64 0, .slice none 0 0, .int .i64 0, .int .i64 0, .int .i64 0, .slice none 0 0, .bool false, .bool false] := ((RY.far ⟨(w.heap.size + 1 + 1), 11, none⟩ (.bool d.away) (show (w.heap.size + 1 + 1) ≠ (w.heap.size + 1) by omega)).far ⟨(w.heap.size + 1 + 1), 12, none⟩ (.bool d.dead) (show (w.heap.size + 1 + 1) ≠ (w.heap.size + 1) by omega))
 have bJ : aj ((V5.setCell ⟨(w.heap.size + 1 + 1), 11, none⟩ (.bool d.away)).setCell ⟨(w.heap.size + 1 + 1), 12, none⟩ (.bool d.dead)) (w.heap.size + 1 + 1) 40 [.int .i64 d.reg.lim, .int .i64 d.reg.top, .slice ne d.reg.es.length qe, .int .i64 d.inr, .slice ni d.inT.length qi, .int .i64 d.au, .slice no d.outT.length qo, .int .i64 d.get, .int .i64 d.give, .int .i64 d.first, .slice nf d.flows.length qf, .bool d.away, .bool d.dead] := ((RZ.set 11 (.bool d.away)).set 12 (.bool d.dead))
 have bD := ((HB.setCell (p := ⟨(w.heap.size + 1 + 1), 11, none⟩) (show w.heap.size ≤ (w.heap.size + 1 + 1) by omega) (.bool d.away)).setCell (p := ⟨(w.heap.size + 1 + 1), 12, none⟩) (show w.heap.size ≤ (w.heap.size + 1 + 1) by omega) (.bool d.dead))
 generalize PD : ((V5.setCell ⟨(w.heap.size + 1 + 1), 11, none⟩ (.bool d.away)).setCell ⟨(w.heap.size + 1 + 1), 12, none⟩ (.bool d.dead)) = V6 at *
 clear RX
 have RX := bX
 clear bX
 clear RY
 have RY := bY
 clear bY
 clear RZ
 have RZ := bJ
 clear bJ
 clear HB
 have HB := bD
 clear bD
 clear Oe
 have Oe := jF
 clear jF
 clear Oi
 have Oi := kS
 clear kS
 clear Oo
 have Oo := mZ
 clear mZ
 clear Of
 have Of := uW
 clear uW
 have zV6 : V6.heap.size = V5.heap.size := by rw [← PD]; simp
 clear PD
 go_wp2_with (first | (refine wpList_load_row (by rfl) 40 _ (by rfl) (w.heap.size + 1 + 1) (by rfl) [.int .i64 d.reg.lim, .int .i64 d.reg.top, .slice ne d.reg.es.length qe, .int .i64 d.inr, .slice ni d.inT.length qi, .int .i64 d.au, .slice no d.outT.length qo, .int .i64 d.get, .int .i64 d.give, .int .i64 d.first, .slice nf d.flows.length qf, .bool d.away, .bool d.dead] _ 40 RZ Tryz.underlying40 rfl (by kernel_rfl) ?_) | (refine wpList_store_row (by rfl) 40 _ _ (by rfl) (w.heap.size + 1) [.int .i64 d.reg.lim, .int .i64 d.reg.top, .slice ne d.reg.es.length qe, .int .i64 d.inr, .slice ni d.inT.length qi, .int .i64 d.au, .slice no d.outT.length qo, .int .i64 d.get, .int .i64 d.give, .int .i64 d.first, .slice nf d.flows.length qf, .bool d.away, .bool d.dead] (by rfl) (by rfl) 40 [.int .i64 0, .int .i64 0, .slice none 0 0, .int .i64 0, .slice none 0 0, .int .i64 0, .slice none 0 0, .int .i64 0, .int .i64 0, .int .i64 0, .slice none 0 0, .bool false, .bool false] RY (by kernel_rfl) rfl (by intro u hu; simp at hu; rcases hu with rfl | rfl | rfl | rfl | rfl | rfl | rfl | rfl | rfl | rfl | rfl | rfl | rfl <;> rfl) ?_))
 have jF := hide (aD.nA Oe.out (setRow_size V6 _ #[.int .i64 d.reg.lim, .int .i64 d.reg.top, .slice ne d.reg.es.length qe, .int .i64 d.inr, .slice ni d.inT.length qi, .int .i64 d.au, .slice no d.outT.length qo, .int .i64 d.get, .int .i64 d.give, .int .i64 d.first, .slice nf d.flows.length qf, .bool d.away, .bool d.dead]) (fun k hk => setRow_other V6 (w.heap.size + 1) #[.int .i64 d.reg.lim, .int .i64 d.reg.top, .slice ne d.reg.es.length qe, .int .i64 d.inr, .slice ni d.inT.length qi, .int .i64 d.au, .slice no d.outT.length qo, .int .i64 d.get, .int .i64 d.give, .int .i64 d.first, .slice nf d.flows.length qf, .bool d.away, .bool d.dead] k (by omega)))
 have kS := hide (aD.nA Oi.out (setRow_size V6 _ #[.int .i64 d.reg.lim, .int .i64 d.reg.top, .slice ne d.reg.es.length qe, .int .i64 d.inr, .slice ni d.inT.length qi, .int .i64 d.au, .slice no d.outT.length qo, .int .i64 d.get, .int .i64 d.give, .int .i64 d.first, .slice nf d.flows.length qf, .bool d.away, .bool d.dead]) (fun k hk => setRow_other V6 (w.heap.size + 1) #[.int .i64 d.reg.lim, .int .i64 d.reg.top, .slice ne d.reg.es.length qe, .int .i64 d.inr, .slice ni d.inT.length qi, .int .i64 d.au, .slice no d.outT.length qo, .int .i64 d.get, .int .i64 d.give, .int .i64 d.first, .slice nf d.flows.length qf, .bool d.away, .bool d.dead] k (by omega)))
 have mZ := hide (aD.nA Oo.out (setRow_size V6 _ #[.int .i64 d.reg.lim, .int .i64 d.reg.top, .slice ne d.reg.es.length qe, .int .i64 d.inr, .slice ni d.inT.length qi, .int .i64 d.au, .slice no d.outT.length qo, .int .i64 d.get, .int .i64 d.give, .int .i64 d.first, .slice nf d.flows.length qf, .bool d.away, .bool d.dead]) (fun k hk => setRow_other V6 (w.heap.size + 1) #[.int .i64 d.reg.lim, .int .i64 d.reg.top, .slice ne d.reg.es.length qe, .int .i64 d.inr, .slice ni d.inT.length qi, .int .i64 d.au, .slice no d.outT.length qo, .int .i64 d.get, .int .i64 d.give, .int .i64 d.first, .slice nf d.flows.length qf, .bool d.away, .bool d.dead] k (by omega)))
 have uW := hide (aD.nA Of.out (setRow_size V6 _ #[.int .i64 d.reg.lim, .int .i64 d.reg.top, .slice ne d.reg.es.length qe, .int .i64 d.inr, .slice ni d.inT.length qi, .int .i64 d.au, .slice no d.outT.length qo, .int .i64 d.get, .int .i64 d.give, .int .i64 d.first, .slice nf d.flows.length qf, .bool d.away, .bool d.dead]) (fun k hk => setRow_other V6 (w.heap.size + 1) #[.int .i64 d.reg.lim, .int .i64 d.reg.top, .slice ne d.reg.es.length qe, .int .i64 d.inr, .slice ni d.inT.length qi, .int .i64 d.au, .slice no d.outT.length qo, .int .i64 d.get, .int .i64 d.give, .int .i64 d.first, .slice nf d.flows.length qf, .bool d.away, .bool d.dead] k (by omega)))
 have zl : (V6.setRow (w.heap.size + 1) #[.int .i64 d.reg.lim, .int .i64 d.reg.top, .slice ne d.reg.es.length qe, .int .i64 d.inr, .slice ni d.inT.length qi, .int .i64 d.au, .slice no d.outT.length qo, .int .i64 d.get, .int .i64 d.give, .int .i64 d.first, .slice nf d.flows.length qf, .bool d.away, .bool d.dead]).heap.size = V6.heap.size := setRow_size _ _ _
 have bX := RX.kept (setRow_other V6 (w.heap.size + 1) #[.int .i64 d.reg.lim, .int .i64 d.reg.top, .slice ne d.reg.es.length qe, .int .i64 d.inr, .slice ni d.inT.length qi, .int .i64 d.au, .slice no d.outT.length qo, .int .i64 d.get, .int .i64 d.give, .int .i64 d.first, .slice nf d.flows.length qf, .bool d.away, .bool d.dead] w.heap.size (by omega))
 have bY : aj (V6.setRow (w.heap.size + 1) #[.int .i64 d.reg.lim, .int .i64 d.reg.top, .slice ne d.reg.es.length qe, .int .i64 d.inr, .slice ni d.inT.length qi, .int .i64 d.au, .slice no d.outT.length qo, .int .i64 d.get, .int .i64 d.give, .int .i64 d.first, .slice nf d.flows.length qf, .bool d.away, .bool d.dead]) (w.heap.size + 1) 40 [.int .i64 d.reg.lim, .int .i64 d.reg.top, .slice ne d.reg.es.length qe, .int .i64 d.inr, .slice ni d.inT.length qi, .int .i64 d.au, .slice no d.outT.length qo, .int .i64 d.get, .int .i64 d.give, .int .i64 d.first, .slice nf d.flows.length qf, .bool d.away, .bool d.dead] := dW (cs' := [.int .i64 d.reg.lim, .int .i64 d.reg.top, .slice ne d.reg.es.length qe, .int .i64 d.inr, .slice ni d.inT.length qi, .int .i64 d.au, .slice no d.outT.length qo, .int .i64 d.get, .int .i64 d.give, .int .i64 d.first, .slice nf d.flows.length qf, .bool d.away, .bool d.dead]) RY
 have bJ := RZ.kept (setRow_other V6 (w.heap.size + 1) #[.int .i64 d.reg.lim, .int .i64 d.reg.top, .slice ne d.reg.es.length qe, .int .i64 d.inr, .slice ni d.inT.length qi, .int .i64 d.au, .slice no d.outT.length qo, .int .i64 d.get, .int .i64 d.give, .int .i64 d.first, .slice nf d.flows.length qf, .bool d.away, .bool d.dead] (w.heap.size + 1 + 1) (by omega))
 have bD := below_setRow HB (show w.heap.size ≤ (w.heap.size + 1) by omega) #[.int .i64 d.reg.lim, .int .i64 d.reg.top, .slice ne d.reg.es.length qe, .int .i64 d.inr, .slice ni d.inT.length qi, .int .i64 d.au, .slice no d.outT.length qo, .int .i64 d.get, .int .i64 d.give, .int .i64 d.first, .slice nf d.flows.length qf, .bool d.away, .bool d.dead]
 generalize hV : V6.setRow (w.heap.size + 1) #[.int .i64 d.reg.lim, .int .i64 d.reg.top, .slice ne d.reg.es.length qe, .int .i64 d.inr, .slice ni d.inT.length qi, .int .i64 d.au, .slice no d.outT.length qo, .int .i64 d.get, .int .i64 d.give, .int .i64 d.first, .slice nf d.flows.length qf, .bool d.away, .bool d.dead] = V7 at *
 clear hV
 clear RX
 have RX := bX
 clear bX
 clear RY
 have RY := bY
 clear bY
 clear RZ
 have RZ := bJ
 clear bJ
 clear HB
 have HB := bD
 clear bD
 clear Oe
 have Oe := jF
 clear jF
 clear Oi
 have Oi := kS
 clear kS
 clear Oo
 have Oo := mZ
 clear mZ
 clear Of
 have Of := uW
 clear uW
 obtain ⟨y0, y1, y2, y3, y4, y5, y6, y7, y8, y9, rQ, wB, wC⟩ := dw RY
 have yf := fun j => aj.frozen RY j
 have yl := RY.lt
 refine bodyPost_ret (v := .agg #[.int .i64 d.reg.lim, .int .i64 d.reg.top, .slice ne d.reg.es.length qe, .int .i64 d.inr, .slice ni d.inT.length qi, .int .i64 d.au, .slice no d.outT.length qo, .int .i64 d.get, .int .i64 d.give, .int .i64 d.first, .slice nf d.flows.length qf, .bool d.away, .bool d.dead]) (by simp [results, Tryz.results6, go_sem, *]) rfl ?_
 obtain ⟨be, e1, e2, e3⟩ := Oe.out
 obtain ⟨bi, i1, i2, i3⟩ := Oi.out
 obtain ⟨bo, o1, o2, o3⟩ := Oo.out
 obtain ⟨bf, f1, f2, f3⟩ := Of.out
 refine ⟨_, _, _, _, be ++ bi ++ bo ++ bf, rfl, ⟨⟨be, bi, bo, bf, e1, i1, o1, f1, rfl⟩, ?_⟩, ?_, HB⟩
 ·refine jv (jv (jv e2 i2 fun x h1 h2 => ?_) o2 fun x h1 h2 => ?_) f2 fun x h1 h2 => ?_
  ·have := e3 x h1; have := i3 x h2; omega
  ·rcases List.mem_append.1 h1 with h1 | h1
   ·have := e3 x h1; have := o3 x h2; omega
   ·have := i3 x h1; have := o3 x h2; omega
  ·rcases List.mem_append.1 h1 with h1 | h1
   ·rcases List.mem_append.1 h1 with h1 | h1
    ·have := e3 x h1; have := f3 x h2; omega
    ·have := i3 x h1; have := f3 x h2; omega
   ·have := o3 x h1; have := f3 x h2; omega
 ·intro b hb
  simp only [List.mem_append] at hb
  rcases hb with ((hb | hb) | hb) | hb
  ·have := e3 b hb; omega
  ·have := i3 b hb; omega
  ·have := o3 b hb; omega
  ·have := f3 b hb; omega
set_option maxHeartbeats 4000000 in
theorem Cm (d : aH) (ve vi vo vf ue ui uo uf : Value) (w : World) (hv : je w d ve vi vo vf) (hu : je w d ue ui uo uf) :
  Calls Tryz.prog 8 #[bH d ve vi vo vf, bH d ue ui uo uf] w fun x w' => x = .returned (.bool true) ∧ Below w.heap.size w w' := by
 dsimp only [bH] at *
 have HV := hide hv
 have HU := hide hu
 clear hv hu
 obtain ⟨ae, pe, rfl, _⟩ := HV.out.e.form
 obtain ⟨ai, pi, rfl, _⟩ := HV.out.i.form
 obtain ⟨ao, po, rfl, _⟩ := HV.out.o.form
 obtain ⟨af, pf, rfl, _⟩ := HV.out.f.form
 obtain ⟨ne, qe, rfl, _⟩ := HU.out.e.form
 obtain ⟨ni, qi, rfl, _⟩ := HU.out.i.form
 obtain ⟨no, qo, rfl, _⟩ := HU.out.o.form
 obtain ⟨nf, qf, rfl, _⟩ := HU.out.f.form
 obtain ⟨W, hW⟩ : ∃ W, (w.alloc (.cells #[.int .i64 d.reg.lim, .int .i64 d.reg.top, .slice ae d.reg.es.length pe, .int .i64 d.inr, .slice ai d.inT.length pi, .int .i64 d.au, .slice ao d.outT.length po, .int .i64 d.get, .int .i64 d.give, .int .i64 d.first, .slice af d.flows.length pf, .bool d.away, .bool d.dead] 40)).alloc (.cells #[.int .i64 d.reg.lim, .int .i64 d.reg.top, .slice ne d.reg.es.length qe, .int .i64 d.inr, .slice ni d.inT.length qi, .int .i64 d.au, .slice no d.outT.length qo, .int .i64 d.get, .int .i64 d.give, .int .i64 d.first, .slice nf d.flows.length qf, .bool d.away, .bool d.dead] 40) = W := ⟨_, rfl⟩
 have RX : aj W w.heap.size 40 [.int .i64 d.reg.lim, .int .i64 d.reg.top, .slice ae d.reg.es.length pe, .int .i64 d.inr, .slice ai d.inT.length pi, .int .i64 d.au, .slice ao d.outT.length po, .int .i64 d.get, .int .i64 d.give, .int .i64 d.first, .slice af d.flows.length pf, .bool d.away, .bool d.dead] := by rw [← hW]; exact (aB w 40 [.int .i64 d.reg.lim, .int .i64 d.reg.top, .slice ae d.reg.es.length pe, .int .i64 d.inr, .slice ai d.inT.length pi, .int .i64 d.au, .slice ao d.outT.length po, .int .i64 d.get, .int .i64 d.give, .int .i64 d.first, .slice af d.flows.length pf, .bool d.away, .bool d.dead]).alloc _
 have RY : aj W (w.heap.size + 1) 40 [.int .i64 d.reg.lim, .int .i64 d.reg.top, .slice ne d.reg.es.length qe, .int .i64 d.inr, .slice ni d.inT.length qi, .int .i64 d.au, .slice no d.outT.length qo, .int .i64 d.get, .int .i64 d.give, .int .i64 d.first, .slice nf d.flows.length qf, .bool d.away, .bool d.dead] := by have := aB (w.alloc (.cells #[.int .i64 d.reg.lim, .int .i64 d.reg.top, .slice ae d.reg.es.length pe, .int .i64 d.inr, .slice ai d.inT.length pi, .int .i64 d.au, .slice ao d.outT.length po, .int .i64 d.get, .int .i64 d.give, .int .i64 d.first, .slice af d.flows.length pf, .bool d.away, .bool d.dead] 40)) 40 [.int .i64 d.reg.lim, .int .i64 d.reg.top, .slice ne d.reg.es.length qe, .int .i64 d.inr, .slice ni d.inT.length qi, .int .i64 d.au, .slice no d.outT.length qo, .int .i64 d.get, .int .i64 d.give, .int .i64 d.first, .slice nf d.flows.length qf, .bool d.away, .bool d.dead]; rw [hW] at this; simpa using this
 have HB : Below w.heap.size w W := by rw [← hW]; exact (((Below.refl _ _).alloc (Nat.le_refl _) _).alloc (by simp) _)
 have b0 : (d.get != d.get) = false := by simp
 have b1 : (d.give != d.give) = false := by simp
 have b2 : (d.first != d.first) = false := by simp
 go_enter Tryz.func8, Tryz.ntmps8
 obtain ⟨x0, x1, x2⟩ := jZ RX
 have xf := fun j => aj.frozen RX j
 have xl := RX.lt
 obtain ⟨y0, y1, y2⟩ := jZ RY
 have yf := fun j => aj.frozen RY j
 have yl := RY.lt
 go_wp2_with fail
 clear x0 x1 x2 xf xl
 clear y0 y1 y2 yf yl
 refine (UG d.reg _ _ _ (HV.out.e.new HB) (HU.out.e.new HB)).mono ?_; rintro x w1 ⟨rfl, hb⟩
 replace RX := RX.new hb
 replace RY := RY.new hb
 replace HB := ah HB hb
 clear hb
 clear hW
 have x3 := ak 3 RX rfl
 have x4 := ak 4 RX rfl
 have xf := fun j => aj.frozen RX j
 have xl := RX.lt
 have y3 := ak 3 RY rfl
 have y4 := ak 4 RY rfl
 have yf := fun j => aj.frozen RY j
 have yl := RY.lt
 go_wp2_with fail
 clear x3 x4 xf xl
 clear y3 y4 yf yl
 refine (Ns d.inT d.inr _ _ _ (dM (HV.out.i.new HB)) (dM (HU.out.i.new HB))).mono ?_; rintro x w2 ⟨rfl, hb⟩
 replace RX := RX.new hb
 replace RY := RY.new hb
 replace HB := ah HB hb
 clear hb
 have x5 := ak 5 RX rfl
 have x6 := ak 6 RX rfl
 have xf := fun j => aj.frozen RX j
 have xl := RX.lt
 have y5 := ak 5 RY rfl
 have y6 := ak 6 RY rfl
 have yf := fun j => aj.frozen RY j
 have yl := RY.lt
 go_wp2_with fail
 clear x5 x6 xf xl
 clear y5 y6 yf yl
 refine (Ns d.outT d.au _ _ _ (dM (HV.out.o.new HB)) (dM (HU.out.o.new HB))).mono ?_; rintro x w3 ⟨rfl, hb⟩
 replace RX := RX.new hb
 replace RY := RY.new hb
 replace HB := ah HB hb
 clear hb
 have x7 := ak 7 RX rfl
 have x8 := ak 8 RX rfl
 have x9 := ak 9 RX rfl
 have x10 := ak 10 RX rfl
 have xf := fun j => aj.frozen RX j
 have xl := RX.lt
 have y7 := ak 7 RY rfl
 have y8 := ak 8 RY rfl
 have y9 := ak 9 RY rfl
 have rQ := ak 10 RY rfl
 have yf := fun j => aj.frozen RY j
 have yl := RY.lt
 go_wp2_with fail
 clear x7 x8 x9 x10 xf xl
 clear y7 y8 y9 rQ yf yl
 refine (TW d.flows _ _ _ (HV.out.f.new HB) (HU.out.f.new HB)).mono ?_; rintro x w4 ⟨rfl, hb⟩
 replace RX := RX.new hb
 replace RY := RY.new hb
 replace HB := ah HB hb
 clear hb
 have bC := ak 11 RX rfl
 have bS := ak 12 RX rfl
 have xf := fun j => aj.frozen RX j
 have xl := RX.lt
 have wB := ak 11 RY rfl
 have wC := ak 12 RY rfl
 have yf := fun j => aj.frozen RY j
 have yl := RY.lt
 have c0 : (d.away != d.away) = false := by simp
 have c1 : (d.dead != d.dead) = false := by simp
 go_wp2_with fail
 go_ret
 exact ⟨rfl, HB⟩
set_option maxHeartbeats 4000000 in
theorem QY (d : aH) (ve vi vo vf : Value) (left : Int) (w : World) (hv : je w d ve vi vo vf) (h0 : 0 ≤ left) (h1 : left ≤ 1048576) :
  Calls Tryz.prog 4 #[bH d ve vi vo vf, .int .i64 left] w fun x w' => (x = .returned (.int .i64 (-1)) ∨ (x = .returned (.int .i64 (left - nN d)) ∧ 0 ≤ left - nN d)) ∧ Below w.heap.size w w' := by
 dsimp only [bH] at *
 have HV := hide hv
 clear hv
 obtain ⟨ae, pe, rfl, _⟩ := HV.out.e.form
 obtain ⟨ai, pi, rfl, _⟩ := HV.out.i.form
 obtain ⟨ao, po, rfl, _⟩ := HV.out.o.form
 obtain ⟨af, pf, rfl, _⟩ := HV.out.f.form
 obtain ⟨s1, s2, s3, s4⟩ := Fw d
 unfold nN
 have RX := aB w 30 [.int .i64 d.reg.lim, .int .i64 d.reg.top, .slice ae d.reg.es.length pe, .int .i64 d.inr, .slice ai d.inT.length pi, .int .i64 d.au, .slice ao d.outT.length po, .int .i64 d.get, .int .i64 d.give, .int .i64 d.first, .slice af d.flows.length pf, .bool d.away, .bool d.dead]
 have HB : Below w.heap.size w (w.alloc (.cells #[.int .i64 d.reg.lim, .int .i64 d.reg.top, .slice ae d.reg.es.length pe, .int .i64 d.inr, .slice ai d.inT.length pi, .int .i64 d.au, .slice ao d.outT.length po, .int .i64 d.get, .int .i64 d.give, .int .i64 d.first, .slice af d.flows.length pf, .bool d.away, .bool d.dead] 30)) := (Below.refl _ _).alloc (Nat.le_refl _) _
 obtain ⟨R, hR⟩ : ∃ R, left - (nQ d.reg + iC d.inT + iC d.outT + kH d.flows) = R := ⟨_, rfl⟩
 rw [hR]
 go_enter Tryz.func4, Tryz.ntmps4
 go_wp2_with fail
 refine (UK d.reg _ left _ (HV.out.e.new HB) (by omega) (by omega)).mono ?_; rintro x u0 ⟨rfl | ⟨rfl, hp0⟩, hb⟩
 ·replace HB := ah HB hb
  go_wp2_with fail
  go_ret
  exact ⟨.inl rfl, HB⟩
 obtain ⟨q0, hq0⟩ : ∃ q, left - nQ d.reg = q := ⟨_, rfl⟩
 rw [hq0] at hp0 ⊢
 have hn0 : ¬ q0 < 0 := by omega
 replace RX := RX.new hb
 replace HB := ah HB hb
 clear hb
 have x3 := ak 3 RX rfl
 have x4 := ak 4 RX rfl
 have xf := fun j => aj.frozen RX j
 have xl := RX.lt
 go_wp2_with fail
 clear x3 x4 xf xl
 refine (Pt d.inT d.inr _ q0 _ (HV.out.i.new HB) (by omega) (by omega)).mono ?_; rintro x u1 ⟨rfl | ⟨rfl, hp1⟩, hb⟩
 ·replace HB := ah HB hb
  go_wp2_with fail
  go_ret
  exact ⟨.inl rfl, HB⟩
 obtain ⟨q1, hq1⟩ : ∃ q, q0 - iC d.inT = q := ⟨_, rfl⟩
 rw [hq1] at hp1 ⊢
 have hn1 : ¬ q1 < 0 := by omega
 replace RX := RX.new hb
 replace HB := ah HB hb
 clear hb
 have x5 := ak 5 RX rfl
 have x6 := ak 6 RX rfl
 have xf := fun j => aj.frozen RX j
 have xl := RX.lt
 go_wp2_with fail
 clear x5 x6 xf xl
 refine (Pt d.outT d.au _ q1 _ (HV.out.o.new HB) (by omega) (by omega)).mono ?_; rintro x u2 ⟨rfl | ⟨rfl, hp2⟩, hb⟩
 ·replace HB := ah HB hb
  go_wp2_with fail
  go_ret
  exact ⟨.inl rfl, HB⟩
 obtain ⟨q2, hq2⟩ : ∃ q, q1 - iC d.outT = q := ⟨_, rfl⟩
 rw [hq2] at hp2 ⊢
 have hn2 : ¬ q2 < 0 := by omega
 replace RX := RX.new hb
 replace HB := ah HB hb
 clear hb
 have x10 := ak 10 RX rfl
 have xf := fun j => aj.frozen RX j
 have xl := RX.lt
 go_wp2_with fail
 clear x10 xf xl
 refine (Ud d.flows _ q2 _ (HV.out.f.new HB) (by omega) (by omega)).mono ?_; rintro x u3 ⟨rfl | ⟨rfl, hp3⟩, hb⟩
 ·replace HB := ah HB hb
  go_wp2_with fail
  go_ret
  exact ⟨.inl rfl, HB⟩
 have hq3 : q2 - kH d.flows = R := by omega
 rw [hq3] at hp3 ⊢
 have hn3 : ¬ R < 0 := by omega
 replace RX := RX.new hb
 replace HB := ah HB hb
 clear hb
 clear hR hq0 hq1 hq2 hq3
 go_wp2_with fail
 go_ret
 exact ⟨.inr ⟨rfl, hp3⟩, HB⟩
theorem jI {c : aH} : dV c = true ↔ fE c.reg = true ∧ bI c.inr c.inT = true ∧ bI c.au c.outT = true ∧ fP c.get = true ∧ fP c.give = true ∧ aQ c.first 0 16777215 = true ∧ eX c.flows c.reg.es = true := by
 unfold dV; simp only [Bool.and_eq_true, and_assoc]
theorem Jm {f : aV} {e : aF} : gN f e = true ↔ f.id = e.id ∧ fP f.get = true ∧ fP f.give = true ∧ dZ f.fds = true ∧ jJ f.tun = true := by
 unfold gN; simp only [Bool.and_eq_true, decide_eq_true_eq, and_assoc]
theorem PE : ∀ {fs : List aV} {es : List aF} {k : Nat} {g : aV}, eX fs es = true → (∀ hk : k < fs.length, ∀ e, gN fs[k] e = true → gN g e = true) → eX (fs.set k g) es = true
 | [], [], _, _, _, _ => rfl
 | f :: fs, e :: es, k, g, h, hg => by
  simp only [eX, Bool.and_eq_true] at h
  cases k with
  | zero => simp only [List.set_cons_zero, eX, Bool.and_eq_true]; exact ⟨hg (by simp) e h.1, h.2⟩
  | succ k =>
   simp only [List.set_cons_succ, eX, Bool.and_eq_true]
   exact ⟨h.1, PE h.2 fun hk e he => hg (by simpa using hk) e he⟩
 | [], _ :: _, _, _, h, _ => by simp [eX] at h
 | _ :: _, [], _, _, h, _ => by simp [eX] at h
theorem ZK {f : aV} {e e' : aF} (h : gN f e = true) (hi : e.id = e'.id) : gN f e' = true := by
 rw [Jm] at h ⊢; exact ⟨by rw [h.1, hi], h.2⟩
theorem Jp : ∀ {fs : List aV} {es es' : List aF}, eX fs es = true → es.map aF.id = es'.map aF.id → eX fs es' = true
 | [], [], [], _, _ => rfl
 | f :: fs, e :: es, e' :: es', h, hi => by
  simp only [eX, Bool.and_eq_true] at h ⊢
  simp only [List.map_cons, List.cons.injEq] at hi
  exact ⟨ZK h.1 hi.1, Jp h.2 hi.2⟩
 | [], _ :: _, _, h, _ => by simp [eX] at h
 | _ :: _, [], _, h, _ => by simp [eX] at h
 | [], [], _ :: _, _, hi => by simp at hi
 | _ :: _, _ :: _, [], _, hi => by simp at hi
theorem CX (r : bZ) (id ev : Int) : (gq r id ev).1.es.map aF.id = r.es.map aF.id := by
 cases hq : dI r.es id with
 | none => rw [Dm hq]
 | some k =>
  obtain ⟨hk, _, _⟩ := mH hq
  rw [zU hq hk]
  show (r.es.set k ⟨r.es[k].id, _⟩).map aF.id = _
  rw [List.map_set]
  refine List.ext_getElem? fun j => ?_
  rw [List.getElem?_set]
  split
  ·rename_i hj
   subst hj
   simp [hk]
  ·rfl
theorem ZL {c : aH} (id ev : Int) (h : dV c = true) : dV (oD c id ev) = true := by
 rw [jI] at h ⊢
 exact ⟨(Mc h.1).1, h.2.1, h.2.2.1, h.2.2.2.1, h.2.2.2.2.1, h.2.2.2.2.2.1, Jp h.2.2.2.2.2.2 (CX _ _ _).symm⟩
set_option maxHeartbeats 1000000 in
theorem ZM (v : Value) (n : Nat) (xs : List Value) (w : World) (hr : Reads w v n 15 xs) (h1 : ∀ u ∈ xs, u.oneCell' = true) (hn : n ≤ 2097152) :
  Calls Tryz.prog 120 #[v] w fun x w' => ∃ v', x = .returned v' ∧ w'.ownsRow w.heap.size 92 15 v' n xs ∧ Below w.heap.size w w' := by
 have HR := hide hr
 obtain ⟨hl, ad, cap, rfl, h2, h3, h4⟩ := hr
 have q : ∀ (w : World) (a : Option Addr) (n c n' c' : Nat), (binOp .eql 38 (.slice a n c) (.slice none n' c')).run Tryz.prog w = .ok (.bool a.isNone) w := fun w a n c n' c' => Lib.run_eql_slice_nil w _ _ a n c n' c' Tryz.underlying38
 cases ad with
 | none =>
  have hn0 : n = 0 := by
   rcases Nat.eq_zero_or_pos n with h | h
   ·exact h
   ·obtain ⟨b, o, e, _⟩ := h4 h; cases e
  subst hn0
  have hx : xs = [] := List.eq_nil_of_length_eq_zero (by simpa using hl)
  subst hx
  clear h4 HR
  go_enter Tryz.func120, Tryz.ntmps120
  go_wp2_with fail
  go_ret
  exact ⟨_, rfl, World.ownsRow_nil _ _ _ _, Below.refl _ _⟩
 | some a =>
  clear h4
  go_enter Tryz.func120, Tryz.ntmps120
  go_wp2_with (at_builtin; go_must (refine yC _ (by rfl) _ _ 38 (by rfl) 92 (.agg #[.int .i64 0, .int .i64 0, .int .i64 0, .slice none 0 0, .int .i64 0, .string ⟨#[]⟩, .bool false, .bool false, .int .i64 0, .string ⟨#[]⟩, .bool false, .bool false, .int .i64 0, .int .i64 0, .bool false]) 15 136 Tryz.underlying38 (by kernel_rfl) rfl (by decide) w.heap.size _ 0 [] (by rfl) (World.ownsRow_made w #[] 0 (Nat.le_refl _) (Nat.zero_le _) rfl) _ n xs (by rfl) (HR.out.new ((Below.refl _ _).alloc (Nat.le_refl _) _)) h1 (by omega) (by decide) (by simp) ?_))
  intro fV AP w7 kN jT qK
  have dK : Below w.heap.size w w7 := ((Below.refl _ w).alloc (Nat.le_refl _) _).grown jT (by simp) (by intro k hk; simp [Value.ownBlock] at hk; omega)
  try simp only [Nat.zero_add, List.nil_append] at kN
  have HO := hide kN
  clear jT qK kN
  go_wp2_with fail
  go_ret
  refine ⟨_, rfl, ?_, dK⟩
  simpa using HO.out
set_option maxHeartbeats 1000000 in
theorem Zw (v : Value) (n : Nat) (xs : List Value) (w : World) (hr : Reads w v n 2 xs) (h1 : ∀ u ∈ xs, u.oneCell' = true) (hn : n ≤ 2097152) :
  Calls Tryz.prog 198 #[v] w fun x w' => ∃ v', x = .returned v' ∧ w'.ownsRow w.heap.size 104 2 v' n xs ∧ Below w.heap.size w w' := by
 have HR := hide hr
 obtain ⟨hl, ad, cap, rfl, h2, h3, h4⟩ := hr
 have q : ∀ (w : World) (a : Option Addr) (n c n' c' : Nat), (binOp .eql 35 (.slice a n c) (.slice none n' c')).run Tryz.prog w = .ok (.bool a.isNone) w := fun w a n c n' c' => Lib.run_eql_slice_nil w _ _ a n c n' c' Tryz.underlying35
 cases ad with
 | none =>
  have hn0 : n = 0 := by
   rcases Nat.eq_zero_or_pos n with h | h
   ·exact h
   ·obtain ⟨b, o, e, _⟩ := h4 h; cases e
  subst hn0
  have hx : xs = [] := List.eq_nil_of_length_eq_zero (by simpa using hl)
  subst hx
  clear h4 HR
  go_enter Tryz.func198, Tryz.ntmps198
  go_wp2_with fail
  go_ret
  exact ⟨_, rfl, World.ownsRow_nil _ _ _ _, Below.refl _ _⟩
 | some a =>
  clear h4
  go_enter Tryz.func198, Tryz.ntmps198
  go_wp2_with (at_builtin; go_must (refine yC _ (by rfl) _ _ 35 (by rfl) 104 (.agg #[.string ⟨#[]⟩, .string ⟨#[]⟩]) 2 32 Tryz.underlying35 (by kernel_rfl) rfl (by decide) w.heap.size _ 0 [] (by rfl) (World.ownsRow_made w #[] 0 (Nat.le_refl _) (Nat.zero_le _) rfl) _ n xs (by rfl) (HR.out.new ((Below.refl _ _).alloc (Nat.le_refl _) _)) h1 (by omega) (by decide) (by simp) ?_))
  intro fV AP w7 kN jT qK
  have dK : Below w.heap.size w w7 := ((Below.refl _ w).alloc (Nat.le_refl _) _).grown jT (by simp) (by intro k hk; simp [Value.ownBlock] at hk; omega)
  try simp only [Nat.zero_add, List.nil_append] at kN
  have HO := hide kN
  clear jT qK kN
  go_wp2_with fail
  go_ret
  refine ⟨_, rfl, ?_, dK⟩
  simpa using HO.out
set_option maxHeartbeats 20000000 in
theorem ZA (L : List aV) (k : Nat) (v : Value) (bs : List Nat) (w : World) (ho : aW bF w v L bs) (hn : bs.Nodup) (hk1 : k + lM L ≤ 1000000000) :
  Calls Tryz.prog 33 #[v, .int .i64 k] w fun x w' => x = .returned (.int .i64 ((k + lM L : Nat) : Int)) ∧ aW bF w' v (wo L k) bs ∧ aG bs w w' := by
 obtain ⟨ad, cap, rfl, h1, h2⟩ := ho.rd.form
 unfold lM wo at *
 have uG : Hid (aW bF w (.slice ad L.length cap) (jR wm eU L k 0) bs) := by show aW _ _ _ _ _; rw [MC]; exact ho
 clear ho
 have HN := hide hn
 clear hn
 go_enter Tryz.func33, Tryz.ntmps33
 go_wp2_with fail
 go_loopw [1, 5] (fun kk i wr => ∃ (j : Nat), i = .int .i64 j ∧ kk = .int .i64 ((k + dF eU (L.take j) : Nat) : Int) ∧ j ≤ L.length ∧ Hid (aW bF wr (.slice ad L.length cap) (jR wm eU L k j) bs) ∧ Hid (aG bs w wr)) (fun _ i _ => L.length - (intOf i).toNat)
 case atStart => exact ⟨0, rfl, by simp [dF], Nat.zero_le _, uG, aG.refl _ _⟩
 case round =>
  clear uG
  obtain ⟨j, rfl, rfl, hj, HO, HT⟩ := hrel
  by_cases hlt : j < L.length
  ·have hct := Dv eU L j hlt
   have hcl := Dw eU L (j + 1)
   have hst := MB wm eU L k j hlt
   have hat := Mx wm eU L k j hlt (by rw [Dx _ _ L k j hj]; exact hlt)
   have hml := Dx wm eU L k j hj
   obtain ⟨d, hd⟩ : ∃ d, d = L[j] := ⟨_, rfl⟩
   rw [← hd] at hct hst hat
   obtain ⟨K, hK⟩ : ∃ K : Nat, K = k + dF eU (L.take j) := ⟨_, rfl⟩
   rw [← hK] at hst ⊢
   obtain ⟨M, hM⟩ : ∃ M, M = jR wm eU L k j := ⟨_, rfl⟩
   rw [← hM] at hst hml
   have ZN : Hid (aW bF wr (.slice ad L.length cap) M bs) := by show aW _ _ _ _ _; rw [hM]; exact HO.out
   have HAT : Hid (∀ h : j < M.length, M[j] = d) := fun h => by subst hM; exact hat
   have hKc : K + eU d = k + dF eU (L.take (j + 1)) := by omega
   have wM := hide hKc
   have hKb : K + eU d ≤ 1000000000 := by omega
   unfold eU at hKb
   have HST := hide hst
   have lX : j < M.length := by omega
   have ZO := hide HT.out
   clear hct hcl hst hat hM HO hd hK hKc HT
   obtain ⟨g0, c0, cs, bb, e1, hgl0, hgm, hgb, hsub, hbn, hown, hcell, hfr, _, hkeep, lq⟩ := ZN.out.put HN.out j (by simpa using lX)
   have PG : (M)[j]'(by simpa using lX) = d := HAT.out lX
   rw [PG] at hown
   obtain ⟨iB, b0, rfl, f0, f1, fq, hbb⟩ := hown
   simp only [Value.slice.injEq] at e1
   obtain ⟨rfl, -, -⟩ := e1
   obtain ⟨Ez, EA, rfl, _⟩ := fq.rd.form
   have ZP : wr.cell? ⟨g0, j * 15, none⟩ = some (.int .i64 d.id) := hcell 0 _ rfl
   have ZQ : wr.cell? ⟨g0, j * 15 + 1, none⟩ = some (.int .i64 d.get) := hcell 1 _ rfl
   have ZR : wr.cell? ⟨g0, j * 15 + 2, none⟩ = some (.int .i64 d.give) := hcell 2 _ rfl
   have PK : wr.cell? ⟨g0, j * 15 + 3, none⟩ = some (.slice Ez d.fds.length EA) := hcell 3 _ rfl
   have ZT := fun q => hfr q
   have Jq : Hid (aW bF (fJ wr g0 (j * bF.size + ([] : List Value).length) [.int .i64 ((K : Nat) : Int), .int .i64 ((K + 1 : Nat) : Int), .int .i64 ((K + 1 + 1 : Nat) : Int)]) _ ((M).set j ⟨((K : Nat) : Int), ((K + 1 : Nat) : Int), ((K + 1 + 1 : Nat) : Int), d.fds, ⟨⟨d.tun.up.r, d.tun.up.b, d.tun.up.e, d.tun.up.k⟩, ⟨d.tun.dn.r, d.tun.dn.b, d.tun.dn.e, d.tun.dn.k⟩, d.tun.went, d.tun.came⟩, d.ended⟩) bs) := lq [] [.int .i64 d.id, .int .i64 d.get, .int .i64 d.give] [.slice Ez d.fds.length EA, .int .i64 d.tun.up.r, .string d.tun.up.b, .bool d.tun.up.e, .bool d.tun.up.k, .int .i64 d.tun.dn.r, .string d.tun.dn.b, .bool d.tun.dn.e, .bool d.tun.dn.k, .int .i64 d.tun.went, .int .i64 d.tun.came, .bool d.ended] [.int .i64 ((K : Nat) : Int), .int .i64 ((K + 1 : Nat) : Int), .int .i64 ((K + 1 + 1 : Nat) : Int)] ⟨((K : Nat) : Int), ((K + 1 : Nat) : Int), ((K + 1 + 1 : Nat) : Int), d.fds, ⟨⟨d.tun.up.r, d.tun.up.b, d.tun.up.e, d.tun.up.k⟩, ⟨d.tun.dn.r, d.tun.dn.b, d.tun.dn.e, d.tun.dn.k⟩, d.tun.went, d.tun.came⟩, d.ended⟩ rfl rfl ⟨_, _, rfl, f0, f1, fq, hbb⟩
   have PL : Hid (aG bs w (fJ wr g0 (j * bF.size + ([] : List Value).length) [.int .i64 ((K : Nat) : Int), .int .i64 ((K + 1 : Nat) : Int), .int .i64 ((K + 1 + 1 : Nat) : Int)])) := aG.fJ g0 hgm _ _ _ ZO.out
   change Hid (aW bF (((wr.setCell ⟨g0, j * 15, none⟩ (.int .i64 ((K : Int)))).setCell ⟨g0, j * 15 + 1, none⟩ (.int .i64 ((K : Int) + 1))).setCell ⟨g0, j * 15 + 2, none⟩ (.int .i64 ((K : Int) + 1 + 1))) _ _ _) at Jq
   change Hid (aG bs w (((wr.setCell ⟨g0, j * 15, none⟩ (.int .i64 ((K : Int)))).setCell ⟨g0, j * 15 + 1, none⟩ (.int .i64 ((K : Int) + 1))).setCell ⟨g0, j * 15 + 2, none⟩ (.int .i64 ((K : Int) + 1 + 1)))) at PL
   have PN : Hid (World.cell? (((wr.setCell ⟨g0, j * 15, none⟩ (.int .i64 ((K : Int)))).setCell ⟨g0, j * 15 + 1, none⟩ (.int .i64 ((K : Int) + 1))).setCell ⟨g0, j * 15 + 2, none⟩ (.int .i64 ((K : Int) + 1 + 1))) ⟨g0, j * 15 + 3, none⟩ = some (.slice Ez d.fds.length EA)) := by show _ = _; rw [World.cell?_setCell_other _ _ _ _ (by simp)]; rw [World.cell?_setCell_other _ _ _ _ (by simp)]; rw [World.cell?_setCell_other _ _ _ _ (by simp)]; exact PK
   clear hcell hkeep lq hsub hbn hgb hbb PG hfr fq
   go_wp2_with fail
   clear ZP ZQ ZR PK ZT
   generalize (((wr.setCell ⟨g0, j * 15, none⟩ (.int .i64 ((K : Int)))).setCell ⟨g0, j * 15 + 1, none⟩ (.int .i64 ((K : Int) + 1))).setCell ⟨g0, j * 15 + 2, none⟩ (.int .i64 ((K : Int) + 1 + 1))) = V0 at *
   obtain ⟨g1, c1, cs, bb, e1, Nk, hgm, hgb, hsub, hbn, hown, hcell, hfr, _, hkeep, lq⟩ := Jq.out.put HN.out j (by simpa using lX)
   have eq1 : ((M).set j ⟨((K : Nat) : Int), ((K + 1 : Nat) : Int), ((K + 1 + 1 : Nat) : Int), d.fds, ⟨⟨d.tun.up.r, d.tun.up.b, d.tun.up.e, d.tun.up.k⟩, ⟨d.tun.dn.r, d.tun.dn.b, d.tun.dn.e, d.tun.dn.k⟩, d.tun.went, d.tun.came⟩, d.ended⟩)[j]'(by simpa using lX) = ⟨((K : Nat) : Int), ((K + 1 : Nat) : Int), ((K + 1 + 1 : Nat) : Int), d.fds, ⟨⟨d.tun.up.r, d.tun.up.b, d.tun.up.e, d.tun.up.k⟩, ⟨d.tun.dn.r, d.tun.dn.b, d.tun.dn.e, d.tun.dn.k⟩, d.tun.went, d.tun.came⟩, d.ended⟩ := by simp
   rw [eq1] at hown
   obtain ⟨iB, b0, rfl, f0, f1, fq, hbb⟩ := hown
   simp only [Value.slice.injEq, Option.some.injEq, Addr.mk.injEq] at e1
   obtain ⟨⟨rfl, -, -⟩, -, -⟩ := e1
   obtain rfl := Option.some.inj (PN.out.symm.trans (hcell 3 _ rfl))
   subst hbb
   have HQ := hide fq
   have PO := hide hkeep
   have zK := hide hsub
   have BF := hide hbn
   clear hcell hkeep lq hsub hbn hgb fq eq1 hfr
   have hcl := WI d.fds (K + 1 + 1 + 1) _ _ _ HQ.out BF.out (by omega)
   refine (show Calls _ _ #[.slice Ez d.fds.length EA, .int .i64 ((K : Int) + 1 + 1 + 1)] _ _ from hcl).mono ?_
   rintro x Y1 ⟨rfl, hoq, EB⟩
   have ZU : Hid (aW bF Y1 _ (((M).set j ⟨((K : Nat) : Int), ((K + 1 : Nat) : Int), ((K + 1 + 1 : Nat) : Int), d.fds, ⟨⟨d.tun.up.r, d.tun.up.b, d.tun.up.e, d.tun.up.k⟩, ⟨d.tun.dn.r, d.tun.dn.b, d.tun.dn.e, d.tun.dn.k⟩, d.tun.went, d.tun.came⟩, d.ended⟩).set j ⟨((K : Nat) : Int), ((K + 1 : Nat) : Int), ((K + 1 + 1 : Nat) : Int), bQ d.fds (K + 1 + 1 + 1), ⟨⟨d.tun.up.r, d.tun.up.b, d.tun.up.e, d.tun.up.k⟩, ⟨d.tun.dn.r, d.tun.dn.b, d.tun.dn.e, d.tun.dn.k⟩, d.tun.went, d.tun.came⟩, d.ended⟩) bs) := PO.out Y1 ⟨((K : Nat) : Int), ((K + 1 : Nat) : Int), ((K + 1 + 1 : Nat) : Int), bQ d.fds (K + 1 + 1 + 1), ⟨⟨d.tun.up.r, d.tun.up.b, d.tun.up.e, d.tun.up.k⟩, ⟨d.tun.dn.r, d.tun.dn.b, d.tun.dn.e, d.tun.dn.k⟩, d.tun.went, d.tun.came⟩, d.ended⟩ ⟨_, _, rfl, f0, f1, hoq, rfl⟩ EB.size (fun x hx hnx => EB.block x (Jq.out.lt x hx) hnx)
   have ZV : Hid (aG bs w Y1) := PL.out.trans (EB.wide (fun x hx => zK.out x hx))
   clear hoq EB PO zK HQ BF hcl PN f0 f1
   obtain ⟨g2, c2, cs, bb, e1, ZW, hgm, hgb, hsub, hbn, hown, hcell, hfr, _, hkeep, lq⟩ := ZU.out.put HN.out j (by simpa using lX)
   have PS : (((M).set j ⟨((K : Nat) : Int), ((K + 1 : Nat) : Int), ((K + 1 + 1 : Nat) : Int), d.fds, ⟨⟨d.tun.up.r, d.tun.up.b, d.tun.up.e, d.tun.up.k⟩, ⟨d.tun.dn.r, d.tun.dn.b, d.tun.dn.e, d.tun.dn.k⟩, d.tun.went, d.tun.came⟩, d.ended⟩).set j ⟨((K : Nat) : Int), ((K + 1 : Nat) : Int), ((K + 1 + 1 : Nat) : Int), bQ d.fds (K + 1 + 1 + 1), ⟨⟨d.tun.up.r, d.tun.up.b, d.tun.up.e, d.tun.up.k⟩, ⟨d.tun.dn.r, d.tun.dn.b, d.tun.dn.e, d.tun.dn.k⟩, d.tun.went, d.tun.came⟩, d.ended⟩)[j]'(by simpa using lX) = ⟨((K : Nat) : Int), ((K + 1 : Nat) : Int), ((K + 1 + 1 : Nat) : Int), bQ d.fds (K + 1 + 1 + 1), ⟨⟨d.tun.up.r, d.tun.up.b, d.tun.up.e, d.tun.up.k⟩, ⟨d.tun.dn.r, d.tun.dn.b, d.tun.dn.e, d.tun.dn.k⟩, d.tun.went, d.tun.came⟩, d.ended⟩ := by simp
   rw [PS] at hown
   obtain ⟨iB, b0, rfl, f0, f1, fq, hbb⟩ := hown
   simp only [Value.slice.injEq, Option.some.injEq, Addr.mk.injEq] at e1
   obtain ⟨⟨rfl, -, -⟩, -, -⟩ := e1
   obtain ⟨Jr, Js, rfl, _⟩ := fq.rd.form
   have ZX : Y1.cell? ⟨g0, j * 15 + 4, none⟩ = some (.int .i64 d.tun.up.r) := hcell 4 _ rfl
   have ZY := fun q => hfr q
   have Jt : Hid (aW bF (fJ Y1 g0 (j * bF.size + ([.int .i64 ((K : Nat) : Int), .int .i64 ((K + 1 : Nat) : Int), .int .i64 ((K + 1 + 1 : Nat) : Int), .slice Jr (bQ d.fds (K + 1 + 1 + 1)).length Js] : List Value).length) [.int .i64 ((K + 1 + 1 + 1 + av d.fds : Nat) : Int)]) _ ((((M).set j ⟨((K : Nat) : Int), ((K + 1 : Nat) : Int), ((K + 1 + 1 : Nat) : Int), d.fds, ⟨⟨d.tun.up.r, d.tun.up.b, d.tun.up.e, d.tun.up.k⟩, ⟨d.tun.dn.r, d.tun.dn.b, d.tun.dn.e, d.tun.dn.k⟩, d.tun.went, d.tun.came⟩, d.ended⟩).set j ⟨((K : Nat) : Int), ((K + 1 : Nat) : Int), ((K + 1 + 1 : Nat) : Int), bQ d.fds (K + 1 + 1 + 1), ⟨⟨d.tun.up.r, d.tun.up.b, d.tun.up.e, d.tun.up.k⟩, ⟨d.tun.dn.r, d.tun.dn.b, d.tun.dn.e, d.tun.dn.k⟩, d.tun.went, d.tun.came⟩, d.ended⟩).set j ⟨((K : Nat) : Int), ((K + 1 : Nat) : Int), ((K + 1 + 1 : Nat) : Int), bQ d.fds (K + 1 + 1 + 1), ⟨⟨((K + 1 + 1 + 1 + av d.fds : Nat) : Int), d.tun.up.b, d.tun.up.e, d.tun.up.k⟩, ⟨d.tun.dn.r, d.tun.dn.b, d.tun.dn.e, d.tun.dn.k⟩, d.tun.went, d.tun.came⟩, d.ended⟩) bs) := lq [.int .i64 ((K : Nat) : Int), .int .i64 ((K + 1 : Nat) : Int), .int .i64 ((K + 1 + 1 : Nat) : Int), .slice Jr (bQ d.fds (K + 1 + 1 + 1)).length Js] [.int .i64 d.tun.up.r] [.string d.tun.up.b, .bool d.tun.up.e, .bool d.tun.up.k, .int .i64 d.tun.dn.r, .string d.tun.dn.b, .bool d.tun.dn.e, .bool d.tun.dn.k, .int .i64 d.tun.went, .int .i64 d.tun.came, .bool d.ended] [.int .i64 ((K + 1 + 1 + 1 + av d.fds : Nat) : Int)] ⟨((K : Nat) : Int), ((K + 1 : Nat) : Int), ((K + 1 + 1 : Nat) : Int), bQ d.fds (K + 1 + 1 + 1), ⟨⟨((K + 1 + 1 + 1 + av d.fds : Nat) : Int), d.tun.up.b, d.tun.up.e, d.tun.up.k⟩, ⟨d.tun.dn.r, d.tun.dn.b, d.tun.dn.e, d.tun.dn.k⟩, d.tun.went, d.tun.came⟩, d.ended⟩ rfl rfl ⟨_, _, rfl, f0, f1, fq, hbb⟩
   have PU : Hid (aG bs w (fJ Y1 g0 (j * bF.size + ([.int .i64 ((K : Nat) : Int), .int .i64 ((K + 1 : Nat) : Int), .int .i64 ((K + 1 + 1 : Nat) : Int), .slice Jr (bQ d.fds (K + 1 + 1 + 1)).length Js] : List Value).length) [.int .i64 ((K + 1 + 1 + 1 + av d.fds : Nat) : Int)])) := aG.fJ g0 hgm _ _ _ ZV.out
   change Hid (aW bF (Y1.setCell ⟨g0, j * 15 + 4, none⟩ (.int .i64 ((K : Int) + 1 + 1 + 1 + av d.fds))) _ _ _) at Jt
   change Hid (aG bs w (Y1.setCell ⟨g0, j * 15 + 4, none⟩ (.int .i64 ((K : Int) + 1 + 1 + 1 + av d.fds)))) at PU
   clear hcell hkeep lq hsub hbn hgb hbb PS hfr fq
   go_wp2_with fail
   clear ZX ZY
   generalize (Y1.setCell ⟨g0, j * 15 + 4, none⟩ (.int .i64 ((K : Int) + 1 + 1 + 1 + av d.fds))) = V2 at *
   refine (show Calls _ _ #[.int .i64 ((K : Int) + 1 + 1 + 1 + av d.fds + 1)] _ _ from qA (K + 1 + 1 + 1 + av d.fds + 1) _ (by omega)).mono ?_
   rintro x X3 ⟨rfl, hbx⟩
   have zA := hide (Jt.out.keep hbx.size (fun b hb => hbx.block b (Jt.out.lt b hb)))
   have Z0 := hide (PU.out.trans (aG.new hbx))
   clear hbx
   obtain ⟨g4, c4, cs, bb, e1, hgl4, hgm, hgb, hsub, hbn, hown, hcell, hfr, _, hkeep, lq⟩ := zA.out.put HN.out j (by simpa using lX)
   have PV : ((((M).set j ⟨((K : Nat) : Int), ((K + 1 : Nat) : Int), ((K + 1 + 1 : Nat) : Int), d.fds, ⟨⟨d.tun.up.r, d.tun.up.b, d.tun.up.e, d.tun.up.k⟩, ⟨d.tun.dn.r, d.tun.dn.b, d.tun.dn.e, d.tun.dn.k⟩, d.tun.went, d.tun.came⟩, d.ended⟩).set j ⟨((K : Nat) : Int), ((K + 1 : Nat) : Int), ((K + 1 + 1 : Nat) : Int), bQ d.fds (K + 1 + 1 + 1), ⟨⟨d.tun.up.r, d.tun.up.b, d.tun.up.e, d.tun.up.k⟩, ⟨d.tun.dn.r, d.tun.dn.b, d.tun.dn.e, d.tun.dn.k⟩, d.tun.went, d.tun.came⟩, d.ended⟩).set j ⟨((K : Nat) : Int), ((K + 1 : Nat) : Int), ((K + 1 + 1 : Nat) : Int), bQ d.fds (K + 1 + 1 + 1), ⟨⟨((K + 1 + 1 + 1 + av d.fds : Nat) : Int), d.tun.up.b, d.tun.up.e, d.tun.up.k⟩, ⟨d.tun.dn.r, d.tun.dn.b, d.tun.dn.e, d.tun.dn.k⟩, d.tun.went, d.tun.came⟩, d.ended⟩)[j]'(by simpa using lX) = ⟨((K : Nat) : Int), ((K + 1 : Nat) : Int), ((K + 1 + 1 : Nat) : Int), bQ d.fds (K + 1 + 1 + 1), ⟨⟨((K + 1 + 1 + 1 + av d.fds : Nat) : Int), d.tun.up.b, d.tun.up.e, d.tun.up.k⟩, ⟨d.tun.dn.r, d.tun.dn.b, d.tun.dn.e, d.tun.dn.k⟩, d.tun.went, d.tun.came⟩, d.ended⟩ := by simp
   rw [PV] at hown
   obtain ⟨iB, b0, rfl, f0, f1, fq, hbb⟩ := hown
   simp only [Value.slice.injEq, Option.some.injEq, Addr.mk.injEq] at e1
   obtain ⟨⟨rfl, -, -⟩, -, -⟩ := e1
   obtain ⟨Ju, Jv, rfl, _⟩ := fq.rd.form
   have Z4 : X3.cell? ⟨g0, j * 15 + 4 + 1, none⟩ = some (.string d.tun.up.b) := hcell 5 _ rfl
   have Z5 : X3.cell? ⟨g0, j * 15 + 4 + 2, none⟩ = some (.bool d.tun.up.e) := hcell 6 _ rfl
   have Z6 : X3.cell? ⟨g0, j * 15 + 4 + 3, none⟩ = some (.bool d.tun.up.k) := hcell 7 _ rfl
   have Z7 : X3.cell? ⟨g0, j * 15 + 4 + 4, none⟩ = some (.int .i64 d.tun.dn.r) := hcell 8 _ rfl
   have Z8 := fun q => hfr q
   have Jw : Hid (aW bF (fJ X3 g0 (j * bF.size + ([.int .i64 ((K : Nat) : Int), .int .i64 ((K + 1 : Nat) : Int), .int .i64 ((K + 1 + 1 : Nat) : Int), .slice Ju (bQ d.fds (K + 1 + 1 + 1)).length Jv, .int .i64 ((K + 1 + 1 + 1 + av d.fds : Nat) : Int)] : List Value).length) [.string (bg (K + 1 + 1 + 1 + av d.fds + 1)), .bool (decide ((K + 1 + 1 + 1 + av d.fds + 1 + 1) % 3 = 0)), .bool (decide ((K + 1 + 1 + 1 + av d.fds + 1 + 1 + 1) % 3 = 0)), .int .i64 ((K + 1 + 1 + 1 + av d.fds + 1 + 1 + 1 + 1 : Nat) : Int)]) _ (((((M).set j ⟨((K : Nat) : Int), ((K + 1 : Nat) : Int), ((K + 1 + 1 : Nat) : Int), d.fds, ⟨⟨d.tun.up.r, d.tun.up.b, d.tun.up.e, d.tun.up.k⟩, ⟨d.tun.dn.r, d.tun.dn.b, d.tun.dn.e, d.tun.dn.k⟩, d.tun.went, d.tun.came⟩, d.ended⟩).set j ⟨((K : Nat) : Int), ((K + 1 : Nat) : Int), ((K + 1 + 1 : Nat) : Int), bQ d.fds (K + 1 + 1 + 1), ⟨⟨d.tun.up.r, d.tun.up.b, d.tun.up.e, d.tun.up.k⟩, ⟨d.tun.dn.r, d.tun.dn.b, d.tun.dn.e, d.tun.dn.k⟩, d.tun.went, d.tun.came⟩, d.ended⟩).set j ⟨((K : Nat) : Int), ((K + 1 : Nat) : Int), ((K + 1 + 1 : Nat) : Int), bQ d.fds (K + 1 + 1 + 1), ⟨⟨((K + 1 + 1 + 1 + av d.fds : Nat) : Int), d.tun.up.b, d.tun.up.e, d.tun.up.k⟩, ⟨d.tun.dn.r, d.tun.dn.b, d.tun.dn.e, d.tun.dn.k⟩, d.tun.went, d.tun.came⟩, d.ended⟩).set j ⟨((K : Nat) : Int), ((K + 1 : Nat) : Int), ((K + 1 + 1 : Nat) : Int), bQ d.fds (K + 1 + 1 + 1), ⟨⟨((K + 1 + 1 + 1 + av d.fds : Nat) : Int), (bg (K + 1 + 1 + 1 + av d.fds + 1)), (decide ((K + 1 + 1 + 1 + av d.fds + 1 + 1) % 3 = 0)), (decide ((K + 1 + 1 + 1 + av d.fds + 1 + 1 + 1) % 3 = 0))⟩, ⟨((K + 1 + 1 + 1 + av d.fds + 1 + 1 + 1 + 1 : Nat) : Int), d.tun.dn.b, d.tun.dn.e, d.tun.dn.k⟩, d.tun.went, d.tun.came⟩, d.ended⟩) bs) := lq [.int .i64 ((K : Nat) : Int), .int .i64 ((K + 1 : Nat) : Int), .int .i64 ((K + 1 + 1 : Nat) : Int), .slice Ju (bQ d.fds (K + 1 + 1 + 1)).length Jv, .int .i64 ((K + 1 + 1 + 1 + av d.fds : Nat) : Int)] [.string d.tun.up.b, .bool d.tun.up.e, .bool d.tun.up.k, .int .i64 d.tun.dn.r] [.string d.tun.dn.b, .bool d.tun.dn.e, .bool d.tun.dn.k, .int .i64 d.tun.went, .int .i64 d.tun.came, .bool d.ended] [.string (bg (K + 1 + 1 + 1 + av d.fds + 1)), .bool (decide ((K + 1 + 1 + 1 + av d.fds + 1 + 1) % 3 = 0)), .bool (decide ((K + 1 + 1 + 1 + av d.fds + 1 + 1 + 1) % 3 = 0)), .int .i64 ((K + 1 + 1 + 1 + av d.fds + 1 + 1 + 1 + 1 : Nat) : Int)] ⟨((K : Nat) : Int), ((K + 1 : Nat) : Int), ((K + 1 + 1 : Nat) : Int), bQ d.fds (K + 1 + 1 + 1), ⟨⟨((K + 1 + 1 + 1 + av d.fds : Nat) : Int), (bg (K + 1 + 1 + 1 + av d.fds + 1)), (decide ((K + 1 + 1 + 1 + av d.fds + 1 + 1) % 3 = 0)), (decide ((K + 1 + 1 + 1 + av d.fds + 1 + 1 + 1) % 3 = 0))⟩, ⟨((K + 1 + 1 + 1 + av d.fds + 1 + 1 + 1 + 1 : Nat) : Int), d.tun.dn.b, d.tun.dn.e, d.tun.dn.k⟩, d.tun.went, d.tun.came⟩, d.ended⟩ rfl rfl ⟨_, _, rfl, (by have := Aj (K + 1 + 1 + 1 + av d.fds + 1); simp only; omega), f1, fq, hbb⟩
   have PW : Hid (aG bs w (fJ X3 g0 (j * bF.size + ([.int .i64 ((K : Nat) : Int), .int .i64 ((K + 1 : Nat) : Int), .int .i64 ((K + 1 + 1 : Nat) : Int), .slice Ju (bQ d.fds (K + 1 + 1 + 1)).length Jv, .int .i64 ((K + 1 + 1 + 1 + av d.fds : Nat) : Int)] : List Value).length) [.string (bg (K + 1 + 1 + 1 + av d.fds + 1)), .bool (decide ((K + 1 + 1 + 1 + av d.fds + 1 + 1) % 3 = 0)), .bool (decide ((K + 1 + 1 + 1 + av d.fds + 1 + 1 + 1) % 3 = 0)), .int .i64 ((K + 1 + 1 + 1 + av d.fds + 1 + 1 + 1 + 1 : Nat) : Int)])) := aG.fJ g0 hgm _ _ _ Z0.out
   change Hid (aW bF ((((X3.setCell ⟨g0, j * 15 + 4 + 1, none⟩ (.string (bg (K + 1 + 1 + 1 + av d.fds + 1)))).setCell ⟨g0, j * 15 + 4 + 2, none⟩ (.bool (decide ((K + 1 + 1 + 1 + av d.fds + 1 + 1) % 3 = 0)))).setCell ⟨g0, j * 15 + 4 + 3, none⟩ (.bool (decide ((K + 1 + 1 + 1 + av d.fds + 1 + 1 + 1) % 3 = 0)))).setCell ⟨g0, j * 15 + 4 + 4, none⟩ (.int .i64 ((K : Int) + 1 + 1 + 1 + av d.fds + 1 + 1 + 1 + 1))) _ _ _) at Jw
   change Hid (aG bs w ((((X3.setCell ⟨g0, j * 15 + 4 + 1, none⟩ (.string (bg (K + 1 + 1 + 1 + av d.fds + 1)))).setCell ⟨g0, j * 15 + 4 + 2, none⟩ (.bool (decide ((K + 1 + 1 + 1 + av d.fds + 1 + 1) % 3 = 0)))).setCell ⟨g0, j * 15 + 4 + 3, none⟩ (.bool (decide ((K + 1 + 1 + 1 + av d.fds + 1 + 1 + 1) % 3 = 0)))).setCell ⟨g0, j * 15 + 4 + 4, none⟩ (.int .i64 ((K : Int) + 1 + 1 + 1 + av d.fds + 1 + 1 + 1 + 1)))) at PW
   clear hcell hkeep lq hsub hbn hgb hbb PV hfr fq
   have PX : (((K : Int) + 1 + 1 + 1 + av d.fds + 1 + 1) % 3 == 0) = decide ((K + 1 + 1 + 1 + av d.fds + 1 + 1) % 3 = 0) := qm _ _ (by omega)
   have PY : (((K : Int) + 1 + 1 + 1 + av d.fds + 1 + 1 + 1) % 3 == 0) = decide ((K + 1 + 1 + 1 + av d.fds + 1 + 1 + 1) % 3 = 0) := qm _ _ (by omega)
   go_wp2_with fail
   try simp only [PX, PY]
   clear PX PY
   clear Z4 Z5 Z6 Z7 Z8
   generalize ((((X3.setCell ⟨g0, j * 15 + 4 + 1, none⟩ (.string (bg (K + 1 + 1 + 1 + av d.fds + 1)))).setCell ⟨g0, j * 15 + 4 + 2, none⟩ (.bool (decide ((K + 1 + 1 + 1 + av d.fds + 1 + 1) % 3 = 0)))).setCell ⟨g0, j * 15 + 4 + 3, none⟩ (.bool (decide ((K + 1 + 1 + 1 + av d.fds + 1 + 1 + 1) % 3 = 0)))).setCell ⟨g0, j * 15 + 4 + 4, none⟩ (.int .i64 ((K : Int) + 1 + 1 + 1 + av d.fds + 1 + 1 + 1 + 1))) = V4 at *
   refine (show Calls _ _ #[.int .i64 ((K : Int) + 1 + 1 + 1 + av d.fds + 1 + 1 + 1 + 1 + 1)] _ _ from qA (K + 1 + 1 + 1 + av d.fds + 1 + 1 + 1 + 1 + 1) _ (by omega)).mono ?_
   rintro x X5 ⟨rfl, hbx⟩
   have Z9 := hide (Jw.out.keep hbx.size (fun b hb => hbx.block b (Jw.out.lt b hb)))
   have CU := hide (PW.out.trans (aG.new hbx))
   clear hbx
   obtain ⟨g6, c6, cs, bb, e1, hgl6, hgm, hgb, hsub, hbn, hown, hcell, hfr, _, hkeep, lq⟩ := Z9.out.put HN.out j (by simpa using lX)
   have PZ : (((((M).set j ⟨((K : Nat) : Int), ((K + 1 : Nat) : Int), ((K + 1 + 1 : Nat) : Int), d.fds, ⟨⟨d.tun.up.r, d.tun.up.b, d.tun.up.e, d.tun.up.k⟩, ⟨d.tun.dn.r, d.tun.dn.b, d.tun.dn.e, d.tun.dn.k⟩, d.tun.went, d.tun.came⟩, d.ended⟩).set j ⟨((K : Nat) : Int), ((K + 1 : Nat) : Int), ((K + 1 + 1 : Nat) : Int), bQ d.fds (K + 1 + 1 + 1), ⟨⟨d.tun.up.r, d.tun.up.b, d.tun.up.e, d.tun.up.k⟩, ⟨d.tun.dn.r, d.tun.dn.b, d.tun.dn.e, d.tun.dn.k⟩, d.tun.went, d.tun.came⟩, d.ended⟩).set j ⟨((K : Nat) : Int), ((K + 1 : Nat) : Int), ((K + 1 + 1 : Nat) : Int), bQ d.fds (K + 1 + 1 + 1), ⟨⟨((K + 1 + 1 + 1 + av d.fds : Nat) : Int), d.tun.up.b, d.tun.up.e, d.tun.up.k⟩, ⟨d.tun.dn.r, d.tun.dn.b, d.tun.dn.e, d.tun.dn.k⟩, d.tun.went, d.tun.came⟩, d.ended⟩).set j ⟨((K : Nat) : Int), ((K + 1 : Nat) : Int), ((K + 1 + 1 : Nat) : Int), bQ d.fds (K + 1 + 1 + 1), ⟨⟨((K + 1 + 1 + 1 + av d.fds : Nat) : Int), (bg (K + 1 + 1 + 1 + av d.fds + 1)), (decide ((K + 1 + 1 + 1 + av d.fds + 1 + 1) % 3 = 0)), (decide ((K + 1 + 1 + 1 + av d.fds + 1 + 1 + 1) % 3 = 0))⟩, ⟨((K + 1 + 1 + 1 + av d.fds + 1 + 1 + 1 + 1 : Nat) : Int), d.tun.dn.b, d.tun.dn.e, d.tun.dn.k⟩, d.tun.went, d.tun.came⟩, d.ended⟩)[j]'(by simpa using lX) = ⟨((K : Nat) : Int), ((K + 1 : Nat) : Int), ((K + 1 + 1 : Nat) : Int), bQ d.fds (K + 1 + 1 + 1), ⟨⟨((K + 1 + 1 + 1 + av d.fds : Nat) : Int), (bg (K + 1 + 1 + 1 + av d.fds + 1)), (decide ((K + 1 + 1 + 1 + av d.fds + 1 + 1) % 3 = 0)), (decide ((K + 1 + 1 + 1 + av d.fds + 1 + 1 + 1) % 3 = 0))⟩, ⟨((K + 1 + 1 + 1 + av d.fds + 1 + 1 + 1 + 1 : Nat) : Int), d.tun.dn.b, d.tun.dn.e, d.tun.dn.k⟩, d.tun.went, d.tun.came⟩, d.ended⟩ := by simp
   rw [PZ] at hown
   obtain ⟨iB, b0, rfl, f0, f1, fq, hbb⟩ := hown
   simp only [Value.slice.injEq, Option.some.injEq, Addr.mk.injEq] at e1
   obtain ⟨⟨rfl, -, -⟩, -, -⟩ := e1
   obtain ⟨Jy, Jz, rfl, _⟩ := fq.rd.form
   have aac : X5.cell? ⟨g0, j * 15 + 4 + 4 + 1, none⟩ = some (.string d.tun.dn.b) := hcell 9 _ rfl
   have aad : X5.cell? ⟨g0, j * 15 + 4 + 4 + 2, none⟩ = some (.bool d.tun.dn.e) := hcell 10 _ rfl
   have aae : X5.cell? ⟨g0, j * 15 + 4 + 4 + 3, none⟩ = some (.bool d.tun.dn.k) := hcell 11 _ rfl
   have aaf : X5.cell? ⟨g0, j * 15 + 4 + 8, none⟩ = some (.int .i64 d.tun.went) := hcell 12 _ rfl
   have aag : X5.cell? ⟨g0, j * 15 + 4 + 9, none⟩ = some (.int .i64 d.tun.came) := hcell 13 _ rfl
   have aah : X5.cell? ⟨g0, j * 15 + 14, none⟩ = some (.bool d.ended) := hcell 14 _ rfl
   have fz6 := fun q => hfr q
   have P5 : Hid (aW bF (fJ X5 g0 (j * bF.size + ([.int .i64 ((K : Nat) : Int), .int .i64 ((K + 1 : Nat) : Int), .int .i64 ((K + 1 + 1 : Nat) : Int), .slice Jy (bQ d.fds (K + 1 + 1 + 1)).length Jz, .int .i64 ((K + 1 + 1 + 1 + av d.fds : Nat) : Int), .string (bg (K + 1 + 1 + 1 + av d.fds + 1)), .bool (decide ((K + 1 + 1 + 1 + av d.fds + 1 + 1) % 3 = 0)), .bool (decide ((K + 1 + 1 + 1 + av d.fds + 1 + 1 + 1) % 3 = 0)), .int .i64 ((K + 1 + 1 + 1 + av d.fds + 1 + 1 + 1 + 1 : Nat) : Int)] : List Value).length) [.string (bg (K + 1 + 1 + 1 + av d.fds + 1 + 1 + 1 + 1 + 1)), .bool (decide ((K + 1 + 1 + 1 + av d.fds + 1 + 1 + 1 + 1 + 1 + 1) % 3 = 0)), .bool (decide ((K + 1 + 1 + 1 + av d.fds + 1 + 1 + 1 + 1 + 1 + 1 + 1) % 3 = 0)), .int .i64 ((K + 1 + 1 + 1 + av d.fds + 1 + 1 + 1 + 1 + 1 + 1 + 1 + 1 : Nat) : Int), .int .i64 ((K + 1 + 1 + 1 + av d.fds + 1 + 1 + 1 + 1 + 1 + 1 + 1 + 1 + 1 : Nat) : Int), .bool (decide ((K + 1 + 1 + 1 + av d.fds + 1 + 1 + 1 + 1 + 1 + 1 + 1 + 1 + 1 + 1) % 3 = 0))]) _ ((((((M).set j ⟨((K : Nat) : Int), ((K + 1 : Nat) : Int), ((K + 1 + 1 : Nat) : Int), d.fds, ⟨⟨d.tun.up.r, d.tun.up.b, d.tun.up.e, d.tun.up.k⟩, ⟨d.tun.dn.r, d.tun.dn.b, d.tun.dn.e, d.tun.dn.k⟩, d.tun.went, d.tun.came⟩, d.ended⟩).set j ⟨((K : Nat) : Int), ((K + 1 : Nat) : Int), ((K + 1 + 1 : Nat) : Int), bQ d.fds (K + 1 + 1 + 1), ⟨⟨d.tun.up.r, d.tun.up.b, d.tun.up.e, d.tun.up.k⟩, ⟨d.tun.dn.r, d.tun.dn.b, d.tun.dn.e, d.tun.dn.k⟩, d.tun.went, d.tun.came⟩, d.ended⟩).set j ⟨((K : Nat) : Int), ((K + 1 : Nat) : Int), ((K + 1 + 1 : Nat) : Int), bQ d.fds (K + 1 + 1 + 1), ⟨⟨((K + 1 + 1 + 1 + av d.fds : Nat) : Int), d.tun.up.b, d.tun.up.e, d.tun.up.k⟩, ⟨d.tun.dn.r, d.tun.dn.b, d.tun.dn.e, d.tun.dn.k⟩, d.tun.went, d.tun.came⟩, d.ended⟩).set j ⟨((K : Nat) : Int), ((K + 1 : Nat) : Int), ((K + 1 + 1 : Nat) : Int), bQ d.fds (K + 1 + 1 + 1), ⟨⟨((K + 1 + 1 + 1 + av d.fds : Nat) : Int), (bg (K + 1 + 1 + 1 + av d.fds + 1)), (decide ((K + 1 + 1 + 1 + av d.fds + 1 + 1) % 3 = 0)), (decide ((K + 1 + 1 + 1 + av d.fds + 1 + 1 + 1) % 3 = 0))⟩, ⟨((K + 1 + 1 + 1 + av d.fds + 1 + 1 + 1 + 1 : Nat) : Int), d.tun.dn.b, d.tun.dn.e, d.tun.dn.k⟩, d.tun.went, d.tun.came⟩, d.ended⟩).set j ⟨((K : Nat) : Int), ((K + 1 : Nat) : Int), ((K + 1 + 1 : Nat) : Int), bQ d.fds (K + 1 + 1 + 1), ⟨⟨((K + 1 + 1 + 1 + av d.fds : Nat) : Int), (bg (K + 1 + 1 + 1 + av d.fds + 1)), (decide ((K + 1 + 1 + 1 + av d.fds + 1 + 1) % 3 = 0)), (decide ((K + 1 + 1 + 1 + av d.fds + 1 + 1 + 1) % 3 = 0))⟩, ⟨((K + 1 + 1 + 1 + av d.fds + 1 + 1 + 1 + 1 : Nat) : Int), (bg (K + 1 + 1 + 1 + av d.fds + 1 + 1 + 1 + 1 + 1)), (decide ((K + 1 + 1 + 1 + av d.fds + 1 + 1 + 1 + 1 + 1 + 1) % 3 = 0)), (decide ((K + 1 + 1 + 1 + av d.fds + 1 + 1 + 1 + 1 + 1 + 1 + 1) % 3 = 0))⟩, ((K + 1 + 1 + 1 + av d.fds + 1 + 1 + 1 + 1 + 1 + 1 + 1 + 1 : Nat) : Int), ((K + 1 + 1 + 1 + av d.fds + 1 + 1 + 1 + 1 + 1 + 1 + 1 + 1 + 1 : Nat) : Int)⟩, (decide ((K + 1 + 1 + 1 + av d.fds + 1 + 1 + 1 + 1 + 1 + 1 + 1 + 1 + 1 + 1) % 3 = 0))⟩) bs) := lq [.int .i64 ((K : Nat) : Int), .int .i64 ((K + 1 : Nat) : Int), .int .i64 ((K + 1 + 1 : Nat) : Int), .slice Jy (bQ d.fds (K + 1 + 1 + 1)).length Jz, .int .i64 ((K + 1 + 1 + 1 + av d.fds : Nat) : Int), .string (bg (K + 1 + 1 + 1 + av d.fds + 1)), .bool (decide ((K + 1 + 1 + 1 + av d.fds + 1 + 1) % 3 = 0)), .bool (decide ((K + 1 + 1 + 1 + av d.fds + 1 + 1 + 1) % 3 = 0)), .int .i64 ((K + 1 + 1 + 1 + av d.fds + 1 + 1 + 1 + 1 : Nat) : Int)] [.string d.tun.dn.b, .bool d.tun.dn.e, .bool d.tun.dn.k, .int .i64 d.tun.went, .int .i64 d.tun.came, .bool d.ended] [] [.string (bg (K + 1 + 1 + 1 + av d.fds + 1 + 1 + 1 + 1 + 1)), .bool (decide ((K + 1 + 1 + 1 + av d.fds + 1 + 1 + 1 + 1 + 1 + 1) % 3 = 0)), .bool (decide ((K + 1 + 1 + 1 + av d.fds + 1 + 1 + 1 + 1 + 1 + 1 + 1) % 3 = 0)), .int .i64 ((K + 1 + 1 + 1 + av d.fds + 1 + 1 + 1 + 1 + 1 + 1 + 1 + 1 : Nat) : Int), .int .i64 ((K + 1 + 1 + 1 + av d.fds + 1 + 1 + 1 + 1 + 1 + 1 + 1 + 1 + 1 : Nat) : Int), .bool (decide ((K + 1 + 1 + 1 + av d.fds + 1 + 1 + 1 + 1 + 1 + 1 + 1 + 1 + 1 + 1) % 3 = 0))] ⟨((K : Nat) : Int), ((K + 1 : Nat) : Int), ((K + 1 + 1 : Nat) : Int), bQ d.fds (K + 1 + 1 + 1), ⟨⟨((K + 1 + 1 + 1 + av d.fds : Nat) : Int), (bg (K + 1 + 1 + 1 + av d.fds + 1)), (decide ((K + 1 + 1 + 1 + av d.fds + 1 + 1) % 3 = 0)), (decide ((K + 1 + 1 + 1 + av d.fds + 1 + 1 + 1) % 3 = 0))⟩, ⟨((K + 1 + 1 + 1 + av d.fds + 1 + 1 + 1 + 1 : Nat) : Int), (bg (K + 1 + 1 + 1 + av d.fds + 1 + 1 + 1 + 1 + 1)), (decide ((K + 1 + 1 + 1 + av d.fds + 1 + 1 + 1 + 1 + 1 + 1) % 3 = 0)), (decide ((K + 1 + 1 + 1 + av d.fds + 1 + 1 + 1 + 1 + 1 + 1 + 1) % 3 = 0))⟩, ((K + 1 + 1 + 1 + av d.fds + 1 + 1 + 1 + 1 + 1 + 1 + 1 + 1 : Nat) : Int), ((K + 1 + 1 + 1 + av d.fds + 1 + 1 + 1 + 1 + 1 + 1 + 1 + 1 + 1 : Nat) : Int)⟩, (decide ((K + 1 + 1 + 1 + av d.fds + 1 + 1 + 1 + 1 + 1 + 1 + 1 + 1 + 1 + 1) % 3 = 0))⟩ rfl rfl ⟨_, _, rfl, (by have := Aj (K + 1 + 1 + 1 + av d.fds + 1); simp only; omega), (by have := Aj (K + 1 + 1 + 1 + av d.fds + 1 + 1 + 1 + 1 + 1); simp only; omega), fq, hbb⟩
   have P6 : Hid (aG bs w (fJ X5 g0 (j * bF.size + ([.int .i64 ((K : Nat) : Int), .int .i64 ((K + 1 : Nat) : Int), .int .i64 ((K + 1 + 1 : Nat) : Int), .slice Jy (bQ d.fds (K + 1 + 1 + 1)).length Jz, .int .i64 ((K + 1 + 1 + 1 + av d.fds : Nat) : Int), .string (bg (K + 1 + 1 + 1 + av d.fds + 1)), .bool (decide ((K + 1 + 1 + 1 + av d.fds + 1 + 1) % 3 = 0)), .bool (decide ((K + 1 + 1 + 1 + av d.fds + 1 + 1 + 1) % 3 = 0)), .int .i64 ((K + 1 + 1 + 1 + av d.fds + 1 + 1 + 1 + 1 : Nat) : Int)] : List Value).length) [.string (bg (K + 1 + 1 + 1 + av d.fds + 1 + 1 + 1 + 1 + 1)), .bool (decide ((K + 1 + 1 + 1 + av d.fds + 1 + 1 + 1 + 1 + 1 + 1) % 3 = 0)), .bool (decide ((K + 1 + 1 + 1 + av d.fds + 1 + 1 + 1 + 1 + 1 + 1 + 1) % 3 = 0)), .int .i64 ((K + 1 + 1 + 1 + av d.fds + 1 + 1 + 1 + 1 + 1 + 1 + 1 + 1 : Nat) : Int), .int .i64 ((K + 1 + 1 + 1 + av d.fds + 1 + 1 + 1 + 1 + 1 + 1 + 1 + 1 + 1 : Nat) : Int), .bool (decide ((K + 1 + 1 + 1 + av d.fds + 1 + 1 + 1 + 1 + 1 + 1 + 1 + 1 + 1 + 1) % 3 = 0))])) := aG.fJ g0 hgm _ _ _ CU.out
   change Hid (aW bF ((((((X5.setCell ⟨g0, j * 15 + 4 + 4 + 1, none⟩ (.string (bg (K + 1 + 1 + 1 + av d.fds + 1 + 1 + 1 + 1 + 1)))).setCell ⟨g0, j * 15 + 4 + 4 + 2, none⟩ (.bool (decide ((K + 1 + 1 + 1 + av d.fds + 1 + 1 + 1 + 1 + 1 + 1) % 3 = 0)))).setCell ⟨g0, j * 15 + 4 + 4 + 3, none⟩ (.bool (decide ((K + 1 + 1 + 1 + av d.fds + 1 + 1 + 1 + 1 + 1 + 1 + 1) % 3 = 0)))).setCell ⟨g0, j * 15 + 4 + 8, none⟩ (.int .i64 ((K : Int) + 1 + 1 + 1 + av d.fds + 1 + 1 + 1 + 1 + 1 + 1 + 1 + 1))).setCell ⟨g0, j * 15 + 4 + 9, none⟩ (.int .i64 ((K : Int) + 1 + 1 + 1 + av d.fds + 1 + 1 + 1 + 1 + 1 + 1 + 1 + 1 + 1))).setCell ⟨g0, j * 15 + 14, none⟩ (.bool (decide ((K + 1 + 1 + 1 + av d.fds + 1 + 1 + 1 + 1 + 1 + 1 + 1 + 1 + 1 + 1) % 3 = 0)))) _ _ _) at P5
   change Hid (aG bs w ((((((X5.setCell ⟨g0, j * 15 + 4 + 4 + 1, none⟩ (.string (bg (K + 1 + 1 + 1 + av d.fds + 1 + 1 + 1 + 1 + 1)))).setCell ⟨g0, j * 15 + 4 + 4 + 2, none⟩ (.bool (decide ((K + 1 + 1 + 1 + av d.fds + 1 + 1 + 1 + 1 + 1 + 1) % 3 = 0)))).setCell ⟨g0, j * 15 + 4 + 4 + 3, none⟩ (.bool (decide ((K + 1 + 1 + 1 + av d.fds + 1 + 1 + 1 + 1 + 1 + 1 + 1) % 3 = 0)))).setCell ⟨g0, j * 15 + 4 + 8, none⟩ (.int .i64 ((K : Int) + 1 + 1 + 1 + av d.fds + 1 + 1 + 1 + 1 + 1 + 1 + 1 + 1))).setCell ⟨g0, j * 15 + 4 + 9, none⟩ (.int .i64 ((K : Int) + 1 + 1 + 1 + av d.fds + 1 + 1 + 1 + 1 + 1 + 1 + 1 + 1 + 1))).setCell ⟨g0, j * 15 + 14, none⟩ (.bool (decide ((K + 1 + 1 + 1 + av d.fds + 1 + 1 + 1 + 1 + 1 + 1 + 1 + 1 + 1 + 1) % 3 = 0))))) at P6
   clear hcell hkeep lq hsub hbn hgb hbb PZ hfr fq
   have P7 : (((K : Int) + 1 + 1 + 1 + av d.fds + 1 + 1 + 1 + 1 + 1 + 1) % 3 == 0) = decide ((K + 1 + 1 + 1 + av d.fds + 1 + 1 + 1 + 1 + 1 + 1) % 3 = 0) := qm _ _ (by omega)
   have P8 : (((K : Int) + 1 + 1 + 1 + av d.fds + 1 + 1 + 1 + 1 + 1 + 1 + 1) % 3 == 0) = decide ((K + 1 + 1 + 1 + av d.fds + 1 + 1 + 1 + 1 + 1 + 1 + 1) % 3 = 0) := qm _ _ (by omega)
   have P9 : (((K : Int) + 1 + 1 + 1 + av d.fds + 1 + 1 + 1 + 1 + 1 + 1 + 1 + 1 + 1 + 1) % 3 == 0) = decide ((K + 1 + 1 + 1 + av d.fds + 1 + 1 + 1 + 1 + 1 + 1 + 1 + 1 + 1 + 1) % 3 = 0) := qm _ _ (by omega)
   go_wp2_with fail
   try simp only [P7, P8, P9]
   clear P7 P8 P9
   clear aac aad aae aaf aag aah fz6
   generalize ((((((X5.setCell ⟨g0, j * 15 + 4 + 4 + 1, none⟩ (.string (bg (K + 1 + 1 + 1 + av d.fds + 1 + 1 + 1 + 1 + 1)))).setCell ⟨g0, j * 15 + 4 + 4 + 2, none⟩ (.bool (decide ((K + 1 + 1 + 1 + av d.fds + 1 + 1 + 1 + 1 + 1 + 1) % 3 = 0)))).setCell ⟨g0, j * 15 + 4 + 4 + 3, none⟩ (.bool (decide ((K + 1 + 1 + 1 + av d.fds + 1 + 1 + 1 + 1 + 1 + 1 + 1) % 3 = 0)))).setCell ⟨g0, j * 15 + 4 + 8, none⟩ (.int .i64 ((K : Int) + 1 + 1 + 1 + av d.fds + 1 + 1 + 1 + 1 + 1 + 1 + 1 + 1))).setCell ⟨g0, j * 15 + 4 + 9, none⟩ (.int .i64 ((K : Int) + 1 + 1 + 1 + av d.fds + 1 + 1 + 1 + 1 + 1 + 1 + 1 + 1 + 1))).setCell ⟨g0, j * 15 + 14, none⟩ (.bool (decide ((K + 1 + 1 + 1 + av d.fds + 1 + 1 + 1 + 1 + 1 + 1 + 1 + 1 + 1 + 1) % 3 = 0)))) = V6 at *
   refine ⟨⟨j + 1, ?_, ?_, ?_, ?_, ?_⟩, ?_⟩
   ·go_num
   ·exact int_eq (by have h1 := wM.out; have h2 : eU d = 1 + 1 + 1 + av d.fds + 1 + 1 + 1 + 1 + 1 + 1 + 1 + 1 + 1 + 1 + 1 := rfl; omega)
   ·omega
   ·show aW _ _ _ _ _
    rw [← HST.out]
    have hfin := P5.out
    first | exact hfin | (simp only [List.set_set] at hfin; exact hfin)
   ·exact P6.out
   ·simp [intOf]; omega
  ·obtain rfl : j = L.length := by omega
   rw [ME] at HO
   rw [List.take_length]
   go_wp2_with fail
   go_ret
   exact ⟨rfl, HO.out, HT.out⟩
set_option maxHeartbeats 20000000 in
theorem ZB (L : List aV) (k : Nat) (v : Value) (w : World) (hr : aT bF w v (wo L k)) (hk1 : k + lM L ≤ 1000000000) :
  Calls Tryz.prog 37 #[v, .int .i64 k] w fun x w' => x = .returned (.int .i64 ((k + lM L : Nat) : Int)) ∧ Below w.heap.size w w' := by
 obtain ⟨ad, cap, rfl, h1, h2⟩ := hr.form
 unfold lM wo at *
 rw [oN] at h1 ⊢
 have HR := hide hr
 clear hr
 go_enter Tryz.func37, Tryz.ntmps37
 go_wp2_with fail
 go_loopw [1, 5] (fun kk i wr => ∃ (j : Nat), i = .int .i64 j ∧ kk = .int .i64 ((k + dF eU (L.take j) : Nat) : Int) ∧ j ≤ L.length ∧ Hid (Below w.heap.size w wr)) (fun _ i _ => L.length - (intOf i).toNat)
 case atStart => exact ⟨0, rfl, by simp [dF], Nat.zero_le _, Below.refl _ _⟩
 case round =>
  obtain ⟨j, rfl, rfl, hj, HB⟩ := hrel
  by_cases hlt : j < L.length
  ·have hct := Dv eU L j hlt
   have hcl := Dw eU L (j + 1)
   have iD := (HR.out.new HB.out).at j (by rw [oN]; exact hlt)
   rw [Gz _ _ L k j hlt] at iD
   obtain ⟨d, hd⟩ : ∃ d, d = L[j] := ⟨_, rfl⟩
   rw [← hd] at hct iD
   obtain ⟨K, hK⟩ : ∃ K : Nat, K = k + dF eU (L.take j) := ⟨_, rfl⟩
   rw [← hK] at iD ⊢
   have hKc : K + eU d = k + dF eU (L.take (j + 1)) := by omega
   have wM := hide hKc
   have hKb : K + eU d ≤ 1000000000 := by omega
   unfold eU at hKb
   clear hct hcl hd hK hKc
   obtain ⟨b, o, cs, rfl, hb1, hrd, hc⟩ := iD
   obtain ⟨iB, rfl, _, _, fq⟩ := hrd
   have um : Hid (aT bT wr iB (bQ d.fds (K + 1 + 1 + 1))) := fq
   obtain ⟨aq, pq, eq, _⟩ := um.out.form
   clear fq
   subst eq
   have c0 : wr.cell? ⟨b, o + j * 15, none⟩ = some (.int .i64 ((K : Int))) := hc 0 _ rfl
   have q0 : Hid (∀ u, Below wr.heap.size wr u → u.cell? ⟨b, o + j * 15, none⟩ = some (.int .i64 ((K : Int)))) := fun u hu => (hu.cell (p := ⟨b, o + j * 15, none⟩) hb1).trans c0
   clear c0
   have c1 : wr.cell? ⟨b, o + j * 15 + 1, none⟩ = some (.int .i64 ((K : Int) + 1)) := hc 1 _ rfl
   have q1 : Hid (∀ u, Below wr.heap.size wr u → u.cell? ⟨b, o + j * 15 + 1, none⟩ = some (.int .i64 ((K : Int) + 1))) := fun u hu => (hu.cell (p := ⟨b, o + j * 15 + 1, none⟩) hb1).trans c1
   clear c1
   have c2 : wr.cell? ⟨b, o + j * 15 + 2, none⟩ = some (.int .i64 ((K : Int) + 1 + 1)) := hc 2 _ rfl
   have q2 : Hid (∀ u, Below wr.heap.size wr u → u.cell? ⟨b, o + j * 15 + 2, none⟩ = some (.int .i64 ((K : Int) + 1 + 1))) := fun u hu => (hu.cell (p := ⟨b, o + j * 15 + 2, none⟩) hb1).trans c2
   clear c2
   have c3 : wr.cell? ⟨b, o + j * 15 + 3, none⟩ = some (.slice aq (bQ d.fds (K + 1 + 1 + 1)).length pq) := hc 3 _ rfl
   have q3 : Hid (∀ u, Below wr.heap.size wr u → u.cell? ⟨b, o + j * 15 + 3, none⟩ = some (.slice aq (bQ d.fds (K + 1 + 1 + 1)).length pq)) := fun u hu => (hu.cell (p := ⟨b, o + j * 15 + 3, none⟩) hb1).trans c3
   clear c3
   have c4 : wr.cell? ⟨b, o + j * 15 + 4, none⟩ = some (.int .i64 ((K : Int) + 1 + 1 + 1 + av d.fds)) := hc 4 _ rfl
   have q4 : Hid (∀ u, Below wr.heap.size wr u → u.cell? ⟨b, o + j * 15 + 4, none⟩ = some (.int .i64 ((K : Int) + 1 + 1 + 1 + av d.fds))) := fun u hu => (hu.cell (p := ⟨b, o + j * 15 + 4, none⟩) hb1).trans c4
   clear c4
   have c5 : wr.cell? ⟨b, o + j * 15 + 4 + 1, none⟩ = some (.string (bg (K + 1 + 1 + 1 + av d.fds + 1))) := hc 5 _ rfl
   have q5 : Hid (∀ u, Below wr.heap.size wr u → u.cell? ⟨b, o + j * 15 + 4 + 1, none⟩ = some (.string (bg (K + 1 + 1 + 1 + av d.fds + 1)))) := fun u hu => (hu.cell (p := ⟨b, o + j * 15 + 4 + 1, none⟩) hb1).trans c5
   clear c5
   have c6 : wr.cell? ⟨b, o + j * 15 + 4 + 2, none⟩ = some (.bool (decide ((K + 1 + 1 + 1 + av d.fds + 1 + 1) % 3 = 0))) := hc 6 _ rfl
   have q6 : Hid (∀ u, Below wr.heap.size wr u → u.cell? ⟨b, o + j * 15 + 4 + 2, none⟩ = some (.bool (decide ((K + 1 + 1 + 1 + av d.fds + 1 + 1) % 3 = 0)))) := fun u hu => (hu.cell (p := ⟨b, o + j * 15 + 4 + 2, none⟩) hb1).trans c6
   clear c6
   have c7 : wr.cell? ⟨b, o + j * 15 + 4 + 3, none⟩ = some (.bool (decide ((K + 1 + 1 + 1 + av d.fds + 1 + 1 + 1) % 3 = 0))) := hc 7 _ rfl
   have q7 : Hid (∀ u, Below wr.heap.size wr u → u.cell? ⟨b, o + j * 15 + 4 + 3, none⟩ = some (.bool (decide ((K + 1 + 1 + 1 + av d.fds + 1 + 1 + 1) % 3 = 0)))) := fun u hu => (hu.cell (p := ⟨b, o + j * 15 + 4 + 3, none⟩) hb1).trans c7
   clear c7
   have c8 : wr.cell? ⟨b, o + j * 15 + 4 + 4, none⟩ = some (.int .i64 ((K : Int) + 1 + 1 + 1 + av d.fds + 1 + 1 + 1 + 1)) := hc 8 _ rfl
   have q8 : Hid (∀ u, Below wr.heap.size wr u → u.cell? ⟨b, o + j * 15 + 4 + 4, none⟩ = some (.int .i64 ((K : Int) + 1 + 1 + 1 + av d.fds + 1 + 1 + 1 + 1))) := fun u hu => (hu.cell (p := ⟨b, o + j * 15 + 4 + 4, none⟩) hb1).trans c8
   clear c8
   have c9 : wr.cell? ⟨b, o + j * 15 + 4 + 4 + 1, none⟩ = some (.string (bg (K + 1 + 1 + 1 + av d.fds + 1 + 1 + 1 + 1 + 1))) := hc 9 _ rfl
   have q9 : Hid (∀ u, Below wr.heap.size wr u → u.cell? ⟨b, o + j * 15 + 4 + 4 + 1, none⟩ = some (.string (bg (K + 1 + 1 + 1 + av d.fds + 1 + 1 + 1 + 1 + 1)))) := fun u hu => (hu.cell (p := ⟨b, o + j * 15 + 4 + 4 + 1, none⟩) hb1).trans c9
   clear c9
   have c10 : wr.cell? ⟨b, o + j * 15 + 4 + 4 + 2, none⟩ = some (.bool (decide ((K + 1 + 1 + 1 + av d.fds + 1 + 1 + 1 + 1 + 1 + 1) % 3 = 0))) := hc 10 _ rfl
   have q10 : Hid (∀ u, Below wr.heap.size wr u → u.cell? ⟨b, o + j * 15 + 4 + 4 + 2, none⟩ = some (.bool (decide ((K + 1 + 1 + 1 + av d.fds + 1 + 1 + 1 + 1 + 1 + 1) % 3 = 0)))) := fun u hu => (hu.cell (p := ⟨b, o + j * 15 + 4 + 4 + 2, none⟩) hb1).trans c10
   clear c10
   have c11 : wr.cell? ⟨b, o + j * 15 + 4 + 4 + 3, none⟩ = some (.bool (decide ((K + 1 + 1 + 1 + av d.fds + 1 + 1 + 1 + 1 + 1 + 1 + 1) % 3 = 0))) := hc 11 _ rfl
   have q11 : Hid (∀ u, Below wr.heap.size wr u → u.cell? ⟨b, o + j * 15 + 4 + 4 + 3, none⟩ = some (.bool (decide ((K + 1 + 1 + 1 + av d.fds + 1 + 1 + 1 + 1 + 1 + 1 + 1) % 3 = 0)))) := fun u hu => (hu.cell (p := ⟨b, o + j * 15 + 4 + 4 + 3, none⟩) hb1).trans c11
   clear c11
   have c12 : wr.cell? ⟨b, o + j * 15 + 4 + 8, none⟩ = some (.int .i64 ((K : Int) + 1 + 1 + 1 + av d.fds + 1 + 1 + 1 + 1 + 1 + 1 + 1 + 1)) := hc 12 _ rfl
   have q12 : Hid (∀ u, Below wr.heap.size wr u → u.cell? ⟨b, o + j * 15 + 4 + 8, none⟩ = some (.int .i64 ((K : Int) + 1 + 1 + 1 + av d.fds + 1 + 1 + 1 + 1 + 1 + 1 + 1 + 1))) := fun u hu => (hu.cell (p := ⟨b, o + j * 15 + 4 + 8, none⟩) hb1).trans c12
   clear c12
   have c13 : wr.cell? ⟨b, o + j * 15 + 4 + 9, none⟩ = some (.int .i64 ((K : Int) + 1 + 1 + 1 + av d.fds + 1 + 1 + 1 + 1 + 1 + 1 + 1 + 1 + 1)) := hc 13 _ rfl
   have q13 : Hid (∀ u, Below wr.heap.size wr u → u.cell? ⟨b, o + j * 15 + 4 + 9, none⟩ = some (.int .i64 ((K : Int) + 1 + 1 + 1 + av d.fds + 1 + 1 + 1 + 1 + 1 + 1 + 1 + 1 + 1))) := fun u hu => (hu.cell (p := ⟨b, o + j * 15 + 4 + 9, none⟩) hb1).trans c13
   clear c13
   have c14 : wr.cell? ⟨b, o + j * 15 + 14, none⟩ = some (.bool (decide ((K + 1 + 1 + 1 + av d.fds + 1 + 1 + 1 + 1 + 1 + 1 + 1 + 1 + 1 + 1) % 3 = 0))) := hc 14 _ rfl
   have q14 : Hid (∀ u, Below wr.heap.size wr u → u.cell? ⟨b, o + j * 15 + 14, none⟩ = some (.bool (decide ((K + 1 + 1 + 1 + av d.fds + 1 + 1 + 1 + 1 + 1 + 1 + 1 + 1 + 1 + 1) % 3 = 0)))) := fun u hu => (hu.cell (p := ⟨b, o + j * 15 + 14, none⟩) hb1).trans c14
   clear c14
   clear hc
   have HW : Hid (Below wr.heap.size wr wr) := Below.refl _ _
   have c0 := q0.out wr HW.out
   have c1 := q1.out wr HW.out
   have c2 := q2.out wr HW.out
   have c3 := q3.out wr HW.out
   go_wp2_with fail
   clear c0 c1 c2 c3
   have hcl := WJ d.fds (K + 1 + 1 + 1) _ _ (um.out.new HW.out) (by omega)
   refine (show Calls _ _ #[.slice aq (bQ d.fds (K + 1 + 1 + 1)).length pq, .int .i64 ((K : Int) + 1 + 1 + 1)] _ _ from hcl).mono ?_; clear hcl; rintro x U3 ⟨rfl, hb⟩
   have hpos : ¬ (((K + 1 + 1 + 1 + av d.fds : Nat) : Int) < 0) := by omega
   replace HW := hide (ah HW.out hb)
   clear hb
   have c4 := q4.out U3 HW.out
   go_wp2_with fail
   clear c4
   have qy : ∀ y : Later U3, y.w.cell? ⟨b, o + j * 15 + 4 + 1, none⟩ = some (.string (bg (K + 1 + 1 + 1 + av d.fds + 1))) := fun y => q5.out y.w (ah HW.out y.b)
   have hne : Nonempty (Later U3) := ⟨⟨U3, Below.refl _ _⟩⟩; refine eH (by kernel_rfl) (by kernel_rfl) ?_
   repeat (go_big_quiet_step (fail))
   go_big_quiet_want; go_big_quiet_op
   refine ⟨.string (bg (K + 1 + 1 + 1 + av d.fds + 1)), fun y => gW (x := y) (show Calls _ _ #[.int .i64 ((K : Int) + 1 + 1 + 1 + av d.fds + 1)] _ _ from qA (K + 1 + 1 + 1 + av d.fds + 1) y.w (by omega)), ?_⟩
   go_big_quiet_on
   repeat (go_big_quiet_step (fail))
   refine wpQuiet_nil ?_; intro _ hw'; obtain ⟨y, hw''⟩ := hw'; subst hw''; have hby := y.b
   clear qy hne
   replace HW := hide (ah HW.out hby)
   clear hby
   generalize y.w = U5 at *
   have c6 := q6.out U5 HW.out
   have c7 := q7.out U5 HW.out
   have c8 := q8.out U5 HW.out
   have hbl1 : (((K : Int) + 1 + 1 + 1 + av d.fds + 1 + 1) % 3 == 0) = decide ((K + 1 + 1 + 1 + av d.fds + 1 + 1) % 3 = 0) := qm _ _ (by omega)
   have hbl2 : (((K : Int) + 1 + 1 + 1 + av d.fds + 1 + 1 + 1) % 3 == 0) = decide ((K + 1 + 1 + 1 + av d.fds + 1 + 1 + 1) % 3 = 0) := qm _ _ (by omega)
   go_wp2_with fail
   clear c6 c7 c8
   have qy : ∀ y : Later U5, y.w.cell? ⟨b, o + j * 15 + 4 + 4 + 1, none⟩ = some (.string (bg (K + 1 + 1 + 1 + av d.fds + 1 + 1 + 1 + 1 + 1))) := fun y => q9.out y.w (ah HW.out y.b)
   have hne : Nonempty (Later U5) := ⟨⟨U5, Below.refl _ _⟩⟩; refine eH (by kernel_rfl) (by kernel_rfl) ?_
   repeat (go_big_quiet_step (fail))
   go_big_quiet_want; go_big_quiet_op
   refine ⟨.string (bg (K + 1 + 1 + 1 + av d.fds + 1 + 1 + 1 + 1 + 1)), fun y => gW (x := y) (show Calls _ _ #[.int .i64 ((K : Int) + 1 + 1 + 1 + av d.fds + 1 + 1 + 1 + 1 + 1)] _ _ from qA (K + 1 + 1 + 1 + av d.fds + 1 + 1 + 1 + 1 + 1) y.w (by omega)), ?_⟩
   go_big_quiet_on
   repeat (go_big_quiet_step (fail))
   refine wpQuiet_nil ?_; intro _ hw'; obtain ⟨y, hw''⟩ := hw'; subst hw''; have hby := y.b
   clear qy hne
   replace HW := hide (ah HW.out hby)
   clear hby
   generalize y.w = U9 at *
   have c10 := q10.out U9 HW.out
   have c11 := q11.out U9 HW.out
   have c12 := q12.out U9 HW.out
   have c13 := q13.out U9 HW.out
   have c14 := q14.out U9 HW.out
   have hbl3 : (((K : Int) + 1 + 1 + 1 + av d.fds + 1 + 1 + 1 + 1 + 1 + 1) % 3 == 0) = decide ((K + 1 + 1 + 1 + av d.fds + 1 + 1 + 1 + 1 + 1 + 1) % 3 = 0) := qm _ _ (by omega)
   have hbl4 : (((K : Int) + 1 + 1 + 1 + av d.fds + 1 + 1 + 1 + 1 + 1 + 1 + 1) % 3 == 0) = decide ((K + 1 + 1 + 1 + av d.fds + 1 + 1 + 1 + 1 + 1 + 1 + 1) % 3 = 0) := qm _ _ (by omega)
   have hbl5 : (((K : Int) + 1 + 1 + 1 + av d.fds + 1 + 1 + 1 + 1 + 1 + 1 + 1 + 1 + 1 + 1) % 3 == 0) = decide ((K + 1 + 1 + 1 + av d.fds + 1 + 1 + 1 + 1 + 1 + 1 + 1 + 1 + 1 + 1) % 3 = 0) := qm _ _ (by omega)
   go_wp2_with fail
   clear c10 c11 c12 c13 c14
   go_roundw
   case rel => exact ⟨j + 1, by go_num, int_eq (by have h1 := wM.out; have h2 : eU d = 1 + 1 + 1 + av d.fds + 1 + 1 + 1 + 1 + 1 + 1 + 1 + 1 + 1 + 1 + 1 := rfl; omega), by omega, hide (ah HB.out HW.out)⟩
   case measure => simp [intOf]; omega
  ·obtain rfl : j = L.length := by omega
   rw [List.take_length]
   go_wp2_with fail
   go_ret
   exact ⟨rfl, HB.out⟩
end Go.Proofs.YtlpbnkideaojeaaGreatDoor
