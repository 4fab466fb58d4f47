/- A Conn in memory: read, owned; counted, copied, held against each other, marked, read again (by gen_shconn.py). -/
import Derived.Test.YtkhclhnejnpkeaaGreatQWtG16
import Derived.Test.YtkhclhnejnpkeaaGreatQWtG6
import Derived.Test.YtkhclhnejnpkeaaGreatQWtG5
namespace Go.Proofs.YtkhclhnejnpkeaaGreat
open Go.RowKit
set_option maxRecDepth 100000
set_option linter.unusedSimpArgs false
set_option linter.unusedVariables false
abbrev cncs (d : CnD) (ve vi vo vf : Value) : List Value := [.int .i64 d.reg.lim, .int .i64 d.reg.top, ve, .int .i64 d.inr, vi, .int .i64 d.outr, vo, .int .i64 d.get, .int .i64 d.give, .int .i64 d.first, vf, .bool d.away, .bool d.dead]
abbrev cnv (d : CnD) (ve vi vo vf : Value) : Value := .agg #[.int .i64 d.reg.lim, .int .i64 d.reg.top, ve, .int .i64 d.inr, vi, .int .i64 d.outr, vo, .int .i64 d.get, .int .i64 d.give, .int .i64 d.first, vf, .bool d.away, .bool d.dead]
/-- What its lists read as. -/
structure CnRd (w : World) (d : CnD) (ve vi vo vf : Value) : Prop where
  e : RdR entryS w ve d.reg.es
  i : RdR fieldS w vi d.inT
  o : RdR fieldS w vo d.outT
  f : RdR flowS w vf d.flows
theorem CnRd.new {w w' : World} {d : CnD} {ve vi vo vf : Value} (h : CnRd w d ve vi vo vf) (hb : Below w.heap.size w w') : CnRd w' d ve vi vo vf := ⟨h.e.new hb, h.i.new hb, h.o.new hb, h.f.new hb⟩
/-- Its lists are owned, in the blocks bs, no two in one. -/
structure CnOw (w : World) (bs : List Nat) (d : CnD) (ve vi vo vf : Value) : Prop where
  ex : ∃ be bi bo bf, OwR entryS w ve d.reg.es be ∧ OwR fieldS w vi d.inT bi ∧ OwR fieldS w vo d.outT bo ∧ OwR flowS w vf d.flows bf ∧ bs = be ++ bi ++ bo ++ bf
  nd : bs.Nodup
theorem CnOw.rd {w : World} {bs : List Nat} {d : CnD} {ve vi vo vf : Value} (h : CnOw w bs d ve vi vo vf) : CnRd w d ve vi vo vf := by
  obtain ⟨⟨be, bi, bo, bf, h1, h2, h3, h4, _⟩, _⟩ := h
  exact ⟨h1.rd, h2.rd, h3.rd, h4.rd⟩
theorem CnOw.lt {w : World} {bs : List Nat} {d : CnD} {ve vi vo vf : Value} (h : CnOw w bs d ve vi vo vf) : ∀ b ∈ bs, b < w.heap.size := by
  obtain ⟨⟨be, bi, bo, bf, h1, h2, h3, h4, rfl⟩, _⟩ := h
  intro b hb
  simp only [List.mem_append] at hb
  rcases hb with ((hb | hb) | hb) | hb
  · exact h1.lt b hb
  · exact h2.lt b hb
  · exact h3.lt b hb
  · exact h4.lt b hb
theorem CnOw.keep {w w' : World} {bs : List Nat} {d : CnD} {ve vi vo vf : Value} (h : CnOw w bs d ve vi vo vf) (hs : w.heap.size ≤ w'.heap.size) (hk : ∀ b ∈ bs, w'.heap[b]? = w.heap[b]?) : CnOw w' bs d ve vi vo vf := by
  obtain ⟨⟨be, bi, bo, bf, h1, h2, h3, h4, rfl⟩, hn⟩ := h
  exact ⟨⟨be, bi, bo, bf, h1.keep hs (fun b hb => hk b (by simp [hb])), h2.keep hs (fun b hb => hk b (by simp [hb])), h3.keep hs (fun b hb => hk b (by simp [hb])), h4.keep hs (fun b hb => hk b (by simp [hb])), rfl⟩, hn⟩
theorem CnOw.new {w w' : World} {bs : List Nat} {d : CnD} {ve vi vo vf : Value} (h : CnOw w bs d ve vi vo vf) (hb : Below w.heap.size w w') : CnOw w' bs d ve vi vo vf := h.keep hb.size fun b hb' => hb.block b (h.lt b hb')
theorem CnOw.turn {w w' : World} {bs bs' : List Nat} {d : CnD} {ve vi vo vf : Value} (h : CnOw w bs d ve vi vo vf) (ht : TurnB bs' w w') (ha : ∀ b ∈ bs, b ∉ bs') : CnOw w' bs d ve vi vo vf := h.keep ht.size fun b hb' => ht.block b (h.lt b hb') (ha b hb')
def szConn (d : CnD) : Int := szRegistry d.reg + szFieldS d.inT + szFieldS d.outT + szFlowS d.flows
theorem szConn_nn (d : CnD) : 0 ≤ szRegistry d.reg ∧ 0 ≤ szFieldS d.inT ∧ 0 ≤ szFieldS d.outT ∧ 0 ≤ szFlowS d.flows := ⟨szRegistry_nn _, szFieldS_nn _, szFieldS_nn _, szFlowS_nn _⟩
theorem toTable2 (L : List Fd) (room : Int) (v : Value) (w : World) (hr : RdR fieldS w v L) (hz : szFieldS L ≤ 1048576) :
    Calls Tryz.prog 120 #[.agg #[.int .i64 room, v]] w fun x w' => ∃ v', x = .returned (.agg #[.int .i64 room, v']) ∧ OwX fieldS w' w.heap.size w'.heap.size v' L ∧ Below w.heap.size w w' := by
  refine (toTable1 L room v w (rd_fv hr) (by have := szFieldS_len L; omega)).mono ?_
  rintro x w' ⟨v', rfl, ho, hb⟩
  exact ⟨v', rfl, fv_ow ho (rd_fine hr), hb⟩
theorem szTable2 (L : List Fd) (room : Int) (v : Value) (left : Int) (w : World) (hr : RdR fieldS w v L) (h0 : 0 ≤ left) (h1 : left ≤ 1048576) :
    Calls Tryz.prog 116 #[.agg #[.int .i64 room, v], .int .i64 left] w fun x w' => (x = .returned (.int .i64 (-1)) ∨ (x = .returned (.int .i64 (left - szFieldS L)) ∧ 0 ≤ left - szFieldS L)) ∧ Below w.heap.size w w' := by
  refine (szTable1 L room v left w (rd_fv hr) (rd_fine hr) h0 h1).mono ?_
  rintro x w' ⟨rfl, hb⟩
  refine ⟨?_, hb⟩
  unfold szFieldS
  by_cases c : left - L.length - szL L < 0
  · exact .inl (by rw [if_pos c])
  · exact .inr ⟨by rw [if_neg c, show left - L.length - szL L = left - (L.length + szL L) by omega], by omega⟩
set_option maxHeartbeats 4000000 in
theorem toConn1 (d : CnD) (ve vi vo vf : Value) (w : World) (hv : CnRd w d ve vi vo vf) (hs : szConn d ≤ 1048576) :
    Calls Tryz.prog 102 #[cnv d ve vi vo vf] w fun x w' => ∃ ue ui uo uf bs, x = .returned (cnv d ue ui uo uf) ∧ CnOw w' bs d ue ui uo uf ∧ (∀ b ∈ bs, w.heap.size ≤ b) ∧ Below w.heap.size w w' := by
  dsimp only [cnv] at *
  have HV := hide hv
  clear hv
  obtain ⟨ae, pe, rfl, _⟩ := HV.out.e.form
  obtain ⟨ai, pi, rfl, _⟩ := HV.out.i.form
  obtain ⟨ao, po, rfl, _⟩ := HV.out.o.form
  obtain ⟨af, pf, rfl, _⟩ := HV.out.f.form
  obtain ⟨s1, s2, s3, s4⟩ := szConn_nn d
  unfold szConn at hs
  obtain ⟨W, hW⟩ : ∃ W, ((w.alloc (.cells #[.int .i64 d.reg.lim, .int .i64 d.reg.top, .slice ae d.reg.es.length pe, .int .i64 d.inr, .slice ai d.inT.length pi, .int .i64 d.outr, .slice ao d.outT.length po, .int .i64 d.get, .int .i64 d.give, .int .i64 d.first, .slice af d.flows.length pf, .bool d.away, .bool d.dead] 110)).alloc (.cells #[.int .i64 0, .int .i64 0, .slice none 0 0, .int .i64 0, .slice none 0 0, .int .i64 0, .slice none 0 0, .int .i64 0, .int .i64 0, .int .i64 0, .slice none 0 0, .bool false, .bool false] 63)).alloc (.cells #[.int .i64 0, .int .i64 0, .slice none 0 0, .int .i64 0, .slice none 0 0, .int .i64 0, .slice none 0 0, .int .i64 0, .int .i64 0, .int .i64 0, .slice none 0 0, .bool false, .bool false] 63) = W := ⟨_, rfl⟩
  have RX : RowIs W w.heap.size 110 [.int .i64 d.reg.lim, .int .i64 d.reg.top, .slice ae d.reg.es.length pe, .int .i64 d.inr, .slice ai d.inT.length pi, .int .i64 d.outr, .slice ao d.outT.length po, .int .i64 d.get, .int .i64 d.give, .int .i64 d.first, .slice af d.flows.length pf, .bool d.away, .bool d.dead] := by rw [← hW]; exact ((rowIs_new w 110 [.int .i64 d.reg.lim, .int .i64 d.reg.top, .slice ae d.reg.es.length pe, .int .i64 d.inr, .slice ai d.inT.length pi, .int .i64 d.outr, .slice ao d.outT.length po, .int .i64 d.get, .int .i64 d.give, .int .i64 d.first, .slice af d.flows.length pf, .bool d.away, .bool d.dead]).alloc _).alloc _
  have RY : RowIs W (w.heap.size + 1) 63 [.int .i64 0, .int .i64 0, .slice none 0 0, .int .i64 0, .slice none 0 0, .int .i64 0, .slice none 0 0, .int .i64 0, .int .i64 0, .int .i64 0, .slice none 0 0, .bool false, .bool false] := by have := (rowIs_new (w.alloc (.cells #[.int .i64 d.reg.lim, .int .i64 d.reg.top, .slice ae d.reg.es.length pe, .int .i64 d.inr, .slice ai d.inT.length pi, .int .i64 d.outr, .slice ao d.outT.length po, .int .i64 d.get, .int .i64 d.give, .int .i64 d.first, .slice af d.flows.length pf, .bool d.away, .bool d.dead] 110)) 63 [.int .i64 0, .int .i64 0, .slice none 0 0, .int .i64 0, .slice none 0 0, .int .i64 0, .slice none 0 0, .int .i64 0, .int .i64 0, .int .i64 0, .slice none 0 0, .bool false, .bool false]).alloc (.cells #[.int .i64 0, .int .i64 0, .slice none 0 0, .int .i64 0, .slice none 0 0, .int .i64 0, .slice none 0 0, .int .i64 0, .int .i64 0, .int .i64 0, .slice none 0 0, .bool false, .bool false] 63); rw [hW] at this; simpa using this
  have RZ : RowIs W (w.heap.size + 1 + 1) 63 [.int .i64 0, .int .i64 0, .slice none 0 0, .int .i64 0, .slice none 0 0, .int .i64 0, .slice none 0 0, .int .i64 0, .int .i64 0, .int .i64 0, .slice none 0 0, .bool false, .bool false] := by have := rowIs_new ((w.alloc (.cells #[.int .i64 d.reg.lim, .int .i64 d.reg.top, .slice ae d.reg.es.length pe, .int .i64 d.inr, .slice ai d.inT.length pi, .int .i64 d.outr, .slice ao d.outT.length po, .int .i64 d.get, .int .i64 d.give, .int .i64 d.first, .slice af d.flows.length pf, .bool d.away, .bool d.dead] 110)).alloc (.cells #[.int .i64 0, .int .i64 0, .slice none 0 0, .int .i64 0, .slice none 0 0, .int .i64 0, .slice none 0 0, .int .i64 0, .int .i64 0, .int .i64 0, .slice none 0 0, .bool false, .bool false] 63)) 63 [.int .i64 0, .int .i64 0, .slice none 0 0, .int .i64 0, .slice none 0 0, .int .i64 0, .slice none 0 0, .int .i64 0, .int .i64 0, .int .i64 0, .slice none 0 0, .bool false, .bool false]; rw [hW] at this; simpa using this
  have HB : Below w.heap.size w W := by rw [← hW]; exact ((((Below.refl _ _).alloc (Nat.le_refl _) _).alloc (by simp) _).alloc (by simp; omega) _)
  have hWs : w.heap.size + 3 ≤ W.heap.size := by rw [← hW]; first | (simp; done) | (simp; omega)
  go_enter Tryz.func102, Tryz.ntmps102
  skip
  have x0 := RowIs.cell (j := 0) RX rfl
  have x1 := RowIs.cell (j := 1) RX rfl
  have x2 := RowIs.cell (j := 2) RX rfl
  have xf := fun j => RowIs.frozen RX j
  have xl := RX.lt
  go_wp2_with fail
  clear x0 x1 x2 xf xl
  refine (toRegistry1 d.reg _ _ (HV.out.e.new HB) (by omega)).mono ?_; rintro x w1 ⟨v1, rfl, ho, hb⟩
  obtain ⟨ne, qe, rfl, _⟩ := ho.form
  have zw1 := hb.size
  have Oe := hide ho
  clear ho
  replace RX := RX.new hb
  replace RY := RY.new hb
  replace RZ := RZ.new hb
  replace HB := bchain HB hb
  clear hb
  clear hW
  have z0 := RowIs.cell (j := 0) RZ rfl
  have z1 := RowIs.cell (j := 1) RZ rfl
  have z2 := RowIs.cell (j := 2) RZ rfl
  have zf := fun j => RowIs.frozen RZ j
  have zl := RZ.lt
  go_upto_region 3 with fail
  clear z0 z1 z2 zf zl
  have NOe := hide (OwX.far (OwX.far (OwX.far Oe.out ⟨w.heap.size + 1 + 1, 0, none⟩ (.int .i64 d.reg.lim) (.inl (by show w.heap.size + 1 + 1 < _; omega))) ⟨w.heap.size + 1 + 1, 1, none⟩ (.int .i64 d.reg.top) (.inl (by show w.heap.size + 1 + 1 < _; omega))) ⟨w.heap.size + 1 + 1, 2, none⟩ (.slice ne d.reg.es.length qe) (.inl (by show w.heap.size + 1 + 1 < _; omega)))
  have NRX : RowIs (((w1.setCell ⟨(w.heap.size + 1 + 1), 0, none⟩ (.int .i64 d.reg.lim)).setCell ⟨(w.heap.size + 1 + 1), 1, none⟩ (.int .i64 d.reg.top)).setCell ⟨(w.heap.size + 1 + 1), 2, none⟩ (.slice ne d.reg.es.length qe)) w.heap.size 110 [.int .i64 d.reg.lim, .int .i64 d.reg.top, .slice ae d.reg.es.length pe, .int .i64 d.inr, .slice ai d.inT.length pi, .int .i64 d.outr, .slice ao d.outT.length po, .int .i64 d.get, .int .i64 d.give, .int .i64 d.first, .slice af d.flows.length pf, .bool d.away, .bool d.dead] := (((RX.far ⟨(w.heap.size + 1 + 1), 0, none⟩ (.int .i64 d.reg.lim) (show (w.heap.size + 1 + 1) ≠ w.heap.size by omega)).far ⟨(w.heap.size + 1 + 1), 1, none⟩ (.int .i64 d.reg.top) (show (w.heap.size + 1 + 1) ≠ w.heap.size by omega)).far ⟨(w.heap.size + 1 + 1), 2, none⟩ (.slice ne d.reg.es.length qe) (show (w.heap.size + 1 + 1) ≠ w.heap.size by omega))
  have NRY : RowIs (((w1.setCell ⟨(w.heap.size + 1 + 1), 0, none⟩ (.int .i64 d.reg.lim)).setCell ⟨(w.heap.size + 1 + 1), 1, none⟩ (.int .i64 d.reg.top)).setCell ⟨(w.heap.size + 1 + 1), 2, none⟩ (.slice ne d.reg.es.length qe)) (w.heap.size + 1) 63 [.int .i64 0, .int .i64 0, .slice none 0 0, .int .i64 0, .slice none 0 0, .int .i64 0, .slice none 0 0, .int .i64 0, .int .i64 0, .int .i64 0, .slice none 0 0, .bool false, .bool false] := (((RY.far ⟨(w.heap.size + 1 + 1), 0, none⟩ (.int .i64 d.reg.lim) (show (w.heap.size + 1 + 1) ≠ (w.heap.size + 1) by omega)).far ⟨(w.heap.size + 1 + 1), 1, none⟩ (.int .i64 d.reg.top) (show (w.heap.size + 1 + 1) ≠ (w.heap.size + 1) by omega)).far ⟨(w.heap.size + 1 + 1), 2, none⟩ (.slice ne d.reg.es.length qe) (show (w.heap.size + 1 + 1) ≠ (w.heap.size + 1) by omega))
  have NRZ : RowIs (((w1.setCell ⟨(w.heap.size + 1 + 1), 0, none⟩ (.int .i64 d.reg.lim)).setCell ⟨(w.heap.size + 1 + 1), 1, none⟩ (.int .i64 d.reg.top)).setCell ⟨(w.heap.size + 1 + 1), 2, none⟩ (.slice ne d.reg.es.length qe)) (w.heap.size + 1 + 1) 63 [.int .i64 d.reg.lim, .int .i64 d.reg.top, .slice ne d.reg.es.length qe, .int .i64 0, .slice none 0 0, .int .i64 0, .slice none 0 0, .int .i64 0, .int .i64 0, .int .i64 0, .slice none 0 0, .bool false, .bool false] := (((RZ.set 0 (.int .i64 d.reg.lim)).set 1 (.int .i64 d.reg.top)).set 2 (.slice ne d.reg.es.length qe))
  have NHB := (((HB.setCell (p := ⟨(w.heap.size + 1 + 1), 0, none⟩) (show w.heap.size ≤ (w.heap.size + 1 + 1) by omega) (.int .i64 d.reg.lim)).setCell (p := ⟨(w.heap.size + 1 + 1), 1, none⟩) (show w.heap.size ≤ (w.heap.size + 1 + 1) by omega) (.int .i64 d.reg.top)).setCell (p := ⟨(w.heap.size + 1 + 1), 2, none⟩) (show w.heap.size ≤ (w.heap.size + 1 + 1) by omega) (.slice ne d.reg.es.length qe))
  generalize hqV1 : (((w1.setCell ⟨(w.heap.size + 1 + 1), 0, none⟩ (.int .i64 d.reg.lim)).setCell ⟨(w.heap.size + 1 + 1), 1, none⟩ (.int .i64 d.reg.top)).setCell ⟨(w.heap.size + 1 + 1), 2, none⟩ (.slice ne d.reg.es.length qe)) = V1 at *
  clear RX
  have RX := NRX
  clear NRX
  clear RY
  have RY := NRY
  clear NRY
  clear RZ
  have RZ := NRZ
  clear NRZ
  clear HB
  have HB := NHB
  clear NHB
  clear Oe
  have Oe := NOe
  clear NOe
  have zV1 : V1.heap.size = w1.heap.size := by rw [← hqV1]; simp
  clear hqV1
  have x3 := RowIs.cell (j := 3) RX rfl
  have x4 := RowIs.cell (j := 4) RX rfl
  have xf := fun j => RowIs.frozen RX j
  have xl := RX.lt
  go_wp2_with fail
  clear x3 x4 xf xl
  refine (toTable2 d.inT d.inr _ _ (HV.out.i.new HB) (by omega)).mono ?_; rintro x w2 ⟨v1, rfl, ho, hb⟩
  obtain ⟨ni, qi, rfl, _⟩ := ho.form
  have zw2 := hb.size
  have Oi := hide ho
  clear ho
  replace Oe := hide (Oe.out.new hb)
  replace RX := RX.new hb
  replace RY := RY.new hb
  replace RZ := RZ.new hb
  replace HB := bchain HB hb
  clear hb
  have z3 := RowIs.cell (j := 3) RZ rfl
  have z4 := RowIs.cell (j := 4) RZ rfl
  have zf := fun j => RowIs.frozen RZ j
  have zl := RZ.lt
  go_upto_region 4 with fail
  clear z3 z4 zf zl
  have NOe := hide (OwX.far (OwX.far Oe.out ⟨w.heap.size + 1 + 1, 3, none⟩ (.int .i64 d.inr) (.inl (by show w.heap.size + 1 + 1 < _; omega))) ⟨w.heap.size + 1 + 1, 4, none⟩ (.slice ni d.inT.length qi) (.inl (by show w.heap.size + 1 + 1 < _; omega)))
  have NOi := hide (OwX.far (OwX.far Oi.out ⟨w.heap.size + 1 + 1, 3, none⟩ (.int .i64 d.inr) (.inl (by show w.heap.size + 1 + 1 < _; omega))) ⟨w.heap.size + 1 + 1, 4, none⟩ (.slice ni d.inT.length qi) (.inl (by show w.heap.size + 1 + 1 < _; omega)))
  have NRX : RowIs ((w2.setCell ⟨(w.heap.size + 1 + 1), 3, none⟩ (.int .i64 d.inr)).setCell ⟨(w.heap.size + 1 + 1), 4, none⟩ (.slice ni d.inT.length qi)) w.heap.size 110 [.int .i64 d.reg.lim, .int .i64 d.reg.top, .slice ae d.reg.es.length pe, .int .i64 d.inr, .slice ai d.inT.length pi, .int .i64 d.outr, .slice ao d.outT.length po, .int .i64 d.get, .int .i64 d.give, .int .i64 d.first, .slice af d.flows.length pf, .bool d.away, .bool d.dead] := ((RX.far ⟨(w.heap.size + 1 + 1), 3, none⟩ (.int .i64 d.inr) (show (w.heap.size + 1 + 1) ≠ w.heap.size by omega)).far ⟨(w.heap.size + 1 + 1), 4, none⟩ (.slice ni d.inT.length qi) (show (w.heap.size + 1 + 1) ≠ w.heap.size by omega))
  have NRY : RowIs ((w2.setCell ⟨(w.heap.size + 1 + 1), 3, none⟩ (.int .i64 d.inr)).setCell ⟨(w.heap.size + 1 + 1), 4, none⟩ (.slice ni d.inT.length qi)) (w.heap.size + 1) 63 [.int .i64 0, .int .i64 0, .slice none 0 0, .int .i64 0, .slice none 0 0, .int .i64 0, .slice none 0 0, .int .i64 0, .int .i64 0, .int .i64 0, .slice none 0 0, .bool false, .bool false] := ((RY.far ⟨(w.heap.size + 1 + 1), 3, none⟩ (.int .i64 d.inr) (show (w.heap.size + 1 + 1) ≠ (w.heap.size + 1) by omega)).far ⟨(w.heap.size + 1 + 1), 4, none⟩ (.slice ni d.inT.length qi) (show (w.heap.size + 1 + 1) ≠ (w.heap.size + 1) by omega))
  have NRZ : RowIs ((w2.setCell ⟨(w.heap.size + 1 + 1), 3, none⟩ (.int .i64 d.inr)).setCell ⟨(w.heap.size + 1 + 1), 4, none⟩ (.slice ni d.inT.length qi)) (w.heap.size + 1 + 1) 63 [.int .i64 d.reg.lim, .int .i64 d.reg.top, .slice ne d.reg.es.length qe, .int .i64 d.inr, .slice ni d.inT.length qi, .int .i64 0, .slice none 0 0, .int .i64 0, .int .i64 0, .int .i64 0, .slice none 0 0, .bool false, .bool false] := ((RZ.set 3 (.int .i64 d.inr)).set 4 (.slice ni d.inT.length qi))
  have NHB := ((HB.setCell (p := ⟨(w.heap.size + 1 + 1), 3, none⟩) (show w.heap.size ≤ (w.heap.size + 1 + 1) by omega) (.int .i64 d.inr)).setCell (p := ⟨(w.heap.size + 1 + 1), 4, none⟩) (show w.heap.size ≤ (w.heap.size + 1 + 1) by omega) (.slice ni d.inT.length qi))
  generalize hqV2 : ((w2.setCell ⟨(w.heap.size + 1 + 1), 3, none⟩ (.int .i64 d.inr)).setCell ⟨(w.heap.size + 1 + 1), 4, none⟩ (.slice ni d.inT.length qi)) = V2 at *
  clear RX
  have RX := NRX
  clear NRX
  clear RY
  have RY := NRY
  clear NRY
  clear RZ
  have RZ := NRZ
  clear NRZ
  clear HB
  have HB := NHB
  clear NHB
  clear Oe
  have Oe := NOe
  clear NOe
  clear Oi
  have Oi := NOi
  clear NOi
  have zV2 : V2.heap.size = w2.heap.size := by rw [← hqV2]; simp
  clear hqV2
  have x5 := RowIs.cell (j := 5) RX rfl
  have x6 := RowIs.cell (j := 6) RX rfl
  have xf := fun j => RowIs.frozen RX j
  have xl := RX.lt
  go_wp2_with fail
  clear x5 x6 xf xl
  refine (toTable2 d.outT d.outr _ _ (HV.out.o.new HB) (by omega)).mono ?_; rintro x w3 ⟨v1, rfl, ho, hb⟩
  obtain ⟨no, qo, rfl, _⟩ := ho.form
  have zw3 := hb.size
  have Oo := hide ho
  clear ho
  replace Oe := hide (Oe.out.new hb)
  replace Oi := hide (Oi.out.new hb)
  replace RX := RX.new hb
  replace RY := RY.new hb
  replace RZ := RZ.new hb
  replace HB := bchain HB hb
  clear hb
  have z5 := RowIs.cell (j := 5) RZ rfl
  have z6 := RowIs.cell (j := 6) RZ rfl
  have zf := fun j => RowIs.frozen RZ j
  have zl := RZ.lt
  go_upto_region 5 with fail
  clear z5 z6 zf zl
  have NOe := hide (OwX.far (OwX.far Oe.out ⟨w.heap.size + 1 + 1, 5, none⟩ (.int .i64 d.outr) (.inl (by show w.heap.size + 1 + 1 < _; omega))) ⟨w.heap.size + 1 + 1, 6, none⟩ (.slice no d.outT.length qo) (.inl (by show w.heap.size + 1 + 1 < _; omega)))
  have NOi := hide (OwX.far (OwX.far Oi.out ⟨w.heap.size + 1 + 1, 5, none⟩ (.int .i64 d.outr) (.inl (by show w.heap.size + 1 + 1 < _; omega))) ⟨w.heap.size + 1 + 1, 6, none⟩ (.slice no d.outT.length qo) (.inl (by show w.heap.size + 1 + 1 < _; omega)))
  have NOo := hide (OwX.far (OwX.far Oo.out ⟨w.heap.size + 1 + 1, 5, none⟩ (.int .i64 d.outr) (.inl (by show w.heap.size + 1 + 1 < _; omega))) ⟨w.heap.size + 1 + 1, 6, none⟩ (.slice no d.outT.length qo) (.inl (by show w.heap.size + 1 + 1 < _; omega)))
  have NRX : RowIs ((w3.setCell ⟨(w.heap.size + 1 + 1), 5, none⟩ (.int .i64 d.outr)).setCell ⟨(w.heap.size + 1 + 1), 6, none⟩ (.slice no d.outT.length qo)) w.heap.size 110 [.int .i64 d.reg.lim, .int .i64 d.reg.top, .slice ae d.reg.es.length pe, .int .i64 d.inr, .slice ai d.inT.length pi, .int .i64 d.outr, .slice ao d.outT.length po, .int .i64 d.get, .int .i64 d.give, .int .i64 d.first, .slice af d.flows.length pf, .bool d.away, .bool d.dead] := ((RX.far ⟨(w.heap.size + 1 + 1), 5, none⟩ (.int .i64 d.outr) (show (w.heap.size + 1 + 1) ≠ w.heap.size by omega)).far ⟨(w.heap.size + 1 + 1), 6, none⟩ (.slice no d.outT.length qo) (show (w.heap.size + 1 + 1) ≠ w.heap.size by omega))
  have NRY : RowIs ((w3.setCell ⟨(w.heap.size + 1 + 1), 5, none⟩ (.int .i64 d.outr)).setCell ⟨(w.heap.size + 1 + 1), 6, none⟩ (.slice no d.outT.length qo)) (w.heap.size + 1) 63 [.int .i64 0, .int .i64 0, .slice none 0 0, .int .i64 0, .slice none 0 0, .int .i64 0, .slice none 0 0, .int .i64 0, .int .i64 0, .int .i64 0, .slice none 0 0, .bool false, .bool false] := ((RY.far ⟨(w.heap.size + 1 + 1), 5, none⟩ (.int .i64 d.outr) (show (w.heap.size + 1 + 1) ≠ (w.heap.size + 1) by omega)).far ⟨(w.heap.size + 1 + 1), 6, none⟩ (.slice no d.outT.length qo) (show (w.heap.size + 1 + 1) ≠ (w.heap.size + 1) by omega))
  have NRZ : RowIs ((w3.setCell ⟨(w.heap.size + 1 + 1), 5, none⟩ (.int .i64 d.outr)).setCell ⟨(w.heap.size + 1 + 1), 6, none⟩ (.slice no d.outT.length qo)) (w.heap.size + 1 + 1) 63 [.int .i64 d.reg.lim, .int .i64 d.reg.top, .slice ne d.reg.es.length qe, .int .i64 d.inr, .slice ni d.inT.length qi, .int .i64 d.outr, .slice no d.outT.length qo, .int .i64 0, .int .i64 0, .int .i64 0, .slice none 0 0, .bool false, .bool false] := ((RZ.set 5 (.int .i64 d.outr)).set 6 (.slice no d.outT.length qo))
  have NHB := ((HB.setCell (p := ⟨(w.heap.size + 1 + 1), 5, none⟩) (show w.heap.size ≤ (w.heap.size + 1 + 1) by omega) (.int .i64 d.outr)).setCell (p := ⟨(w.heap.size + 1 + 1), 6, none⟩) (show w.heap.size ≤ (w.heap.size + 1 + 1) by omega) (.slice no d.outT.length qo))
  generalize hqV3 : ((w3.setCell ⟨(w.heap.size + 1 + 1), 5, none⟩ (.int .i64 d.outr)).setCell ⟨(w.heap.size + 1 + 1), 6, none⟩ (.slice no d.outT.length qo)) = V3 at *
  clear RX
  have RX := NRX
  clear NRX
  clear RY
  have RY := NRY
  clear NRY
  clear RZ
  have RZ := NRZ
  clear NRZ
  clear HB
  have HB := NHB
  clear NHB
  clear Oe
  have Oe := NOe
  clear NOe
  clear Oi
  have Oi := NOi
  clear NOi
  clear Oo
  have Oo := NOo
  clear NOo
  have zV3 : V3.heap.size = w3.heap.size := by rw [← hqV3]; simp
  clear hqV3
  have x7 := RowIs.cell (j := 7) RX rfl
  have x8 := RowIs.cell (j := 8) RX rfl
  have x9 := RowIs.cell (j := 9) RX rfl
  have xf := fun j => RowIs.frozen RX j
  have xl := RX.lt
  have z7 := RowIs.cell (j := 7) RZ rfl
  have z8 := RowIs.cell (j := 8) RZ rfl
  have z9 := RowIs.cell (j := 9) RZ rfl
  have zf := fun j => RowIs.frozen RZ j
  have zl := RZ.lt
  go_upto_region 8 with fail
  clear z7 z8 z9 zf zl
  clear x7 x8 x9 xf xl
  have NOe := hide (OwX.far (OwX.far (OwX.far Oe.out ⟨w.heap.size + 1 + 1, 7, none⟩ (.int .i64 d.get) (.inl (by show w.heap.size + 1 + 1 < _; omega))) ⟨w.heap.size + 1 + 1, 8, none⟩ (.int .i64 d.give) (.inl (by show w.heap.size + 1 + 1 < _; omega))) ⟨w.heap.size + 1 + 1, 9, none⟩ (.int .i64 d.first) (.inl (by show w.heap.size + 1 + 1 < _; omega)))
  have NOi := hide (OwX.far (OwX.far (OwX.far Oi.out ⟨w.heap.size + 1 + 1, 7, none⟩ (.int .i64 d.get) (.inl (by show w.heap.size + 1 + 1 < _; omega))) ⟨w.heap.size + 1 + 1, 8, none⟩ (.int .i64 d.give) (.inl (by show w.heap.size + 1 + 1 < _; omega))) ⟨w.heap.size + 1 + 1, 9, none⟩ (.int .i64 d.first) (.inl (by show w.heap.size + 1 + 1 < _; omega)))
  have NOo := hide (OwX.far (OwX.far (OwX.far Oo.out ⟨w.heap.size + 1 + 1, 7, none⟩ (.int .i64 d.get) (.inl (by show w.heap.size + 1 + 1 < _; omega))) ⟨w.heap.size + 1 + 1, 8, none⟩ (.int .i64 d.give) (.inl (by show w.heap.size + 1 + 1 < _; omega))) ⟨w.heap.size + 1 + 1, 9, none⟩ (.int .i64 d.first) (.inl (by show w.heap.size + 1 + 1 < _; omega)))
  have NRX : RowIs (((V3.setCell ⟨(w.heap.size + 1 + 1), 7, none⟩ (.int .i64 d.get)).setCell ⟨(w.heap.size + 1 + 1), 8, none⟩ (.int .i64 d.give)).setCell ⟨(w.heap.size + 1 + 1), 9, none⟩ (.int .i64 d.first)) w.heap.size 110 [.int .i64 d.reg.lim, .int .i64 d.reg.top, .slice ae d.reg.es.length pe, .int .i64 d.inr, .slice ai d.inT.length pi, .int .i64 d.outr, .slice ao d.outT.length po, .int .i64 d.get, .int .i64 d.give, .int .i64 d.first, .slice af d.flows.length pf, .bool d.away, .bool d.dead] := (((RX.far ⟨(w.heap.size + 1 + 1), 7, none⟩ (.int .i64 d.get) (show (w.heap.size + 1 + 1) ≠ w.heap.size by omega)).far ⟨(w.heap.size + 1 + 1), 8, none⟩ (.int .i64 d.give) (show (w.heap.size + 1 + 1) ≠ w.heap.size by omega)).far ⟨(w.heap.size + 1 + 1), 9, none⟩ (.int .i64 d.first) (show (w.heap.size + 1 + 1) ≠ w.heap.size by omega))
  have NRY : RowIs (((V3.setCell ⟨(w.heap.size + 1 + 1), 7, none⟩ (.int .i64 d.get)).setCell ⟨(w.heap.size + 1 + 1), 8, none⟩ (.int .i64 d.give)).setCell ⟨(w.heap.size + 1 + 1), 9, none⟩ (.int .i64 d.first)) (w.heap.size + 1) 63 [.int .i64 0, .int .i64 0, .slice none 0 0, .int .i64 0, .slice none 0 0, .int .i64 0, .slice none 0 0, .int .i64 0, .int .i64 0, .int .i64 0, .slice none 0 0, .bool false, .bool false] := (((RY.far ⟨(w.heap.size + 1 + 1), 7, none⟩ (.int .i64 d.get) (show (w.heap.size + 1 + 1) ≠ (w.heap.size + 1) by omega)).far ⟨(w.heap.size + 1 + 1), 8, none⟩ (.int .i64 d.give) (show (w.heap.size + 1 + 1) ≠ (w.heap.size + 1) by omega)).far ⟨(w.heap.size + 1 + 1), 9, none⟩ (.int .i64 d.first) (show (w.heap.size + 1 + 1) ≠ (w.heap.size + 1) by omega))
  have NRZ : RowIs (((V3.setCell ⟨(w.heap.size + 1 + 1), 7, none⟩ (.int .i64 d.get)).setCell ⟨(w.heap.size + 1 + 1), 8, none⟩ (.int .i64 d.give)).setCell ⟨(w.heap.size + 1 + 1), 9, none⟩ (.int .i64 d.first)) (w.heap.size + 1 + 1) 63 [.int .i64 d.reg.lim, .int .i64 d.reg.top, .slice ne d.reg.es.length qe, .int .i64 d.inr, .slice ni d.inT.length qi, .int .i64 d.outr, .slice no d.outT.length qo, .int .i64 d.get, .int .i64 d.give, .int .i64 d.first, .slice none 0 0, .bool false, .bool false] := (((RZ.set 7 (.int .i64 d.get)).set 8 (.int .i64 d.give)).set 9 (.int .i64 d.first))
  have NHB := (((HB.setCell (p := ⟨(w.heap.size + 1 + 1), 7, none⟩) (show w.heap.size ≤ (w.heap.size + 1 + 1) by omega) (.int .i64 d.get)).setCell (p := ⟨(w.heap.size + 1 + 1), 8, none⟩) (show w.heap.size ≤ (w.heap.size + 1 + 1) by omega) (.int .i64 d.give)).setCell (p := ⟨(w.heap.size + 1 + 1), 9, none⟩) (show w.heap.size ≤ (w.heap.size + 1 + 1) by omega) (.int .i64 d.first))
  generalize hqV4 : (((V3.setCell ⟨(w.heap.size + 1 + 1), 7, none⟩ (.int .i64 d.get)).setCell ⟨(w.heap.size + 1 + 1), 8, none⟩ (.int .i64 d.give)).setCell ⟨(w.heap.size + 1 + 1), 9, none⟩ (.int .i64 d.first)) = V4 at *
  clear RX
  have RX := NRX
  clear NRX
  clear RY
  have RY := NRY
  clear NRY
  clear RZ
  have RZ := NRZ
  clear NRZ
  clear HB
  have HB := NHB
  clear NHB
  clear Oe
  have Oe := NOe
  clear NOe
  clear Oi
  have Oi := NOi
  clear NOi
  clear Oo
  have Oo := NOo
  clear NOo
  have zV4 : V4.heap.size = V3.heap.size := by rw [← hqV4]; simp
  clear hqV4
  have x10 := RowIs.cell (j := 10) RX rfl
  have xf := fun j => RowIs.frozen RX j
  have xl := RX.lt
  go_wp2_with fail
  clear x10 xf xl
  refine (toFlowS d.flows _ _ (HV.out.f.new HB) (by omega)).mono ?_; rintro x w4 ⟨v1, rfl, ho, hb⟩
  obtain ⟨nf, qf, rfl, _⟩ := ho.form
  have zw4 := hb.size
  have Of := hide ho
  clear ho
  replace Oe := hide (Oe.out.new hb)
  replace Oi := hide (Oi.out.new hb)
  replace Oo := hide (Oo.out.new hb)
  replace RX := RX.new hb
  replace RY := RY.new hb
  replace RZ := RZ.new hb
  replace HB := bchain HB hb
  clear hb
  have z10 := RowIs.cell (j := 10) RZ rfl
  have zf := fun j => RowIs.frozen RZ j
  have zl := RZ.lt
  go_upto_region 9 with fail
  clear z10 zf zl
  have NOe := hide (OwX.far Oe.out ⟨w.heap.size + 1 + 1, 10, none⟩ (.slice nf d.flows.length qf) (.inl (by show w.heap.size + 1 + 1 < _; omega)))
  have NOi := hide (OwX.far Oi.out ⟨w.heap.size + 1 + 1, 10, none⟩ (.slice nf d.flows.length qf) (.inl (by show w.heap.size + 1 + 1 < _; omega)))
  have NOo := hide (OwX.far Oo.out ⟨w.heap.size + 1 + 1, 10, none⟩ (.slice nf d.flows.length qf) (.inl (by show w.heap.size + 1 + 1 < _; omega)))
  have NOf := hide (OwX.far Of.out ⟨w.heap.size + 1 + 1, 10, none⟩ (.slice nf d.flows.length qf) (.inl (by show w.heap.size + 1 + 1 < _; omega)))
  have NRX : RowIs (w4.setCell ⟨(w.heap.size + 1 + 1), 10, none⟩ (.slice nf d.flows.length qf)) w.heap.size 110 [.int .i64 d.reg.lim, .int .i64 d.reg.top, .slice ae d.reg.es.length pe, .int .i64 d.inr, .slice ai d.inT.length pi, .int .i64 d.outr, .slice ao d.outT.length po, .int .i64 d.get, .int .i64 d.give, .int .i64 d.first, .slice af d.flows.length pf, .bool d.away, .bool d.dead] := (RX.far ⟨(w.heap.size + 1 + 1), 10, none⟩ (.slice nf d.flows.length qf) (show (w.heap.size + 1 + 1) ≠ w.heap.size by omega))
  have NRY : RowIs (w4.setCell ⟨(w.heap.size + 1 + 1), 10, none⟩ (.slice nf d.flows.length qf)) (w.heap.size + 1) 63 [.int .i64 0, .int .i64 0, .slice none 0 0, .int .i64 0, .slice none 0 0, .int .i64 0, .slice none 0 0, .int .i64 0, .int .i64 0, .int .i64 0, .slice none 0 0, .bool false, .bool false] := (RY.far ⟨(w.heap.size + 1 + 1), 10, none⟩ (.slice nf d.flows.length qf) (show (w.heap.size + 1 + 1) ≠ (w.heap.size + 1) by omega))
  have NRZ : RowIs (w4.setCell ⟨(w.heap.size + 1 + 1), 10, none⟩ (.slice nf d.flows.length qf)) (w.heap.size + 1 + 1) 63 [.int .i64 d.reg.lim, .int .i64 d.reg.top, .slice ne d.reg.es.length qe, .int .i64 d.inr, .slice ni d.inT.length qi, .int .i64 d.outr, .slice no d.outT.length qo, .int .i64 d.get, .int .i64 d.give, .int .i64 d.first, .slice nf d.flows.length qf, .bool false, .bool false] := (RZ.set 10 (.slice nf d.flows.length qf))
  have NHB := (HB.setCell (p := ⟨(w.heap.size + 1 + 1), 10, none⟩) (show w.heap.size ≤ (w.heap.size + 1 + 1) by omega) (.slice nf d.flows.length qf))
  generalize hqV5 : (w4.setCell ⟨(w.heap.size + 1 + 1), 10, none⟩ (.slice nf d.flows.length qf)) = V5 at *
  clear RX
  have RX := NRX
  clear NRX
  clear RY
  have RY := NRY
  clear NRY
  clear RZ
  have RZ := NRZ
  clear NRZ
  clear HB
  have HB := NHB
  clear NHB
  clear Oe
  have Oe := NOe
  clear NOe
  clear Oi
  have Oi := NOi
  clear NOi
  clear Oo
  have Oo := NOo
  clear NOo
  clear Of
  have Of := NOf
  clear NOf
  have zV5 : V5.heap.size = w4.heap.size := by rw [← hqV5]; simp
  clear hqV5
  have x11 := RowIs.cell (j := 11) RX rfl
  have x12 := RowIs.cell (j := 12) RX rfl
  have xf := fun j => RowIs.frozen RX j
  have xl := RX.lt
  have z11 := RowIs.cell (j := 11) RZ rfl
  have z12 := RowIs.cell (j := 12) RZ rfl
  have zf := fun j => RowIs.frozen RZ j
  have zl := RZ.lt
  go_upto_region 11 with fail
  clear z11 z12 zf zl
  clear x11 x12 xf xl
  have NOe := hide (OwX.far (OwX.far Oe.out ⟨w.heap.size + 1 + 1, 11, none⟩ (.bool d.away) (.inl (by show w.heap.size + 1 + 1 < _; omega))) ⟨w.heap.size + 1 + 1, 12, none⟩ (.bool d.dead) (.inl (by show w.heap.size + 1 + 1 < _; omega)))
  have NOi := hide (OwX.far (OwX.far Oi.out ⟨w.heap.size + 1 + 1, 11, none⟩ (.bool d.away) (.inl (by show w.heap.size + 1 + 1 < _; omega))) ⟨w.heap.size + 1 + 1, 12, none⟩ (.bool d.dead) (.inl (by show w.heap.size + 1 + 1 < _; omega)))
  have NOo := hide (OwX.far (OwX.far Oo.out ⟨w.heap.size + 1 + 1, 11, none⟩ (.bool d.away) (.inl (by show w.heap.size + 1 + 1 < _; omega))) ⟨w.heap.size + 1 + 1, 12, none⟩ (.bool d.dead) (.inl (by show w.heap.size + 1 + 1 < _; omega)))
  have NOf := hide (OwX.far (OwX.far Of.out ⟨w.heap.size + 1 + 1, 11, none⟩ (.bool d.away) (.inl (by show w.heap.size + 1 + 1 < _; omega))) ⟨w.heap.size + 1 + 1, 12, none⟩ (.bool d.dead) (.inl (by show w.heap.size + 1 + 1 < _; omega)))
  have NRX : RowIs ((V5.setCell ⟨(w.heap.size + 1 + 1), 11, none⟩ (.bool d.away)).setCell ⟨(w.heap.size + 1 + 1), 12, none⟩ (.bool d.dead)) w.heap.size 110 [.int .i64 d.reg.lim, .int .i64 d.reg.top, .slice ae d.reg.es.length pe, .int .i64 d.inr, .slice ai d.inT.length pi, .int .i64 d.outr, .slice ao d.outT.length po, .int .i64 d.get, .int .i64 d.give, .int .i64 d.first, .slice af d.flows.length pf, .bool d.away, .bool d.dead] := ((RX.far ⟨(w.heap.size + 1 + 1), 11, none⟩ (.bool d.away) (show (w.heap.size + 1 + 1) ≠ w.heap.size by omega)).far ⟨(w.heap.size + 1 + 1), 12, none⟩ (.bool d.dead) (show (w.heap.size + 1 + 1) ≠ w.heap.size by omega))
  have NRY : RowIs ((V5.setCell ⟨(w.heap.size + 1 + 1), 11, none⟩ (.bool d.away)).setCell ⟨(w.heap.size + 1 + 1), 12, none⟩ (.bool d.dead)) (w.heap.size + 1) 63 [.int .i64 0, .int .i64 0, .slice none 0 0, .int .i64 0, .slice none 0 0, .int .i64 0, .slice none 0 0, .int .i64 0, .int .i64 0, .int .i64 0, .slice none 0 0, .bool false, .bool false] := ((RY.far ⟨(w.heap.size + 1 + 1), 11, none⟩ (.bool d.away) (show (w.heap.size + 1 + 1) ≠ (w.heap.size + 1) by omega)).far ⟨(w.heap.size + 1 + 1), 12, none⟩ (.bool d.dead) (show (w.heap.size + 1 + 1) ≠ (w.heap.size + 1) by omega))
  have NRZ : RowIs ((V5.setCell ⟨(w.heap.size + 1 + 1), 11, none⟩ (.bool d.away)).setCell ⟨(w.heap.size + 1 + 1), 12, none⟩ (.bool d.dead)) (w.heap.size + 1 + 1) 63 [.int .i64 d.reg.lim, .int .i64 d.reg.top, .slice ne d.reg.es.length qe, .int .i64 d.inr, .slice ni d.inT.length qi, .int .i64 d.outr, .slice no d.outT.length qo, .int .i64 d.get, .int .i64 d.give, .int .i64 d.first, .slice nf d.flows.length qf, .bool d.away, .bool d.dead] := ((RZ.set 11 (.bool d.away)).set 12 (.bool d.dead))
  have NHB := ((HB.setCell (p := ⟨(w.heap.size + 1 + 1), 11, none⟩) (show w.heap.size ≤ (w.heap.size + 1 + 1) by omega) (.bool d.away)).setCell (p := ⟨(w.heap.size + 1 + 1), 12, none⟩) (show w.heap.size ≤ (w.heap.size + 1 + 1) by omega) (.bool d.dead))
  generalize hqV6 : ((V5.setCell ⟨(w.heap.size + 1 + 1), 11, none⟩ (.bool d.away)).setCell ⟨(w.heap.size + 1 + 1), 12, none⟩ (.bool d.dead)) = V6 at *
  clear RX
  have RX := NRX
  clear NRX
  clear RY
  have RY := NRY
  clear NRY
  clear RZ
  have RZ := NRZ
  clear NRZ
  clear HB
  have HB := NHB
  clear NHB
  clear Oe
  have Oe := NOe
  clear NOe
  clear Oi
  have Oi := NOi
  clear NOi
  clear Oo
  have Oo := NOo
  clear NOo
  clear Of
  have Of := NOf
  clear NOf
  have zV6 : V6.heap.size = V5.heap.size := by rw [← hqV6]; simp
  clear hqV6
  go_wp2_with (first | (refine wpList_load_row (by rfl) 63 _ (by rfl) (w.heap.size + 1 + 1) (by rfl) [.int .i64 d.reg.lim, .int .i64 d.reg.top, .slice ne d.reg.es.length qe, .int .i64 d.inr, .slice ni d.inT.length qi, .int .i64 d.outr, .slice no d.outT.length qo, .int .i64 d.get, .int .i64 d.give, .int .i64 d.first, .slice nf d.flows.length qf, .bool d.away, .bool d.dead] _ 63 RZ Tryz.underlying63 rfl (by kernel_rfl) ?_) | (refine wpList_store_row (by rfl) 63 _ _ (by rfl) (w.heap.size + 1) [.int .i64 d.reg.lim, .int .i64 d.reg.top, .slice ne d.reg.es.length qe, .int .i64 d.inr, .slice ni d.inT.length qi, .int .i64 d.outr, .slice no d.outT.length qo, .int .i64 d.get, .int .i64 d.give, .int .i64 d.first, .slice nf d.flows.length qf, .bool d.away, .bool d.dead] (by rfl) (by rfl) 63 [.int .i64 0, .int .i64 0, .slice none 0 0, .int .i64 0, .slice none 0 0, .int .i64 0, .slice none 0 0, .int .i64 0, .int .i64 0, .int .i64 0, .slice none 0 0, .bool false, .bool false] RY (by kernel_rfl) rfl (by intro u hu; simp at hu; rcases hu with rfl | rfl | rfl | rfl | rfl | rfl | rfl | rfl | rfl | rfl | rfl | rfl | rfl <;> rfl) ?_))
  have NOe := hide (OwX.keep1 Oe.out (setRow_size V6 _ #[.int .i64 d.reg.lim, .int .i64 d.reg.top, .slice ne d.reg.es.length qe, .int .i64 d.inr, .slice ni d.inT.length qi, .int .i64 d.outr, .slice no d.outT.length qo, .int .i64 d.get, .int .i64 d.give, .int .i64 d.first, .slice nf d.flows.length qf, .bool d.away, .bool d.dead]) (fun k hk => setRow_other V6 (w.heap.size + 1) #[.int .i64 d.reg.lim, .int .i64 d.reg.top, .slice ne d.reg.es.length qe, .int .i64 d.inr, .slice ni d.inT.length qi, .int .i64 d.outr, .slice no d.outT.length qo, .int .i64 d.get, .int .i64 d.give, .int .i64 d.first, .slice nf d.flows.length qf, .bool d.away, .bool d.dead] k (by omega)))
  have NOi := hide (OwX.keep1 Oi.out (setRow_size V6 _ #[.int .i64 d.reg.lim, .int .i64 d.reg.top, .slice ne d.reg.es.length qe, .int .i64 d.inr, .slice ni d.inT.length qi, .int .i64 d.outr, .slice no d.outT.length qo, .int .i64 d.get, .int .i64 d.give, .int .i64 d.first, .slice nf d.flows.length qf, .bool d.away, .bool d.dead]) (fun k hk => setRow_other V6 (w.heap.size + 1) #[.int .i64 d.reg.lim, .int .i64 d.reg.top, .slice ne d.reg.es.length qe, .int .i64 d.inr, .slice ni d.inT.length qi, .int .i64 d.outr, .slice no d.outT.length qo, .int .i64 d.get, .int .i64 d.give, .int .i64 d.first, .slice nf d.flows.length qf, .bool d.away, .bool d.dead] k (by omega)))
  have NOo := hide (OwX.keep1 Oo.out (setRow_size V6 _ #[.int .i64 d.reg.lim, .int .i64 d.reg.top, .slice ne d.reg.es.length qe, .int .i64 d.inr, .slice ni d.inT.length qi, .int .i64 d.outr, .slice no d.outT.length qo, .int .i64 d.get, .int .i64 d.give, .int .i64 d.first, .slice nf d.flows.length qf, .bool d.away, .bool d.dead]) (fun k hk => setRow_other V6 (w.heap.size + 1) #[.int .i64 d.reg.lim, .int .i64 d.reg.top, .slice ne d.reg.es.length qe, .int .i64 d.inr, .slice ni d.inT.length qi, .int .i64 d.outr, .slice no d.outT.length qo, .int .i64 d.get, .int .i64 d.give, .int .i64 d.first, .slice nf d.flows.length qf, .bool d.away, .bool d.dead] k (by omega)))
  have NOf := hide (OwX.keep1 Of.out (setRow_size V6 _ #[.int .i64 d.reg.lim, .int .i64 d.reg.top, .slice ne d.reg.es.length qe, .int .i64 d.inr, .slice ni d.inT.length qi, .int .i64 d.outr, .slice no d.outT.length qo, .int .i64 d.get, .int .i64 d.give, .int .i64 d.first, .slice nf d.flows.length qf, .bool d.away, .bool d.dead]) (fun k hk => setRow_other V6 (w.heap.size + 1) #[.int .i64 d.reg.lim, .int .i64 d.reg.top, .slice ne d.reg.es.length qe, .int .i64 d.inr, .slice ni d.inT.length qi, .int .i64 d.outr, .slice no d.outT.length qo, .int .i64 d.get, .int .i64 d.give, .int .i64 d.first, .slice nf d.flows.length qf, .bool d.away, .bool d.dead] k (by omega)))
  have zl : (V6.setRow (w.heap.size + 1) #[.int .i64 d.reg.lim, .int .i64 d.reg.top, .slice ne d.reg.es.length qe, .int .i64 d.inr, .slice ni d.inT.length qi, .int .i64 d.outr, .slice no d.outT.length qo, .int .i64 d.get, .int .i64 d.give, .int .i64 d.first, .slice nf d.flows.length qf, .bool d.away, .bool d.dead]).heap.size = V6.heap.size := setRow_size _ _ _
  have NRX := RX.kept (setRow_other V6 (w.heap.size + 1) #[.int .i64 d.reg.lim, .int .i64 d.reg.top, .slice ne d.reg.es.length qe, .int .i64 d.inr, .slice ni d.inT.length qi, .int .i64 d.outr, .slice no d.outT.length qo, .int .i64 d.get, .int .i64 d.give, .int .i64 d.first, .slice nf d.flows.length qf, .bool d.away, .bool d.dead] w.heap.size (by omega))
  have NRY : RowIs (V6.setRow (w.heap.size + 1) #[.int .i64 d.reg.lim, .int .i64 d.reg.top, .slice ne d.reg.es.length qe, .int .i64 d.inr, .slice ni d.inT.length qi, .int .i64 d.outr, .slice no d.outT.length qo, .int .i64 d.get, .int .i64 d.give, .int .i64 d.first, .slice nf d.flows.length qf, .bool d.away, .bool d.dead]) (w.heap.size + 1) 63 [.int .i64 d.reg.lim, .int .i64 d.reg.top, .slice ne d.reg.es.length qe, .int .i64 d.inr, .slice ni d.inT.length qi, .int .i64 d.outr, .slice no d.outT.length qo, .int .i64 d.get, .int .i64 d.give, .int .i64 d.first, .slice nf d.flows.length qf, .bool d.away, .bool d.dead] := rowIs_setRow (cs' := [.int .i64 d.reg.lim, .int .i64 d.reg.top, .slice ne d.reg.es.length qe, .int .i64 d.inr, .slice ni d.inT.length qi, .int .i64 d.outr, .slice no d.outT.length qo, .int .i64 d.get, .int .i64 d.give, .int .i64 d.first, .slice nf d.flows.length qf, .bool d.away, .bool d.dead]) RY
  have NRZ := RZ.kept (setRow_other V6 (w.heap.size + 1) #[.int .i64 d.reg.lim, .int .i64 d.reg.top, .slice ne d.reg.es.length qe, .int .i64 d.inr, .slice ni d.inT.length qi, .int .i64 d.outr, .slice no d.outT.length qo, .int .i64 d.get, .int .i64 d.give, .int .i64 d.first, .slice nf d.flows.length qf, .bool d.away, .bool d.dead] (w.heap.size + 1 + 1) (by omega))
  have NHB := below_setRow HB (show w.heap.size ≤ (w.heap.size + 1) by omega) #[.int .i64 d.reg.lim, .int .i64 d.reg.top, .slice ne d.reg.es.length qe, .int .i64 d.inr, .slice ni d.inT.length qi, .int .i64 d.outr, .slice no d.outT.length qo, .int .i64 d.get, .int .i64 d.give, .int .i64 d.first, .slice nf d.flows.length qf, .bool d.away, .bool d.dead]
  generalize hV : V6.setRow (w.heap.size + 1) #[.int .i64 d.reg.lim, .int .i64 d.reg.top, .slice ne d.reg.es.length qe, .int .i64 d.inr, .slice ni d.inT.length qi, .int .i64 d.outr, .slice no d.outT.length qo, .int .i64 d.get, .int .i64 d.give, .int .i64 d.first, .slice nf d.flows.length qf, .bool d.away, .bool d.dead] = V7 at *
  clear hV
  clear RX
  have RX := NRX
  clear NRX
  clear RY
  have RY := NRY
  clear NRY
  clear RZ
  have RZ := NRZ
  clear NRZ
  clear HB
  have HB := NHB
  clear NHB
  clear Oe
  have Oe := NOe
  clear NOe
  clear Oi
  have Oi := NOi
  clear NOi
  clear Oo
  have Oo := NOo
  clear NOo
  clear Of
  have Of := NOf
  clear NOf
  have y0 := RowIs.cell (j := 0) RY rfl
  have y1 := RowIs.cell (j := 1) RY rfl
  have y2 := RowIs.cell (j := 2) RY rfl
  have y3 := RowIs.cell (j := 3) RY rfl
  have y4 := RowIs.cell (j := 4) RY rfl
  have y5 := RowIs.cell (j := 5) RY rfl
  have y6 := RowIs.cell (j := 6) RY rfl
  have y7 := RowIs.cell (j := 7) RY rfl
  have y8 := RowIs.cell (j := 8) RY rfl
  have y9 := RowIs.cell (j := 9) RY rfl
  have y10 := RowIs.cell (j := 10) RY rfl
  have y11 := RowIs.cell (j := 11) RY rfl
  have y12 := RowIs.cell (j := 12) RY rfl
  have yf := fun j => RowIs.frozen RY j
  have yl := RY.lt
  refine bodyPost_ret (v := .agg #[.int .i64 d.reg.lim, .int .i64 d.reg.top, .slice ne d.reg.es.length qe, .int .i64 d.inr, .slice ni d.inT.length qi, .int .i64 d.outr, .slice no d.outT.length qo, .int .i64 d.get, .int .i64 d.give, .int .i64 d.first, .slice nf d.flows.length qf, .bool d.away, .bool d.dead]) (by simp [results, Tryz.results102, go_sem, *]) rfl ?_
  obtain ⟨be, e1, e2, e3⟩ := Oe.out
  obtain ⟨bi, i1, i2, i3⟩ := Oi.out
  obtain ⟨bo, o1, o2, o3⟩ := Oo.out
  obtain ⟨bf, f1, f2, f3⟩ := Of.out
  refine ⟨_, _, _, _, be ++ bi ++ bo ++ bf, rfl, ⟨⟨be, bi, bo, bf, e1, i1, o1, f1, rfl⟩, ?_⟩, ?_, HB⟩
  · refine nodup_mk (nodup_mk (nodup_mk e2 i2 fun x h1 h2 => ?_) o2 fun x h1 h2 => ?_) f2 fun x h1 h2 => ?_
    · have := e3 x h1; have := i3 x h2; omega
    · rcases List.mem_append.1 h1 with h1 | h1
      · have := e3 x h1; have := o3 x h2; omega
      · have := i3 x h1; have := o3 x h2; omega
    · rcases List.mem_append.1 h1 with h1 | h1
      · rcases List.mem_append.1 h1 with h1 | h1
        · have := e3 x h1; have := f3 x h2; omega
        · have := i3 x h1; have := f3 x h2; omega
      · have := o3 x h1; have := f3 x h2; omega
  · intro b hb
    simp only [List.mem_append] at hb
    rcases hb with ((hb | hb) | hb) | hb
    · have := e3 b hb; omega
    · have := i3 b hb; omega
    · have := o3 b hb; omega
    · have := f3 b hb; omega
set_option maxHeartbeats 4000000 in
theorem eqConn1 (d : CnD) (ve vi vo vf ue ui uo uf : Value) (w : World) (hv : CnRd w d ve vi vo vf) (hu : CnRd w d ue ui uo uf) :
    Calls Tryz.prog 107 #[cnv d ve vi vo vf, cnv d ue ui uo uf] w fun x w' => x = .returned (.bool true) ∧ Below w.heap.size w w' := by
  dsimp only [cnv] at *
  have HV := hide hv
  have HU := hide hu
  clear hv hu
  obtain ⟨ae, pe, rfl, _⟩ := HV.out.e.form
  obtain ⟨ai, pi, rfl, _⟩ := HV.out.i.form
  obtain ⟨ao, po, rfl, _⟩ := HV.out.o.form
  obtain ⟨af, pf, rfl, _⟩ := HV.out.f.form
  obtain ⟨ne, qe, rfl, _⟩ := HU.out.e.form
  obtain ⟨ni, qi, rfl, _⟩ := HU.out.i.form
  obtain ⟨no, qo, rfl, _⟩ := HU.out.o.form
  obtain ⟨nf, qf, rfl, _⟩ := HU.out.f.form
  obtain ⟨W, hW⟩ : ∃ W, (w.alloc (.cells #[.int .i64 d.reg.lim, .int .i64 d.reg.top, .slice ae d.reg.es.length pe, .int .i64 d.inr, .slice ai d.inT.length pi, .int .i64 d.outr, .slice ao d.outT.length po, .int .i64 d.get, .int .i64 d.give, .int .i64 d.first, .slice af d.flows.length pf, .bool d.away, .bool d.dead] 63)).alloc (.cells #[.int .i64 d.reg.lim, .int .i64 d.reg.top, .slice ne d.reg.es.length qe, .int .i64 d.inr, .slice ni d.inT.length qi, .int .i64 d.outr, .slice no d.outT.length qo, .int .i64 d.get, .int .i64 d.give, .int .i64 d.first, .slice nf d.flows.length qf, .bool d.away, .bool d.dead] 63) = W := ⟨_, rfl⟩
  have RX : RowIs W w.heap.size 63 [.int .i64 d.reg.lim, .int .i64 d.reg.top, .slice ae d.reg.es.length pe, .int .i64 d.inr, .slice ai d.inT.length pi, .int .i64 d.outr, .slice ao d.outT.length po, .int .i64 d.get, .int .i64 d.give, .int .i64 d.first, .slice af d.flows.length pf, .bool d.away, .bool d.dead] := by rw [← hW]; exact (rowIs_new w 63 [.int .i64 d.reg.lim, .int .i64 d.reg.top, .slice ae d.reg.es.length pe, .int .i64 d.inr, .slice ai d.inT.length pi, .int .i64 d.outr, .slice ao d.outT.length po, .int .i64 d.get, .int .i64 d.give, .int .i64 d.first, .slice af d.flows.length pf, .bool d.away, .bool d.dead]).alloc _
  have RY : RowIs W (w.heap.size + 1) 63 [.int .i64 d.reg.lim, .int .i64 d.reg.top, .slice ne d.reg.es.length qe, .int .i64 d.inr, .slice ni d.inT.length qi, .int .i64 d.outr, .slice no d.outT.length qo, .int .i64 d.get, .int .i64 d.give, .int .i64 d.first, .slice nf d.flows.length qf, .bool d.away, .bool d.dead] := by have := rowIs_new (w.alloc (.cells #[.int .i64 d.reg.lim, .int .i64 d.reg.top, .slice ae d.reg.es.length pe, .int .i64 d.inr, .slice ai d.inT.length pi, .int .i64 d.outr, .slice ao d.outT.length po, .int .i64 d.get, .int .i64 d.give, .int .i64 d.first, .slice af d.flows.length pf, .bool d.away, .bool d.dead] 63)) 63 [.int .i64 d.reg.lim, .int .i64 d.reg.top, .slice ne d.reg.es.length qe, .int .i64 d.inr, .slice ni d.inT.length qi, .int .i64 d.outr, .slice no d.outT.length qo, .int .i64 d.get, .int .i64 d.give, .int .i64 d.first, .slice nf d.flows.length qf, .bool d.away, .bool d.dead]; rw [hW] at this; simpa using this
  have HB : Below w.heap.size w W := by rw [← hW]; exact (((Below.refl _ _).alloc (Nat.le_refl _) _).alloc (by simp) _)
  have b0 : (d.get != d.get) = false := by simp
  have b1 : (d.give != d.give) = false := by simp
  have b2 : (d.first != d.first) = false := by simp
  go_enter Tryz.func107, Tryz.ntmps107
  have x0 := RowIs.cell (j := 0) RX rfl
  have x1 := RowIs.cell (j := 1) RX rfl
  have x2 := RowIs.cell (j := 2) RX rfl
  have xf := fun j => RowIs.frozen RX j
  have xl := RX.lt
  have y0 := RowIs.cell (j := 0) RY rfl
  have y1 := RowIs.cell (j := 1) RY rfl
  have y2 := RowIs.cell (j := 2) RY rfl
  have yf := fun j => RowIs.frozen RY j
  have yl := RY.lt
  go_wp2_with fail
  clear x0 x1 x2 xf xl
  clear y0 y1 y2 yf yl
  refine (eqRegistry1 d.reg _ _ _ (HV.out.e.new HB) (HU.out.e.new HB)).mono ?_; rintro x w1 ⟨rfl, hb⟩
  replace RX := RX.new hb
  replace RY := RY.new hb
  replace HB := bchain HB hb
  clear hb
  clear hW
  have x3 := RowIs.cell (j := 3) RX rfl
  have x4 := RowIs.cell (j := 4) RX rfl
  have xf := fun j => RowIs.frozen RX j
  have xl := RX.lt
  have y3 := RowIs.cell (j := 3) RY rfl
  have y4 := RowIs.cell (j := 4) RY rfl
  have yf := fun j => RowIs.frozen RY j
  have yl := RY.lt
  go_wp2_with fail
  clear x3 x4 xf xl
  clear y3 y4 yf yl
  refine (eqTable1 d.inT d.inr _ _ _ (rd_fv (HV.out.i.new HB)) (rd_fv (HU.out.i.new HB))).mono ?_; rintro x w2 ⟨rfl, hb⟩
  replace RX := RX.new hb
  replace RY := RY.new hb
  replace HB := bchain HB hb
  clear hb
  have x5 := RowIs.cell (j := 5) RX rfl
  have x6 := RowIs.cell (j := 6) RX rfl
  have xf := fun j => RowIs.frozen RX j
  have xl := RX.lt
  have y5 := RowIs.cell (j := 5) RY rfl
  have y6 := RowIs.cell (j := 6) RY rfl
  have yf := fun j => RowIs.frozen RY j
  have yl := RY.lt
  go_wp2_with fail
  clear x5 x6 xf xl
  clear y5 y6 yf yl
  refine (eqTable1 d.outT d.outr _ _ _ (rd_fv (HV.out.o.new HB)) (rd_fv (HU.out.o.new HB))).mono ?_; rintro x w3 ⟨rfl, hb⟩
  replace RX := RX.new hb
  replace RY := RY.new hb
  replace HB := bchain HB hb
  clear hb
  have x7 := RowIs.cell (j := 7) RX rfl
  have x8 := RowIs.cell (j := 8) RX rfl
  have x9 := RowIs.cell (j := 9) RX rfl
  have x10 := RowIs.cell (j := 10) RX rfl
  have xf := fun j => RowIs.frozen RX j
  have xl := RX.lt
  have y7 := RowIs.cell (j := 7) RY rfl
  have y8 := RowIs.cell (j := 8) RY rfl
  have y9 := RowIs.cell (j := 9) RY rfl
  have y10 := RowIs.cell (j := 10) RY rfl
  have yf := fun j => RowIs.frozen RY j
  have yl := RY.lt
  go_wp2_with fail
  clear x7 x8 x9 x10 xf xl
  clear y7 y8 y9 y10 yf yl
  refine (eqFlowS d.flows _ _ _ (HV.out.f.new HB) (HU.out.f.new HB)).mono ?_; rintro x w4 ⟨rfl, hb⟩
  replace RX := RX.new hb
  replace RY := RY.new hb
  replace HB := bchain HB hb
  clear hb
  have x11 := RowIs.cell (j := 11) RX rfl
  have x12 := RowIs.cell (j := 12) RX rfl
  have xf := fun j => RowIs.frozen RX j
  have xl := RX.lt
  have y11 := RowIs.cell (j := 11) RY rfl
  have y12 := RowIs.cell (j := 12) RY rfl
  have yf := fun j => RowIs.frozen RY j
  have yl := RY.lt
  have c0 : (d.away != d.away) = false := by simp
  have c1 : (d.dead != d.dead) = false := by simp
  go_wp2_with fail
  go_ret
  exact ⟨rfl, HB⟩
set_option maxHeartbeats 4000000 in
theorem szConn1 (d : CnD) (ve vi vo vf : Value) (left : Int) (w : World) (hv : CnRd w d ve vi vo vf) (h0 : 0 ≤ left) (h1 : left ≤ 1048576) :
    Calls Tryz.prog 97 #[cnv d ve vi vo vf, .int .i64 left] w fun x w' => (x = .returned (.int .i64 (-1)) ∨ (x = .returned (.int .i64 (left - szConn d)) ∧ 0 ≤ left - szConn d)) ∧ Below w.heap.size w w' := by
  dsimp only [cnv] at *
  have HV := hide hv
  clear hv
  obtain ⟨ae, pe, rfl, _⟩ := HV.out.e.form
  obtain ⟨ai, pi, rfl, _⟩ := HV.out.i.form
  obtain ⟨ao, po, rfl, _⟩ := HV.out.o.form
  obtain ⟨af, pf, rfl, _⟩ := HV.out.f.form
  obtain ⟨s1, s2, s3, s4⟩ := szConn_nn d
  unfold szConn
  have RX := rowIs_new w 110 [.int .i64 d.reg.lim, .int .i64 d.reg.top, .slice ae d.reg.es.length pe, .int .i64 d.inr, .slice ai d.inT.length pi, .int .i64 d.outr, .slice ao d.outT.length po, .int .i64 d.get, .int .i64 d.give, .int .i64 d.first, .slice af d.flows.length pf, .bool d.away, .bool d.dead]
  have HB : Below w.heap.size w (w.alloc (.cells #[.int .i64 d.reg.lim, .int .i64 d.reg.top, .slice ae d.reg.es.length pe, .int .i64 d.inr, .slice ai d.inT.length pi, .int .i64 d.outr, .slice ao d.outT.length po, .int .i64 d.get, .int .i64 d.give, .int .i64 d.first, .slice af d.flows.length pf, .bool d.away, .bool d.dead] 110)) := (Below.refl _ _).alloc (Nat.le_refl _) _
  obtain ⟨R, hR⟩ : ∃ R, left - (szRegistry d.reg + szFieldS d.inT + szFieldS d.outT + szFlowS d.flows) = R := ⟨_, rfl⟩
  rw [hR]
  go_enter Tryz.func97, Tryz.ntmps97
  go_wp2_with fail
  refine (szRegistry1 d.reg _ left _ (HV.out.e.new HB) (by omega) (by omega)).mono ?_; rintro x u0 ⟨rfl | ⟨rfl, hp0⟩, hb⟩
  · replace HB := bchain HB hb
    go_wp2_with fail
    go_ret
    exact ⟨.inl rfl, HB⟩
  obtain ⟨q0, hq0⟩ : ∃ q, left - szRegistry d.reg = q := ⟨_, rfl⟩
  rw [hq0] at hp0 ⊢
  have hn0 : ¬ q0 < 0 := by omega
  replace RX := RX.new hb
  replace HB := bchain HB hb
  clear hb
  have x3 := RowIs.cell (j := 3) RX rfl
  have x4 := RowIs.cell (j := 4) RX rfl
  have xf := fun j => RowIs.frozen RX j
  have xl := RX.lt
  go_wp2_with fail
  clear x3 x4 xf xl
  refine (szTable2 d.inT d.inr _ q0 _ (HV.out.i.new HB) (by omega) (by omega)).mono ?_; rintro x u1 ⟨rfl | ⟨rfl, hp1⟩, hb⟩
  · replace HB := bchain HB hb
    go_wp2_with fail
    go_ret
    exact ⟨.inl rfl, HB⟩
  obtain ⟨q1, hq1⟩ : ∃ q, q0 - szFieldS d.inT = q := ⟨_, rfl⟩
  rw [hq1] at hp1 ⊢
  have hn1 : ¬ q1 < 0 := by omega
  replace RX := RX.new hb
  replace HB := bchain HB hb
  clear hb
  have x5 := RowIs.cell (j := 5) RX rfl
  have x6 := RowIs.cell (j := 6) RX rfl
  have xf := fun j => RowIs.frozen RX j
  have xl := RX.lt
  go_wp2_with fail
  clear x5 x6 xf xl
  refine (szTable2 d.outT d.outr _ q1 _ (HV.out.o.new HB) (by omega) (by omega)).mono ?_; rintro x u2 ⟨rfl | ⟨rfl, hp2⟩, hb⟩
  · replace HB := bchain HB hb
    go_wp2_with fail
    go_ret
    exact ⟨.inl rfl, HB⟩
  obtain ⟨q2, hq2⟩ : ∃ q, q1 - szFieldS d.outT = q := ⟨_, rfl⟩
  rw [hq2] at hp2 ⊢
  have hn2 : ¬ q2 < 0 := by omega
  replace RX := RX.new hb
  replace HB := bchain HB hb
  clear hb
  have x10 := RowIs.cell (j := 10) RX rfl
  have xf := fun j => RowIs.frozen RX j
  have xl := RX.lt
  go_wp2_with fail
  clear x10 xf xl
  refine (szFlowS1 d.flows _ q2 _ (HV.out.f.new HB) (by omega) (by omega)).mono ?_; rintro x u3 ⟨rfl | ⟨rfl, hp3⟩, hb⟩
  · replace HB := bchain HB hb
    go_wp2_with fail
    go_ret
    exact ⟨.inl rfl, HB⟩
  have hq3 : q2 - szFlowS d.flows = R := by omega
  rw [hq3] at hp3 ⊢
  have hn3 : ¬ R < 0 := by omega
  replace RX := RX.new hb
  replace HB := bchain HB hb
  clear hb
  clear hR hq0 hq1 hq2 hq3
  go_wp2_with fail
  go_ret
  exact ⟨.inr ⟨rfl, hp3⟩, HB⟩
end Go.Proofs.YtkhclhnejnpkeaaGreat
