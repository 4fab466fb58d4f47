/- Several small texts of one level, one behind the other. -/
import Derived.Test.YtkhclhnejnpkeaaGreatQNgShFlow
import Derived.Test.YtkhclhnejnpkeaaGreatQNgG6
import Derived.Test.YtkhclhnejnpkeaaGreatQNgG5
/- A Conn in memory: read, owned; counted, copied, held against each other, marked, read again (by gen_shconn.py). -/
namespace Go.Proofs.YtkhclhnejnpkeaaGreat
open Go.RowKit
set_option maxRecDepth 100000
set_option linter.unusedSimpArgs false
set_option linter.unusedVariables false
abbrev cnv (d : CnD) (ve vi vo vf : Value) : Value := .agg #[.int .i64 d.reg.lim, .int .i64 d.reg.top, ve, .int .i64 d.inr, vi, .int .i64 d.outr, vo, .int .i64 d.get, .int .i64 d.give, .int .i64 d.first, vf, .bool d.away, .bool d.dead]
/-- What its lists read as. -/
structure CnRd (w : World) (d : CnD) (ve vi vo vf : Value) : Prop where
  e : RdR entryS w ve d.reg.es
  i : RdR fieldS w vi d.inT
  o : RdR fieldS w vo d.outT
  f : RdR flowS w vf d.flows
theorem CnRd.new {w w' : World} {d : CnD} {ve vi vo vf : Value} (h : CnRd w d ve vi vo vf) (hb : Below w.heap.size w w') : CnRd w' d ve vi vo vf := ⟨h.e.new hb, h.i.new hb, h.o.new hb, h.f.new hb⟩
/-- Its lists are owned, in the blocks bs, no two in one. -/
structure CnOw (w : World) (bs : List Nat) (d : CnD) (ve vi vo vf : Value) : Prop where
  ex : ∃ be bi bo bf, OwR entryS w ve d.reg.es be ∧ OwR fieldS w vi d.inT bi ∧ OwR fieldS w vo d.outT bo ∧ OwR flowS w vf d.flows bf ∧ bs = be ++ bi ++ bo ++ bf
  nd : bs.Nodup
theorem CnOw.rd {w : World} {bs : List Nat} {d : CnD} {ve vi vo vf : Value} (h : CnOw w bs d ve vi vo vf) : CnRd w d ve vi vo vf := by
  obtain ⟨⟨be, bi, bo, bf, h1, h2, h3, h4, _⟩, _⟩ := h
  exact ⟨h1.rd, h2.rd, h3.rd, h4.rd⟩
theorem CnOw.lt {w : World} {bs : List Nat} {d : CnD} {ve vi vo vf : Value} (h : CnOw w bs d ve vi vo vf) : ∀ b ∈ bs, b < w.heap.size := by
  obtain ⟨⟨be, bi, bo, bf, h1, h2, h3, h4, rfl⟩, _⟩ := h
  intro b hb
  simp only [List.mem_append] at hb
  rcases hb with ((hb | hb) | hb) | hb
  · exact h1.lt b hb
  · exact h2.lt b hb
  · exact h3.lt b hb
  · exact h4.lt b hb
theorem CnOw.keep {w w' : World} {bs : List Nat} {d : CnD} {ve vi vo vf : Value} (h : CnOw w bs d ve vi vo vf) (hs : w.heap.size ≤ w'.heap.size) (hk : ∀ b ∈ bs, w'.heap[b]? = w.heap[b]?) : CnOw w' bs d ve vi vo vf := by
  obtain ⟨⟨be, bi, bo, bf, h1, h2, h3, h4, rfl⟩, hn⟩ := h
  exact ⟨⟨be, bi, bo, bf, h1.keep hs (fun b hb => hk b (by simp [hb])), h2.keep hs (fun b hb => hk b (by simp [hb])), h3.keep hs (fun b hb => hk b (by simp [hb])), h4.keep hs (fun b hb => hk b (by simp [hb])), rfl⟩, hn⟩
theorem CnOw.new {w w' : World} {bs : List Nat} {d : CnD} {ve vi vo vf : Value} (h : CnOw w bs d ve vi vo vf) (hb : Below w.heap.size w w') : CnOw w' bs d ve vi vo vf := h.keep hb.size fun b hb' => hb.block b (h.lt b hb')
theorem CnOw.turn {w w' : World} {bs bs' : List Nat} {d : CnD} {ve vi vo vf : Value} (h : CnOw w bs d ve vi vo vf) (ht : TurnB bs' w w') (ha : ∀ b ∈ bs, b ∉ bs') : CnOw w' bs d ve vi vo vf := h.keep ht.size fun b hb' => ht.block b (h.lt b hb') (ha b hb')
set_option maxHeartbeats 4000000 in
theorem eqConn1 (d : CnD) (ve vi vo vf ue ui uo uf : Value) (w : World) (hv : CnRd w d ve vi vo vf) (hu : CnRd w d ue ui uo uf) :
    Calls Tryz.prog 107 #[cnv d ve vi vo vf, cnv d ue ui uo uf] w fun x w' => x = .returned (.bool true) ∧ Below w.heap.size w w' := by
  dsimp only [cnv] at *
  have HV := hide hv
  have HU := hide hu
  clear hv hu
  obtain ⟨ae, pe, rfl, _⟩ := HV.out.e.form
  obtain ⟨ai, pi, rfl, _⟩ := HV.out.i.form
  obtain ⟨ao, po, rfl, _⟩ := HV.out.o.form
  obtain ⟨af, pf, rfl, _⟩ := HV.out.f.form
  obtain ⟨ne, qe, rfl, _⟩ := HU.out.e.form
  obtain ⟨ni, qi, rfl, _⟩ := HU.out.i.form
  obtain ⟨no, qo, rfl, _⟩ := HU.out.o.form
  obtain ⟨nf, qf, rfl, _⟩ := HU.out.f.form
  obtain ⟨W, hW⟩ : ∃ W, (w.alloc (.cells #[.int .i64 d.reg.lim, .int .i64 d.reg.top, .slice ae d.reg.es.length pe, .int .i64 d.inr, .slice ai d.inT.length pi, .int .i64 d.outr, .slice ao d.outT.length po, .int .i64 d.get, .int .i64 d.give, .int .i64 d.first, .slice af d.flows.length pf, .bool d.away, .bool d.dead] 63)).alloc (.cells #[.int .i64 d.reg.lim, .int .i64 d.reg.top, .slice ne d.reg.es.length qe, .int .i64 d.inr, .slice ni d.inT.length qi, .int .i64 d.outr, .slice no d.outT.length qo, .int .i64 d.get, .int .i64 d.give, .int .i64 d.first, .slice nf d.flows.length qf, .bool d.away, .bool d.dead] 63) = W := ⟨_, rfl⟩
  have RX : RowIs W w.heap.size 63 [.int .i64 d.reg.lim, .int .i64 d.reg.top, .slice ae d.reg.es.length pe, .int .i64 d.inr, .slice ai d.inT.length pi, .int .i64 d.outr, .slice ao d.outT.length po, .int .i64 d.get, .int .i64 d.give, .int .i64 d.first, .slice af d.flows.length pf, .bool d.away, .bool d.dead] := by rw [← hW]; exact (rowIs_new w 63 [.int .i64 d.reg.lim, .int .i64 d.reg.top, .slice ae d.reg.es.length pe, .int .i64 d.inr, .slice ai d.inT.length pi, .int .i64 d.outr, .slice ao d.outT.length po, .int .i64 d.get, .int .i64 d.give, .int .i64 d.first, .slice af d.flows.length pf, .bool d.away, .bool d.dead]).alloc _
  have RY : RowIs W (w.heap.size + 1) 63 [.int .i64 d.reg.lim, .int .i64 d.reg.top, .slice ne d.reg.es.length qe, .int .i64 d.inr, .slice ni d.inT.length qi, .int .i64 d.outr, .slice no d.outT.length qo, .int .i64 d.get, .int .i64 d.give, .int .i64 d.first, .slice nf d.flows.length qf, .bool d.away, .bool d.dead] := by have := rowIs_new (w.alloc (.cells #[.int .i64 d.reg.lim, .int .i64 d.reg.top, .slice ae d.reg.es.length pe, .int .i64 d.inr, .slice ai d.inT.length pi, .int .i64 d.outr, .slice ao d.outT.length po, .int .i64 d.get, .int .i64 d.give, .int .i64 d.first, .slice af d.flows.length pf, .bool d.away, .bool d.dead] 63)) 63 [.int .i64 d.reg.lim, .int .i64 d.reg.top, .slice ne d.reg.es.length qe, .int .i64 d.inr, .slice ni d.inT.length qi, .int .i64 d.outr, .slice no d.outT.length qo, .int .i64 d.get, .int .i64 d.give, .int .i64 d.first, .slice nf d.flows.length qf, .bool d.away, .bool d.dead]; rw [hW] at this; simpa using this
  have HB : Below w.heap.size w W := by rw [← hW]; exact (((Below.refl _ _).alloc (Nat.le_refl _) _).alloc (by simp) _)
  have b0 : (d.get != d.get) = false := by simp
  have b1 : (d.give != d.give) = false := by simp
  have b2 : (d.first != d.first) = false := by simp
  go_enter Tryz.func107, Tryz.ntmps107
  have x0 := RowIs.cell (j := 0) RX rfl
  have x1 := RowIs.cell (j := 1) RX rfl
  have x2 := RowIs.cell (j := 2) RX rfl
  have xf := fun j => RowIs.frozen RX j
  have xl := RX.lt
  have y0 := RowIs.cell (j := 0) RY rfl
  have y1 := RowIs.cell (j := 1) RY rfl
  have y2 := RowIs.cell (j := 2) RY rfl
  have yf := fun j => RowIs.frozen RY j
  have yl := RY.lt
  go_wp2_with fail
  clear x0 x1 x2 xf xl
  clear y0 y1 y2 yf yl
  refine (eqRegistry1 d.reg _ _ _ (HV.out.e.new HB) (HU.out.e.new HB)).mono ?_; rintro x w1 ⟨rfl, hb⟩
  replace RX := RX.new hb
  replace RY := RY.new hb
  replace HB := bchain HB hb
  clear hb
  clear hW
  have x3 := RowIs.cell (j := 3) RX rfl
  have x4 := RowIs.cell (j := 4) RX rfl
  have xf := fun j => RowIs.frozen RX j
  have xl := RX.lt
  have y3 := RowIs.cell (j := 3) RY rfl
  have y4 := RowIs.cell (j := 4) RY rfl
  have yf := fun j => RowIs.frozen RY j
  have yl := RY.lt
  go_wp2_with fail
  clear x3 x4 xf xl
  clear y3 y4 yf yl
  refine (eqTable1 d.inT d.inr _ _ _ (rd_fv (HV.out.i.new HB)) (rd_fv (HU.out.i.new HB))).mono ?_; rintro x w2 ⟨rfl, hb⟩
  replace RX := RX.new hb
  replace RY := RY.new hb
  replace HB := bchain HB hb
  clear hb
  have x5 := RowIs.cell (j := 5) RX rfl
  have x6 := RowIs.cell (j := 6) RX rfl
  have xf := fun j => RowIs.frozen RX j
  have xl := RX.lt
  have y5 := RowIs.cell (j := 5) RY rfl
  have y6 := RowIs.cell (j := 6) RY rfl
  have yf := fun j => RowIs.frozen RY j
  have yl := RY.lt
  go_wp2_with fail
  clear x5 x6 xf xl
  clear y5 y6 yf yl
  refine (eqTable1 d.outT d.outr _ _ _ (rd_fv (HV.out.o.new HB)) (rd_fv (HU.out.o.new HB))).mono ?_; rintro x w3 ⟨rfl, hb⟩
  replace RX := RX.new hb
  replace RY := RY.new hb
  replace HB := bchain HB hb
  clear hb
  have x7 := RowIs.cell (j := 7) RX rfl
  have x8 := RowIs.cell (j := 8) RX rfl
  have x9 := RowIs.cell (j := 9) RX rfl
  have x10 := RowIs.cell (j := 10) RX rfl
  have xf := fun j => RowIs.frozen RX j
  have xl := RX.lt
  have y7 := RowIs.cell (j := 7) RY rfl
  have y8 := RowIs.cell (j := 8) RY rfl
  have y9 := RowIs.cell (j := 9) RY rfl
  have y10 := RowIs.cell (j := 10) RY rfl
  have yf := fun j => RowIs.frozen RY j
  have yl := RY.lt
  go_wp2_with fail
  clear x7 x8 x9 x10 xf xl
  clear y7 y8 y9 y10 yf yl
  refine (eqFlowS d.flows _ _ _ (HV.out.f.new HB) (HU.out.f.new HB)).mono ?_; rintro x w4 ⟨rfl, hb⟩
  replace RX := RX.new hb
  replace RY := RY.new hb
  replace HB := bchain HB hb
  clear hb
  have x11 := RowIs.cell (j := 11) RX rfl
  have x12 := RowIs.cell (j := 12) RX rfl
  have xf := fun j => RowIs.frozen RX j
  have xl := RX.lt
  have y11 := RowIs.cell (j := 11) RY rfl
  have y12 := RowIs.cell (j := 12) RY rfl
  have yf := fun j => RowIs.frozen RY j
  have yl := RY.lt
  have c0 : (d.away != d.away) = false := by simp
  have c1 : (d.dead != d.dead) = false := by simp
  go_wp2_with fail
  go_ret
  exact ⟨rfl, HB⟩
end Go.Proofs.YtkhclhnejnpkeaaGreat
/- Flows in a row: marked, read again (by gen_flow.py). -/
namespace Go.Proofs.YtkhclhnejnpkeaaGreat
open Go.RowKit
set_option maxRecDepth 100000
set_option linter.unusedSimpArgs false
set_option linter.unusedVariables false
set_option maxHeartbeats 20000000 in
theorem markFlowS (L : List FlD) (k : Nat) (v : Value) (bs : List Nat) (w : World) (ho : OwR flowS w v L bs) (hn : bs.Nodup) (hk1 : k + cntFlowS L ≤ 1000000000) :
    Calls Tryz.prog 89 #[v, .int .i64 k] w fun x w' => x = .returned (.int .i64 ((k + cntFlowS L : Nat) : Int)) ∧ OwR flowS w' v (mkFlowS L k) bs ∧ TurnB bs w w' := by
  obtain ⟨ad, cap, rfl, h1, h2⟩ := ho.rd.form
  unfold cntFlowS mkFlowS at *
  have HO0 : Hid (OwR flowS w (.slice ad L.length cap) (mixLs mkFlow cntFlow L k 0) bs) := by show OwR _ _ _ _ _; rw [mix_zero]; exact ho
  clear ho
  have HN := hide hn
  clear hn
  go_enter Tryz.func89, Tryz.ntmps89
  go_wp2_with fail
  go_loopw [1, 5] (fun kk i wr => ∃ (j : Nat), i = .int .i64 j ∧ kk = .int .i64 ((k + cntLs cntFlow (L.take j) : Nat) : Int) ∧ j ≤ L.length ∧ Hid (OwR flowS wr (.slice ad L.length cap) (mixLs mkFlow cntFlow L k j) bs) ∧ Hid (TurnB bs w wr)) (fun _ i _ => L.length - (intOf i).toNat)
  case atStart => exact ⟨0, rfl, by simp [cntLs], Nat.zero_le _, HO0, TurnB.refl _ _⟩
  case round =>
    clear HO0
    obtain ⟨j, rfl, rfl, hj, HO, HT⟩ := hrel
    by_cases hlt : j < L.length
    · have hct := cnt_take cntFlow L j hlt
      have hcl := cnt_le cntFlow L (j + 1)
      have hst := mix_step mkFlow cntFlow L k j hlt
      have hat := mix_at mkFlow cntFlow L k j hlt (by rw [mix_len _ _ L k j hj]; exact hlt)
      have hml := mix_len mkFlow cntFlow L k j hj
      obtain ⟨d, hd⟩ : ∃ d, d = L[j] := ⟨_, rfl⟩
      rw [← hd] at hct hst hat
      obtain ⟨K, hK⟩ : ∃ K : Nat, K = k + cntLs cntFlow (L.take j) := ⟨_, rfl⟩
      rw [← hK] at hst ⊢
      obtain ⟨M, hM⟩ : ∃ M, M = mixLs mkFlow cntFlow L k j := ⟨_, rfl⟩
      rw [← hM] at hst hml
      have HOa : Hid (OwR flowS wr (.slice ad L.length cap) M bs) := by show OwR _ _ _ _ _; rw [hM]; exact HO.out
      have HAT : Hid (∀ h : j < M.length, M[j] = d) := fun h => by subst hM; exact hat
      have hKc : K + cntFlow d = k + cntLs cntFlow (L.take (j + 1)) := by omega
      have HKC := hide hKc
      have hKb : K + cntFlow d ≤ 1000000000 := by omega
      unfold cntFlow at hKb
      have HST := hide hst
      have hjM : j < M.length := by omega
      have HTa := hide HT.out
      clear hct hcl hst hat hM HO hd hK hKc HT
      obtain ⟨g0, c0, cs, bb, e1, hgl0, hgm, hgb, hsub, hbn, hown, hcell, hfr, _, hkeep, hsets⟩ := HOa.out.put HN.out j (by simpa using hjM)
      have eq0 : (M)[j]'(by simpa using hjM) = d := HAT.out hjM
      rw [eq0] at hown
      obtain ⟨vfds, b0, rfl, f0, f1, hvfds, hbb⟩ := hown
      simp only [Value.slice.injEq] at e1
      obtain ⟨rfl, -, -⟩ := e1
      obtain ⟨aq0, pq0, rfl, _⟩ := hvfds.rd.form
      have c0_0 : wr.cell? ⟨g0, j * 15, none⟩ = some (.int .i64 d.id) := hcell 0 _ rfl
      have c0_1 : wr.cell? ⟨g0, j * 15 + 1, none⟩ = some (.int .i64 d.get) := hcell 1 _ rfl
      have c0_2 : wr.cell? ⟨g0, j * 15 + 2, none⟩ = some (.int .i64 d.give) := hcell 2 _ rfl
      have c0_3 : wr.cell? ⟨g0, j * 15 + 3, none⟩ = some (.slice aq0 d.fds.length pq0) := hcell 3 _ rfl
      have fz0 := fun q => hfr q
      have HOn0 : Hid (OwR flowS (setsFrom wr g0 (j * flowS.size + ([] : List Value).length) [.int .i64 ((K : Nat) : Int), .int .i64 ((K + 1 : Nat) : Int), .int .i64 ((K + 1 + 1 : Nat) : Int)]) _ ((M).set j ⟨((K : Nat) : Int), ((K + 1 : Nat) : Int), ((K + 1 + 1 : Nat) : Int), d.fds, ⟨⟨d.tun.up.r, d.tun.up.b, d.tun.up.e, d.tun.up.k⟩, ⟨d.tun.dn.r, d.tun.dn.b, d.tun.dn.e, d.tun.dn.k⟩, d.tun.went, d.tun.came⟩, d.ended⟩) bs) := hsets [] [.int .i64 d.id, .int .i64 d.get, .int .i64 d.give] [.slice aq0 d.fds.length pq0, .int .i64 d.tun.up.r, .string d.tun.up.b, .bool d.tun.up.e, .bool d.tun.up.k, .int .i64 d.tun.dn.r, .string d.tun.dn.b, .bool d.tun.dn.e, .bool d.tun.dn.k, .int .i64 d.tun.went, .int .i64 d.tun.came, .bool d.ended] [.int .i64 ((K : Nat) : Int), .int .i64 ((K + 1 : Nat) : Int), .int .i64 ((K + 1 + 1 : Nat) : Int)] ⟨((K : Nat) : Int), ((K + 1 : Nat) : Int), ((K + 1 + 1 : Nat) : Int), d.fds, ⟨⟨d.tun.up.r, d.tun.up.b, d.tun.up.e, d.tun.up.k⟩, ⟨d.tun.dn.r, d.tun.dn.b, d.tun.dn.e, d.tun.dn.k⟩, d.tun.went, d.tun.came⟩, d.ended⟩ rfl rfl ⟨_, _, rfl, f0, f1, hvfds, hbb⟩
      have HTn0 : Hid (TurnB bs w (setsFrom wr g0 (j * flowS.size + ([] : List Value).length) [.int .i64 ((K : Nat) : Int), .int .i64 ((K + 1 : Nat) : Int), .int .i64 ((K + 1 + 1 : Nat) : Int)])) := TurnB.setsFrom g0 hgm _ _ _ HTa.out
      change Hid (OwR flowS (((wr.setCell ⟨g0, j * 15, none⟩ (.int .i64 ((K : Int)))).setCell ⟨g0, j * 15 + 1, none⟩ (.int .i64 ((K : Int) + 1))).setCell ⟨g0, j * 15 + 2, none⟩ (.int .i64 ((K : Int) + 1 + 1))) _ _ _) at HOn0
      change Hid (TurnB bs w (((wr.setCell ⟨g0, j * 15, none⟩ (.int .i64 ((K : Int)))).setCell ⟨g0, j * 15 + 1, none⟩ (.int .i64 ((K : Int) + 1))).setCell ⟨g0, j * 15 + 2, none⟩ (.int .i64 ((K : Int) + 1 + 1)))) at HTn0
      have HCQ : Hid (World.cell? (((wr.setCell ⟨g0, j * 15, none⟩ (.int .i64 ((K : Int)))).setCell ⟨g0, j * 15 + 1, none⟩ (.int .i64 ((K : Int) + 1))).setCell ⟨g0, j * 15 + 2, none⟩ (.int .i64 ((K : Int) + 1 + 1))) ⟨g0, j * 15 + 3, none⟩ = some (.slice aq0 d.fds.length pq0)) := by show _ = _; rw [World.cell?_setCell_other _ _ _ _ (by simp)]; rw [World.cell?_setCell_other _ _ _ _ (by simp)]; rw [World.cell?_setCell_other _ _ _ _ (by simp)]; exact c0_3
      clear hcell hkeep hsets hsub hbn hgb hbb eq0 hfr hvfds
      go_wp2_with fail
      clear c0_0 c0_1 c0_2 c0_3 fz0
      generalize (((wr.setCell ⟨g0, j * 15, none⟩ (.int .i64 ((K : Int)))).setCell ⟨g0, j * 15 + 1, none⟩ (.int .i64 ((K : Int) + 1))).setCell ⟨g0, j * 15 + 2, none⟩ (.int .i64 ((K : Int) + 1 + 1))) = V0 at *
      obtain ⟨g1, c1, cs, bb, e1, hgl1, hgm, hgb, hsub, hbn, hown, hcell, hfr, _, hkeep, hsets⟩ := HOn0.out.put HN.out j (by simpa using hjM)
      have eq1 : ((M).set j ⟨((K : Nat) : Int), ((K + 1 : Nat) : Int), ((K + 1 + 1 : Nat) : Int), d.fds, ⟨⟨d.tun.up.r, d.tun.up.b, d.tun.up.e, d.tun.up.k⟩, ⟨d.tun.dn.r, d.tun.dn.b, d.tun.dn.e, d.tun.dn.k⟩, d.tun.went, d.tun.came⟩, d.ended⟩)[j]'(by simpa using hjM) = ⟨((K : Nat) : Int), ((K + 1 : Nat) : Int), ((K + 1 + 1 : Nat) : Int), d.fds, ⟨⟨d.tun.up.r, d.tun.up.b, d.tun.up.e, d.tun.up.k⟩, ⟨d.tun.dn.r, d.tun.dn.b, d.tun.dn.e, d.tun.dn.k⟩, d.tun.went, d.tun.came⟩, d.ended⟩ := by simp
      rw [eq1] at hown
      obtain ⟨vfds, b0, rfl, f0, f1, hvfds, hbb⟩ := hown
      simp only [Value.slice.injEq, Option.some.injEq, Addr.mk.injEq] at e1
      obtain ⟨⟨rfl, -, -⟩, -, -⟩ := e1
      obtain rfl := Option.some.inj (HCQ.out.symm.trans (hcell 3 _ rfl))
      subst hbb
      have HQ := hide hvfds
      have HKE := hide hkeep
      have HSB := hide hsub
      have HBN := hide hbn
      clear hcell hkeep hsets hsub hbn hgb hvfds eq1 hfr
      have hcl := markFieldS d.fds (K + 1 + 1 + 1) _ _ _ HQ.out HBN.out (by omega)
      refine (show Calls _ _ #[.slice aq0 d.fds.length pq0, .int .i64 ((K : Int) + 1 + 1 + 1)] _ _ from hcl).mono ?_
      rintro x Y1 ⟨rfl, hoq, htq⟩
      have HOy1 : Hid (OwR flowS Y1 _ (((M).set j ⟨((K : Nat) : Int), ((K + 1 : Nat) : Int), ((K + 1 + 1 : Nat) : Int), d.fds, ⟨⟨d.tun.up.r, d.tun.up.b, d.tun.up.e, d.tun.up.k⟩, ⟨d.tun.dn.r, d.tun.dn.b, d.tun.dn.e, d.tun.dn.k⟩, d.tun.went, d.tun.came⟩, d.ended⟩).set j ⟨((K : Nat) : Int), ((K + 1 : Nat) : Int), ((K + 1 + 1 : Nat) : Int), mkFieldS d.fds (K + 1 + 1 + 1), ⟨⟨d.tun.up.r, d.tun.up.b, d.tun.up.e, d.tun.up.k⟩, ⟨d.tun.dn.r, d.tun.dn.b, d.tun.dn.e, d.tun.dn.k⟩, d.tun.went, d.tun.came⟩, d.ended⟩) bs) := HKE.out Y1 ⟨((K : Nat) : Int), ((K + 1 : Nat) : Int), ((K + 1 + 1 : Nat) : Int), mkFieldS d.fds (K + 1 + 1 + 1), ⟨⟨d.tun.up.r, d.tun.up.b, d.tun.up.e, d.tun.up.k⟩, ⟨d.tun.dn.r, d.tun.dn.b, d.tun.dn.e, d.tun.dn.k⟩, d.tun.went, d.tun.came⟩, d.ended⟩ ⟨_, _, rfl, f0, f1, hoq, rfl⟩ htq.size (fun x hx hnx => htq.block x (HOn0.out.lt x hx) hnx)
      have HTy1 : Hid (TurnB bs w Y1) := HTn0.out.trans (htq.wide (fun x hx => HSB.out x hx))
      clear hoq htq HKE HSB HQ HBN hcl HCQ f0 f1
      obtain ⟨g2, c2, cs, bb, e1, hgl2, hgm, hgb, hsub, hbn, hown, hcell, hfr, _, hkeep, hsets⟩ := HOy1.out.put HN.out j (by simpa using hjM)
      have eq2 : (((M).set j ⟨((K : Nat) : Int), ((K + 1 : Nat) : Int), ((K + 1 + 1 : Nat) : Int), d.fds, ⟨⟨d.tun.up.r, d.tun.up.b, d.tun.up.e, d.tun.up.k⟩, ⟨d.tun.dn.r, d.tun.dn.b, d.tun.dn.e, d.tun.dn.k⟩, d.tun.went, d.tun.came⟩, d.ended⟩).set j ⟨((K : Nat) : Int), ((K + 1 : Nat) : Int), ((K + 1 + 1 : Nat) : Int), mkFieldS d.fds (K + 1 + 1 + 1), ⟨⟨d.tun.up.r, d.tun.up.b, d.tun.up.e, d.tun.up.k⟩, ⟨d.tun.dn.r, d.tun.dn.b, d.tun.dn.e, d.tun.dn.k⟩, d.tun.went, d.tun.came⟩, d.ended⟩)[j]'(by simpa using hjM) = ⟨((K : Nat) : Int), ((K + 1 : Nat) : Int), ((K + 1 + 1 : Nat) : Int), mkFieldS d.fds (K + 1 + 1 + 1), ⟨⟨d.tun.up.r, d.tun.up.b, d.tun.up.e, d.tun.up.k⟩, ⟨d.tun.dn.r, d.tun.dn.b, d.tun.dn.e, d.tun.dn.k⟩, d.tun.went, d.tun.came⟩, d.ended⟩ := by simp
      rw [eq2] at hown
      obtain ⟨vfds, b0, rfl, f0, f1, hvfds, hbb⟩ := hown
      simp only [Value.slice.injEq, Option.some.injEq, Addr.mk.injEq] at e1
      obtain ⟨⟨rfl, -, -⟩, -, -⟩ := e1
      obtain ⟨aq2, pq2, rfl, _⟩ := hvfds.rd.form
      have c2_4 : Y1.cell? ⟨g0, j * 15 + 4, none⟩ = some (.int .i64 d.tun.up.r) := hcell 4 _ rfl
      have fz2 := fun q => hfr q
      have HOn2 : Hid (OwR flowS (setsFrom Y1 g0 (j * flowS.size + ([.int .i64 ((K : Nat) : Int), .int .i64 ((K + 1 : Nat) : Int), .int .i64 ((K + 1 + 1 : Nat) : Int), .slice aq2 (mkFieldS d.fds (K + 1 + 1 + 1)).length pq2] : List Value).length) [.int .i64 ((K + 1 + 1 + 1 + cntFieldS d.fds : Nat) : Int)]) _ ((((M).set j ⟨((K : Nat) : Int), ((K + 1 : Nat) : Int), ((K + 1 + 1 : Nat) : Int), d.fds, ⟨⟨d.tun.up.r, d.tun.up.b, d.tun.up.e, d.tun.up.k⟩, ⟨d.tun.dn.r, d.tun.dn.b, d.tun.dn.e, d.tun.dn.k⟩, d.tun.went, d.tun.came⟩, d.ended⟩).set j ⟨((K : Nat) : Int), ((K + 1 : Nat) : Int), ((K + 1 + 1 : Nat) : Int), mkFieldS d.fds (K + 1 + 1 + 1), ⟨⟨d.tun.up.r, d.tun.up.b, d.tun.up.e, d.tun.up.k⟩, ⟨d.tun.dn.r, d.tun.dn.b, d.tun.dn.e, d.tun.dn.k⟩, d.tun.went, d.tun.came⟩, d.ended⟩).set j ⟨((K : Nat) : Int), ((K + 1 : Nat) : Int), ((K + 1 + 1 : Nat) : Int), mkFieldS d.fds (K + 1 + 1 + 1), ⟨⟨((K + 1 + 1 + 1 + cntFieldS d.fds : Nat) : Int), d.tun.up.b, d.tun.up.e, d.tun.up.k⟩, ⟨d.tun.dn.r, d.tun.dn.b, d.tun.dn.e, d.tun.dn.k⟩, d.tun.went, d.tun.came⟩, d.ended⟩) bs) := hsets [.int .i64 ((K : Nat) : Int), .int .i64 ((K + 1 : Nat) : Int), .int .i64 ((K + 1 + 1 : Nat) : Int), .slice aq2 (mkFieldS d.fds (K + 1 + 1 + 1)).length pq2] [.int .i64 d.tun.up.r] [.string d.tun.up.b, .bool d.tun.up.e, .bool d.tun.up.k, .int .i64 d.tun.dn.r, .string d.tun.dn.b, .bool d.tun.dn.e, .bool d.tun.dn.k, .int .i64 d.tun.went, .int .i64 d.tun.came, .bool d.ended] [.int .i64 ((K + 1 + 1 + 1 + cntFieldS d.fds : Nat) : Int)] ⟨((K : Nat) : Int), ((K + 1 : Nat) : Int), ((K + 1 + 1 : Nat) : Int), mkFieldS d.fds (K + 1 + 1 + 1), ⟨⟨((K + 1 + 1 + 1 + cntFieldS d.fds : Nat) : Int), d.tun.up.b, d.tun.up.e, d.tun.up.k⟩, ⟨d.tun.dn.r, d.tun.dn.b, d.tun.dn.e, d.tun.dn.k⟩, d.tun.went, d.tun.came⟩, d.ended⟩ rfl rfl ⟨_, _, rfl, f0, f1, hvfds, hbb⟩
      have HTn2 : Hid (TurnB bs w (setsFrom Y1 g0 (j * flowS.size + ([.int .i64 ((K : Nat) : Int), .int .i64 ((K + 1 : Nat) : Int), .int .i64 ((K + 1 + 1 : Nat) : Int), .slice aq2 (mkFieldS d.fds (K + 1 + 1 + 1)).length pq2] : List Value).length) [.int .i64 ((K + 1 + 1 + 1 + cntFieldS d.fds : Nat) : Int)])) := TurnB.setsFrom g0 hgm _ _ _ HTy1.out
      change Hid (OwR flowS (Y1.setCell ⟨g0, j * 15 + 4, none⟩ (.int .i64 ((K : Int) + 1 + 1 + 1 + cntFieldS d.fds))) _ _ _) at HOn2
      change Hid (TurnB bs w (Y1.setCell ⟨g0, j * 15 + 4, none⟩ (.int .i64 ((K : Int) + 1 + 1 + 1 + cntFieldS d.fds)))) at HTn2
      clear hcell hkeep hsets hsub hbn hgb hbb eq2 hfr hvfds
      go_wp2_with fail
      clear c2_4 fz2
      generalize (Y1.setCell ⟨g0, j * 15 + 4, none⟩ (.int .i64 ((K : Int) + 1 + 1 + 1 + cntFieldS d.fds))) = V2 at *
      refine (show Calls _ _ #[.int .i64 ((K : Int) + 1 + 1 + 1 + cntFieldS d.fds + 1)] _ _ from markTx (K + 1 + 1 + 1 + cntFieldS d.fds + 1) _ (by omega)).mono ?_
      rintro x X3 ⟨rfl, hbx⟩
      have HOx3 := hide (HOn2.out.keep hbx.size (fun b hb => hbx.block b (HOn2.out.lt b hb)))
      have HTx3 := hide (HTn2.out.trans (TurnB.new hbx))
      clear hbx
      obtain ⟨g4, c4, cs, bb, e1, hgl4, hgm, hgb, hsub, hbn, hown, hcell, hfr, _, hkeep, hsets⟩ := HOx3.out.put HN.out j (by simpa using hjM)
      have eq4 : ((((M).set j ⟨((K : Nat) : Int), ((K + 1 : Nat) : Int), ((K + 1 + 1 : Nat) : Int), d.fds, ⟨⟨d.tun.up.r, d.tun.up.b, d.tun.up.e, d.tun.up.k⟩, ⟨d.tun.dn.r, d.tun.dn.b, d.tun.dn.e, d.tun.dn.k⟩, d.tun.went, d.tun.came⟩, d.ended⟩).set j ⟨((K : Nat) : Int), ((K + 1 : Nat) : Int), ((K + 1 + 1 : Nat) : Int), mkFieldS d.fds (K + 1 + 1 + 1), ⟨⟨d.tun.up.r, d.tun.up.b, d.tun.up.e, d.tun.up.k⟩, ⟨d.tun.dn.r, d.tun.dn.b, d.tun.dn.e, d.tun.dn.k⟩, d.tun.went, d.tun.came⟩, d.ended⟩).set j ⟨((K : Nat) : Int), ((K + 1 : Nat) : Int), ((K + 1 + 1 : Nat) : Int), mkFieldS d.fds (K + 1 + 1 + 1), ⟨⟨((K + 1 + 1 + 1 + cntFieldS d.fds : Nat) : Int), d.tun.up.b, d.tun.up.e, d.tun.up.k⟩, ⟨d.tun.dn.r, d.tun.dn.b, d.tun.dn.e, d.tun.dn.k⟩, d.tun.went, d.tun.came⟩, d.ended⟩)[j]'(by simpa using hjM) = ⟨((K : Nat) : Int), ((K + 1 : Nat) : Int), ((K + 1 + 1 : Nat) : Int), mkFieldS d.fds (K + 1 + 1 + 1), ⟨⟨((K + 1 + 1 + 1 + cntFieldS d.fds : Nat) : Int), d.tun.up.b, d.tun.up.e, d.tun.up.k⟩, ⟨d.tun.dn.r, d.tun.dn.b, d.tun.dn.e, d.tun.dn.k⟩, d.tun.went, d.tun.came⟩, d.ended⟩ := by simp
      rw [eq4] at hown
      obtain ⟨vfds, b0, rfl, f0, f1, hvfds, hbb⟩ := hown
      simp only [Value.slice.injEq, Option.some.injEq, Addr.mk.injEq] at e1
      obtain ⟨⟨rfl, -, -⟩, -, -⟩ := e1
      obtain ⟨aq4, pq4, rfl, _⟩ := hvfds.rd.form
      have c4_5 : X3.cell? ⟨g0, j * 15 + 4 + 1, none⟩ = some (.string d.tun.up.b) := hcell 5 _ rfl
      have c4_6 : X3.cell? ⟨g0, j * 15 + 4 + 2, none⟩ = some (.bool d.tun.up.e) := hcell 6 _ rfl
      have c4_7 : X3.cell? ⟨g0, j * 15 + 4 + 3, none⟩ = some (.bool d.tun.up.k) := hcell 7 _ rfl
      have c4_8 : X3.cell? ⟨g0, j * 15 + 4 + 4, none⟩ = some (.int .i64 d.tun.dn.r) := hcell 8 _ rfl
      have fz4 := fun q => hfr q
      have HOn4 : Hid (OwR flowS (setsFrom X3 g0 (j * flowS.size + ([.int .i64 ((K : Nat) : Int), .int .i64 ((K + 1 : Nat) : Int), .int .i64 ((K + 1 + 1 : Nat) : Int), .slice aq4 (mkFieldS d.fds (K + 1 + 1 + 1)).length pq4, .int .i64 ((K + 1 + 1 + 1 + cntFieldS d.fds : Nat) : Int)] : List Value).length) [.string (mtx (K + 1 + 1 + 1 + cntFieldS d.fds + 1)), .bool (decide ((K + 1 + 1 + 1 + cntFieldS d.fds + 1 + 1) % 3 = 0)), .bool (decide ((K + 1 + 1 + 1 + cntFieldS d.fds + 1 + 1 + 1) % 3 = 0)), .int .i64 ((K + 1 + 1 + 1 + cntFieldS d.fds + 1 + 1 + 1 + 1 : Nat) : Int)]) _ (((((M).set j ⟨((K : Nat) : Int), ((K + 1 : Nat) : Int), ((K + 1 + 1 : Nat) : Int), d.fds, ⟨⟨d.tun.up.r, d.tun.up.b, d.tun.up.e, d.tun.up.k⟩, ⟨d.tun.dn.r, d.tun.dn.b, d.tun.dn.e, d.tun.dn.k⟩, d.tun.went, d.tun.came⟩, d.ended⟩).set j ⟨((K : Nat) : Int), ((K + 1 : Nat) : Int), ((K + 1 + 1 : Nat) : Int), mkFieldS d.fds (K + 1 + 1 + 1), ⟨⟨d.tun.up.r, d.tun.up.b, d.tun.up.e, d.tun.up.k⟩, ⟨d.tun.dn.r, d.tun.dn.b, d.tun.dn.e, d.tun.dn.k⟩, d.tun.went, d.tun.came⟩, d.ended⟩).set j ⟨((K : Nat) : Int), ((K + 1 : Nat) : Int), ((K + 1 + 1 : Nat) : Int), mkFieldS d.fds (K + 1 + 1 + 1), ⟨⟨((K + 1 + 1 + 1 + cntFieldS d.fds : Nat) : Int), d.tun.up.b, d.tun.up.e, d.tun.up.k⟩, ⟨d.tun.dn.r, d.tun.dn.b, d.tun.dn.e, d.tun.dn.k⟩, d.tun.went, d.tun.came⟩, d.ended⟩).set j ⟨((K : Nat) : Int), ((K + 1 : Nat) : Int), ((K + 1 + 1 : Nat) : Int), mkFieldS d.fds (K + 1 + 1 + 1), ⟨⟨((K + 1 + 1 + 1 + cntFieldS d.fds : Nat) : Int), (mtx (K + 1 + 1 + 1 + cntFieldS d.fds + 1)), (decide ((K + 1 + 1 + 1 + cntFieldS d.fds + 1 + 1) % 3 = 0)), (decide ((K + 1 + 1 + 1 + cntFieldS d.fds + 1 + 1 + 1) % 3 = 0))⟩, ⟨((K + 1 + 1 + 1 + cntFieldS d.fds + 1 + 1 + 1 + 1 : Nat) : Int), d.tun.dn.b, d.tun.dn.e, d.tun.dn.k⟩, d.tun.went, d.tun.came⟩, d.ended⟩) bs) := hsets [.int .i64 ((K : Nat) : Int), .int .i64 ((K + 1 : Nat) : Int), .int .i64 ((K + 1 + 1 : Nat) : Int), .slice aq4 (mkFieldS d.fds (K + 1 + 1 + 1)).length pq4, .int .i64 ((K + 1 + 1 + 1 + cntFieldS d.fds : Nat) : Int)] [.string d.tun.up.b, .bool d.tun.up.e, .bool d.tun.up.k, .int .i64 d.tun.dn.r] [.string d.tun.dn.b, .bool d.tun.dn.e, .bool d.tun.dn.k, .int .i64 d.tun.went, .int .i64 d.tun.came, .bool d.ended] [.string (mtx (K + 1 + 1 + 1 + cntFieldS d.fds + 1)), .bool (decide ((K + 1 + 1 + 1 + cntFieldS d.fds + 1 + 1) % 3 = 0)), .bool (decide ((K + 1 + 1 + 1 + cntFieldS d.fds + 1 + 1 + 1) % 3 = 0)), .int .i64 ((K + 1 + 1 + 1 + cntFieldS d.fds + 1 + 1 + 1 + 1 : Nat) : Int)] ⟨((K : Nat) : Int), ((K + 1 : Nat) : Int), ((K + 1 + 1 : Nat) : Int), mkFieldS d.fds (K + 1 + 1 + 1), ⟨⟨((K + 1 + 1 + 1 + cntFieldS d.fds : Nat) : Int), (mtx (K + 1 + 1 + 1 + cntFieldS d.fds + 1)), (decide ((K + 1 + 1 + 1 + cntFieldS d.fds + 1 + 1) % 3 = 0)), (decide ((K + 1 + 1 + 1 + cntFieldS d.fds + 1 + 1 + 1) % 3 = 0))⟩, ⟨((K + 1 + 1 + 1 + cntFieldS d.fds + 1 + 1 + 1 + 1 : Nat) : Int), d.tun.dn.b, d.tun.dn.e, d.tun.dn.k⟩, d.tun.went, d.tun.came⟩, d.ended⟩ rfl rfl ⟨_, _, rfl, (by have := mtx_size (K + 1 + 1 + 1 + cntFieldS d.fds + 1); simp only; omega), f1, hvfds, hbb⟩
      have HTn4 : Hid (TurnB bs w (setsFrom X3 g0 (j * flowS.size + ([.int .i64 ((K : Nat) : Int), .int .i64 ((K + 1 : Nat) : Int), .int .i64 ((K + 1 + 1 : Nat) : Int), .slice aq4 (mkFieldS d.fds (K + 1 + 1 + 1)).length pq4, .int .i64 ((K + 1 + 1 + 1 + cntFieldS d.fds : Nat) : Int)] : List Value).length) [.string (mtx (K + 1 + 1 + 1 + cntFieldS d.fds + 1)), .bool (decide ((K + 1 + 1 + 1 + cntFieldS d.fds + 1 + 1) % 3 = 0)), .bool (decide ((K + 1 + 1 + 1 + cntFieldS d.fds + 1 + 1 + 1) % 3 = 0)), .int .i64 ((K + 1 + 1 + 1 + cntFieldS d.fds + 1 + 1 + 1 + 1 : Nat) : Int)])) := TurnB.setsFrom g0 hgm _ _ _ HTx3.out
      change Hid (OwR flowS ((((X3.setCell ⟨g0, j * 15 + 4 + 1, none⟩ (.string (mtx (K + 1 + 1 + 1 + cntFieldS d.fds + 1)))).setCell ⟨g0, j * 15 + 4 + 2, none⟩ (.bool (decide ((K + 1 + 1 + 1 + cntFieldS d.fds + 1 + 1) % 3 = 0)))).setCell ⟨g0, j * 15 + 4 + 3, none⟩ (.bool (decide ((K + 1 + 1 + 1 + cntFieldS d.fds + 1 + 1 + 1) % 3 = 0)))).setCell ⟨g0, j * 15 + 4 + 4, none⟩ (.int .i64 ((K : Int) + 1 + 1 + 1 + cntFieldS d.fds + 1 + 1 + 1 + 1))) _ _ _) at HOn4
      change Hid (TurnB bs w ((((X3.setCell ⟨g0, j * 15 + 4 + 1, none⟩ (.string (mtx (K + 1 + 1 + 1 + cntFieldS d.fds + 1)))).setCell ⟨g0, j * 15 + 4 + 2, none⟩ (.bool (decide ((K + 1 + 1 + 1 + cntFieldS d.fds + 1 + 1) % 3 = 0)))).setCell ⟨g0, j * 15 + 4 + 3, none⟩ (.bool (decide ((K + 1 + 1 + 1 + cntFieldS d.fds + 1 + 1 + 1) % 3 = 0)))).setCell ⟨g0, j * 15 + 4 + 4, none⟩ (.int .i64 ((K : Int) + 1 + 1 + 1 + cntFieldS d.fds + 1 + 1 + 1 + 1)))) at HTn4
      clear hcell hkeep hsets hsub hbn hgb hbb eq4 hfr hvfds
      have hbl18848 : (((K : Int) + 1 + 1 + 1 + cntFieldS d.fds + 1 + 1) % 3 == 0) = decide ((K + 1 + 1 + 1 + cntFieldS d.fds + 1 + 1) % 3 = 0) := boolmark _ _ (by omega)
      have hbl19019 : (((K : Int) + 1 + 1 + 1 + cntFieldS d.fds + 1 + 1 + 1) % 3 == 0) = decide ((K + 1 + 1 + 1 + cntFieldS d.fds + 1 + 1 + 1) % 3 = 0) := boolmark _ _ (by omega)
      go_wp2_with fail
      try simp only [hbl18848, hbl19019]
      clear hbl18848 hbl19019
      clear c4_5 c4_6 c4_7 c4_8 fz4
      generalize ((((X3.setCell ⟨g0, j * 15 + 4 + 1, none⟩ (.string (mtx (K + 1 + 1 + 1 + cntFieldS d.fds + 1)))).setCell ⟨g0, j * 15 + 4 + 2, none⟩ (.bool (decide ((K + 1 + 1 + 1 + cntFieldS d.fds + 1 + 1) % 3 = 0)))).setCell ⟨g0, j * 15 + 4 + 3, none⟩ (.bool (decide ((K + 1 + 1 + 1 + cntFieldS d.fds + 1 + 1 + 1) % 3 = 0)))).setCell ⟨g0, j * 15 + 4 + 4, none⟩ (.int .i64 ((K : Int) + 1 + 1 + 1 + cntFieldS d.fds + 1 + 1 + 1 + 1))) = V4 at *
      refine (show Calls _ _ #[.int .i64 ((K : Int) + 1 + 1 + 1 + cntFieldS d.fds + 1 + 1 + 1 + 1 + 1)] _ _ from markTx (K + 1 + 1 + 1 + cntFieldS d.fds + 1 + 1 + 1 + 1 + 1) _ (by omega)).mono ?_
      rintro x X5 ⟨rfl, hbx⟩
      have HOx5 := hide (HOn4.out.keep hbx.size (fun b hb => hbx.block b (HOn4.out.lt b hb)))
      have HTx5 := hide (HTn4.out.trans (TurnB.new hbx))
      clear hbx
      obtain ⟨g6, c6, cs, bb, e1, hgl6, hgm, hgb, hsub, hbn, hown, hcell, hfr, _, hkeep, hsets⟩ := HOx5.out.put HN.out j (by simpa using hjM)
      have eq6 : (((((M).set j ⟨((K : Nat) : Int), ((K + 1 : Nat) : Int), ((K + 1 + 1 : Nat) : Int), d.fds, ⟨⟨d.tun.up.r, d.tun.up.b, d.tun.up.e, d.tun.up.k⟩, ⟨d.tun.dn.r, d.tun.dn.b, d.tun.dn.e, d.tun.dn.k⟩, d.tun.went, d.tun.came⟩, d.ended⟩).set j ⟨((K : Nat) : Int), ((K + 1 : Nat) : Int), ((K + 1 + 1 : Nat) : Int), mkFieldS d.fds (K + 1 + 1 + 1), ⟨⟨d.tun.up.r, d.tun.up.b, d.tun.up.e, d.tun.up.k⟩, ⟨d.tun.dn.r, d.tun.dn.b, d.tun.dn.e, d.tun.dn.k⟩, d.tun.went, d.tun.came⟩, d.ended⟩).set j ⟨((K : Nat) : Int), ((K + 1 : Nat) : Int), ((K + 1 + 1 : Nat) : Int), mkFieldS d.fds (K + 1 + 1 + 1), ⟨⟨((K + 1 + 1 + 1 + cntFieldS d.fds : Nat) : Int), d.tun.up.b, d.tun.up.e, d.tun.up.k⟩, ⟨d.tun.dn.r, d.tun.dn.b, d.tun.dn.e, d.tun.dn.k⟩, d.tun.went, d.tun.came⟩, d.ended⟩).set j ⟨((K : Nat) : Int), ((K + 1 : Nat) : Int), ((K + 1 + 1 : Nat) : Int), mkFieldS d.fds (K + 1 + 1 + 1), ⟨⟨((K + 1 + 1 + 1 + cntFieldS d.fds : Nat) : Int), (mtx (K + 1 + 1 + 1 + cntFieldS d.fds + 1)), (decide ((K + 1 + 1 + 1 + cntFieldS d.fds + 1 + 1) % 3 = 0)), (decide ((K + 1 + 1 + 1 + cntFieldS d.fds + 1 + 1 + 1) % 3 = 0))⟩, ⟨((K + 1 + 1 + 1 + cntFieldS d.fds + 1 + 1 + 1 + 1 : Nat) : Int), d.tun.dn.b, d.tun.dn.e, d.tun.dn.k⟩, d.tun.went, d.tun.came⟩, d.ended⟩)[j]'(by simpa using hjM) = ⟨((K : Nat) : Int), ((K + 1 : Nat) : Int), ((K + 1 + 1 : Nat) : Int), mkFieldS d.fds (K + 1 + 1 + 1), ⟨⟨((K + 1 + 1 + 1 + cntFieldS d.fds : Nat) : Int), (mtx (K + 1 + 1 + 1 + cntFieldS d.fds + 1)), (decide ((K + 1 + 1 + 1 + cntFieldS d.fds + 1 + 1) % 3 = 0)), (decide ((K + 1 + 1 + 1 + cntFieldS d.fds + 1 + 1 + 1) % 3 = 0))⟩, ⟨((K + 1 + 1 + 1 + cntFieldS d.fds + 1 + 1 + 1 + 1 : Nat) : Int), d.tun.dn.b, d.tun.dn.e, d.tun.dn.k⟩, d.tun.went, d.tun.came⟩, d.ended⟩ := by simp
      rw [eq6] at hown
      obtain ⟨vfds, b0, rfl, f0, f1, hvfds, hbb⟩ := hown
      simp only [Value.slice.injEq, Option.some.injEq, Addr.mk.injEq] at e1
      obtain ⟨⟨rfl, -, -⟩, -, -⟩ := e1
      obtain ⟨aq6, pq6, rfl, _⟩ := hvfds.rd.form
      have c6_9 : X5.cell? ⟨g0, j * 15 + 4 + 4 + 1, none⟩ = some (.string d.tun.dn.b) := hcell 9 _ rfl
      have c6_10 : X5.cell? ⟨g0, j * 15 + 4 + 4 + 2, none⟩ = some (.bool d.tun.dn.e) := hcell 10 _ rfl
      have c6_11 : X5.cell? ⟨g0, j * 15 + 4 + 4 + 3, none⟩ = some (.bool d.tun.dn.k) := hcell 11 _ rfl
      have c6_12 : X5.cell? ⟨g0, j * 15 + 4 + 8, none⟩ = some (.int .i64 d.tun.went) := hcell 12 _ rfl
      have c6_13 : X5.cell? ⟨g0, j * 15 + 4 + 9, none⟩ = some (.int .i64 d.tun.came) := hcell 13 _ rfl
      have c6_14 : X5.cell? ⟨g0, j * 15 + 14, none⟩ = some (.bool d.ended) := hcell 14 _ rfl
      have fz6 := fun q => hfr q
      have HOn6 : Hid (OwR flowS (setsFrom X5 g0 (j * flowS.size + ([.int .i64 ((K : Nat) : Int), .int .i64 ((K + 1 : Nat) : Int), .int .i64 ((K + 1 + 1 : Nat) : Int), .slice aq6 (mkFieldS d.fds (K + 1 + 1 + 1)).length pq6, .int .i64 ((K + 1 + 1 + 1 + cntFieldS d.fds : Nat) : Int), .string (mtx (K + 1 + 1 + 1 + cntFieldS d.fds + 1)), .bool (decide ((K + 1 + 1 + 1 + cntFieldS d.fds + 1 + 1) % 3 = 0)), .bool (decide ((K + 1 + 1 + 1 + cntFieldS d.fds + 1 + 1 + 1) % 3 = 0)), .int .i64 ((K + 1 + 1 + 1 + cntFieldS d.fds + 1 + 1 + 1 + 1 : Nat) : Int)] : List Value).length) [.string (mtx (K + 1 + 1 + 1 + cntFieldS d.fds + 1 + 1 + 1 + 1 + 1)), .bool (decide ((K + 1 + 1 + 1 + cntFieldS d.fds + 1 + 1 + 1 + 1 + 1 + 1) % 3 = 0)), .bool (decide ((K + 1 + 1 + 1 + cntFieldS d.fds + 1 + 1 + 1 + 1 + 1 + 1 + 1) % 3 = 0)), .int .i64 ((K + 1 + 1 + 1 + cntFieldS d.fds + 1 + 1 + 1 + 1 + 1 + 1 + 1 + 1 : Nat) : Int), .int .i64 ((K + 1 + 1 + 1 + cntFieldS d.fds + 1 + 1 + 1 + 1 + 1 + 1 + 1 + 1 + 1 : Nat) : Int), .bool (decide ((K + 1 + 1 + 1 + cntFieldS d.fds + 1 + 1 + 1 + 1 + 1 + 1 + 1 + 1 + 1 + 1) % 3 = 0))]) _ ((((((M).set j ⟨((K : Nat) : Int), ((K + 1 : Nat) : Int), ((K + 1 + 1 : Nat) : Int), d.fds, ⟨⟨d.tun.up.r, d.tun.up.b, d.tun.up.e, d.tun.up.k⟩, ⟨d.tun.dn.r, d.tun.dn.b, d.tun.dn.e, d.tun.dn.k⟩, d.tun.went, d.tun.came⟩, d.ended⟩).set j ⟨((K : Nat) : Int), ((K + 1 : Nat) : Int), ((K + 1 + 1 : Nat) : Int), mkFieldS d.fds (K + 1 + 1 + 1), ⟨⟨d.tun.up.r, d.tun.up.b, d.tun.up.e, d.tun.up.k⟩, ⟨d.tun.dn.r, d.tun.dn.b, d.tun.dn.e, d.tun.dn.k⟩, d.tun.went, d.tun.came⟩, d.ended⟩).set j ⟨((K : Nat) : Int), ((K + 1 : Nat) : Int), ((K + 1 + 1 : Nat) : Int), mkFieldS d.fds (K + 1 + 1 + 1), ⟨⟨((K + 1 + 1 + 1 + cntFieldS d.fds : Nat) : Int), d.tun.up.b, d.tun.up.e, d.tun.up.k⟩, ⟨d.tun.dn.r, d.tun.dn.b, d.tun.dn.e, d.tun.dn.k⟩, d.tun.went, d.tun.came⟩, d.ended⟩).set j ⟨((K : Nat) : Int), ((K + 1 : Nat) : Int), ((K + 1 + 1 : Nat) : Int), mkFieldS d.fds (K + 1 + 1 + 1), ⟨⟨((K + 1 + 1 + 1 + cntFieldS d.fds : Nat) : Int), (mtx (K + 1 + 1 + 1 + cntFieldS d.fds + 1)), (decide ((K + 1 + 1 + 1 + cntFieldS d.fds + 1 + 1) % 3 = 0)), (decide ((K + 1 + 1 + 1 + cntFieldS d.fds + 1 + 1 + 1) % 3 = 0))⟩, ⟨((K + 1 + 1 + 1 + cntFieldS d.fds + 1 + 1 + 1 + 1 : Nat) : Int), d.tun.dn.b, d.tun.dn.e, d.tun.dn.k⟩, d.tun.went, d.tun.came⟩, d.ended⟩).set j ⟨((K : Nat) : Int), ((K + 1 : Nat) : Int), ((K + 1 + 1 : Nat) : Int), mkFieldS d.fds (K + 1 + 1 + 1), ⟨⟨((K + 1 + 1 + 1 + cntFieldS d.fds : Nat) : Int), (mtx (K + 1 + 1 + 1 + cntFieldS d.fds + 1)), (decide ((K + 1 + 1 + 1 + cntFieldS d.fds + 1 + 1) % 3 = 0)), (decide ((K + 1 + 1 + 1 + cntFieldS d.fds + 1 + 1 + 1) % 3 = 0))⟩, ⟨((K + 1 + 1 + 1 + cntFieldS d.fds + 1 + 1 + 1 + 1 : Nat) : Int), (mtx (K + 1 + 1 + 1 + cntFieldS d.fds + 1 + 1 + 1 + 1 + 1)), (decide ((K + 1 + 1 + 1 + cntFieldS d.fds + 1 + 1 + 1 + 1 + 1 + 1) % 3 = 0)), (decide ((K + 1 + 1 + 1 + cntFieldS d.fds + 1 + 1 + 1 + 1 + 1 + 1 + 1) % 3 = 0))⟩, ((K + 1 + 1 + 1 + cntFieldS d.fds + 1 + 1 + 1 + 1 + 1 + 1 + 1 + 1 : Nat) : Int), ((K + 1 + 1 + 1 + cntFieldS d.fds + 1 + 1 + 1 + 1 + 1 + 1 + 1 + 1 + 1 : Nat) : Int)⟩, (decide ((K + 1 + 1 + 1 + cntFieldS d.fds + 1 + 1 + 1 + 1 + 1 + 1 + 1 + 1 + 1 + 1) % 3 = 0))⟩) bs) := hsets [.int .i64 ((K : Nat) : Int), .int .i64 ((K + 1 : Nat) : Int), .int .i64 ((K + 1 + 1 : Nat) : Int), .slice aq6 (mkFieldS d.fds (K + 1 + 1 + 1)).length pq6, .int .i64 ((K + 1 + 1 + 1 + cntFieldS d.fds : Nat) : Int), .string (mtx (K + 1 + 1 + 1 + cntFieldS d.fds + 1)), .bool (decide ((K + 1 + 1 + 1 + cntFieldS d.fds + 1 + 1) % 3 = 0)), .bool (decide ((K + 1 + 1 + 1 + cntFieldS d.fds + 1 + 1 + 1) % 3 = 0)), .int .i64 ((K + 1 + 1 + 1 + cntFieldS d.fds + 1 + 1 + 1 + 1 : Nat) : Int)] [.string d.tun.dn.b, .bool d.tun.dn.e, .bool d.tun.dn.k, .int .i64 d.tun.went, .int .i64 d.tun.came, .bool d.ended] [] [.string (mtx (K + 1 + 1 + 1 + cntFieldS d.fds + 1 + 1 + 1 + 1 + 1)), .bool (decide ((K + 1 + 1 + 1 + cntFieldS d.fds + 1 + 1 + 1 + 1 + 1 + 1) % 3 = 0)), .bool (decide ((K + 1 + 1 + 1 + cntFieldS d.fds + 1 + 1 + 1 + 1 + 1 + 1 + 1) % 3 = 0)), .int .i64 ((K + 1 + 1 + 1 + cntFieldS d.fds + 1 + 1 + 1 + 1 + 1 + 1 + 1 + 1 : Nat) : Int), .int .i64 ((K + 1 + 1 + 1 + cntFieldS d.fds + 1 + 1 + 1 + 1 + 1 + 1 + 1 + 1 + 1 : Nat) : Int), .bool (decide ((K + 1 + 1 + 1 + cntFieldS d.fds + 1 + 1 + 1 + 1 + 1 + 1 + 1 + 1 + 1 + 1) % 3 = 0))] ⟨((K : Nat) : Int), ((K + 1 : Nat) : Int), ((K + 1 + 1 : Nat) : Int), mkFieldS d.fds (K + 1 + 1 + 1), ⟨⟨((K + 1 + 1 + 1 + cntFieldS d.fds : Nat) : Int), (mtx (K + 1 + 1 + 1 + cntFieldS d.fds + 1)), (decide ((K + 1 + 1 + 1 + cntFieldS d.fds + 1 + 1) % 3 = 0)), (decide ((K + 1 + 1 + 1 + cntFieldS d.fds + 1 + 1 + 1) % 3 = 0))⟩, ⟨((K + 1 + 1 + 1 + cntFieldS d.fds + 1 + 1 + 1 + 1 : Nat) : Int), (mtx (K + 1 + 1 + 1 + cntFieldS d.fds + 1 + 1 + 1 + 1 + 1)), (decide ((K + 1 + 1 + 1 + cntFieldS d.fds + 1 + 1 + 1 + 1 + 1 + 1) % 3 = 0)), (decide ((K + 1 + 1 + 1 + cntFieldS d.fds + 1 + 1 + 1 + 1 + 1 + 1 + 1) % 3 = 0))⟩, ((K + 1 + 1 + 1 + cntFieldS d.fds + 1 + 1 + 1 + 1 + 1 + 1 + 1 + 1 : Nat) : Int), ((K + 1 + 1 + 1 + cntFieldS d.fds + 1 + 1 + 1 + 1 + 1 + 1 + 1 + 1 + 1 : Nat) : Int)⟩, (decide ((K + 1 + 1 + 1 + cntFieldS d.fds + 1 + 1 + 1 + 1 + 1 + 1 + 1 + 1 + 1 + 1) % 3 = 0))⟩ rfl rfl ⟨_, _, rfl, (by have := mtx_size (K + 1 + 1 + 1 + cntFieldS d.fds + 1); simp only; omega), (by have := mtx_size (K + 1 + 1 + 1 + cntFieldS d.fds + 1 + 1 + 1 + 1 + 1); simp only; omega), hvfds, hbb⟩
      have HTn6 : Hid (TurnB bs w (setsFrom X5 g0 (j * flowS.size + ([.int .i64 ((K : Nat) : Int), .int .i64 ((K + 1 : Nat) : Int), .int .i64 ((K + 1 + 1 : Nat) : Int), .slice aq6 (mkFieldS d.fds (K + 1 + 1 + 1)).length pq6, .int .i64 ((K + 1 + 1 + 1 + cntFieldS d.fds : Nat) : Int), .string (mtx (K + 1 + 1 + 1 + cntFieldS d.fds + 1)), .bool (decide ((K + 1 + 1 + 1 + cntFieldS d.fds + 1 + 1) % 3 = 0)), .bool (decide ((K + 1 + 1 + 1 + cntFieldS d.fds + 1 + 1 + 1) % 3 = 0)), .int .i64 ((K + 1 + 1 + 1 + cntFieldS d.fds + 1 + 1 + 1 + 1 : Nat) : Int)] : List Value).length) [.string (mtx (K + 1 + 1 + 1 + cntFieldS d.fds + 1 + 1 + 1 + 1 + 1)), .bool (decide ((K + 1 + 1 + 1 + cntFieldS d.fds + 1 + 1 + 1 + 1 + 1 + 1) % 3 = 0)), .bool (decide ((K + 1 + 1 + 1 + cntFieldS d.fds + 1 + 1 + 1 + 1 + 1 + 1 + 1) % 3 = 0)), .int .i64 ((K + 1 + 1 + 1 + cntFieldS d.fds + 1 + 1 + 1 + 1 + 1 + 1 + 1 + 1 : Nat) : Int), .int .i64 ((K + 1 + 1 + 1 + cntFieldS d.fds + 1 + 1 + 1 + 1 + 1 + 1 + 1 + 1 + 1 : Nat) : Int), .bool (decide ((K + 1 + 1 + 1 + cntFieldS d.fds + 1 + 1 + 1 + 1 + 1 + 1 + 1 + 1 + 1 + 1) % 3 = 0))])) := TurnB.setsFrom g0 hgm _ _ _ HTx5.out
      change Hid (OwR flowS ((((((X5.setCell ⟨g0, j * 15 + 4 + 4 + 1, none⟩ (.string (mtx (K + 1 + 1 + 1 + cntFieldS d.fds + 1 + 1 + 1 + 1 + 1)))).setCell ⟨g0, j * 15 + 4 + 4 + 2, none⟩ (.bool (decide ((K + 1 + 1 + 1 + cntFieldS d.fds + 1 + 1 + 1 + 1 + 1 + 1) % 3 = 0)))).setCell ⟨g0, j * 15 + 4 + 4 + 3, none⟩ (.bool (decide ((K + 1 + 1 + 1 + cntFieldS d.fds + 1 + 1 + 1 + 1 + 1 + 1 + 1) % 3 = 0)))).setCell ⟨g0, j * 15 + 4 + 8, none⟩ (.int .i64 ((K : Int) + 1 + 1 + 1 + cntFieldS d.fds + 1 + 1 + 1 + 1 + 1 + 1 + 1 + 1))).setCell ⟨g0, j * 15 + 4 + 9, none⟩ (.int .i64 ((K : Int) + 1 + 1 + 1 + cntFieldS d.fds + 1 + 1 + 1 + 1 + 1 + 1 + 1 + 1 + 1))).setCell ⟨g0, j * 15 + 14, none⟩ (.bool (decide ((K + 1 + 1 + 1 + cntFieldS d.fds + 1 + 1 + 1 + 1 + 1 + 1 + 1 + 1 + 1 + 1) % 3 = 0)))) _ _ _) at HOn6
      change Hid (TurnB bs w ((((((X5.setCell ⟨g0, j * 15 + 4 + 4 + 1, none⟩ (.string (mtx (K + 1 + 1 + 1 + cntFieldS d.fds + 1 + 1 + 1 + 1 + 1)))).setCell ⟨g0, j * 15 + 4 + 4 + 2, none⟩ (.bool (decide ((K + 1 + 1 + 1 + cntFieldS d.fds + 1 + 1 + 1 + 1 + 1 + 1) % 3 = 0)))).setCell ⟨g0, j * 15 + 4 + 4 + 3, none⟩ (.bool (decide ((K + 1 + 1 + 1 + cntFieldS d.fds + 1 + 1 + 1 + 1 + 1 + 1 + 1) % 3 = 0)))).setCell ⟨g0, j * 15 + 4 + 8, none⟩ (.int .i64 ((K : Int) + 1 + 1 + 1 + cntFieldS d.fds + 1 + 1 + 1 + 1 + 1 + 1 + 1 + 1))).setCell ⟨g0, j * 15 + 4 + 9, none⟩ (.int .i64 ((K : Int) + 1 + 1 + 1 + cntFieldS d.fds + 1 + 1 + 1 + 1 + 1 + 1 + 1 + 1 + 1))).setCell ⟨g0, j * 15 + 14, none⟩ (.bool (decide ((K + 1 + 1 + 1 + cntFieldS d.fds + 1 + 1 + 1 + 1 + 1 + 1 + 1 + 1 + 1 + 1) % 3 = 0))))) at HTn6
      clear hcell hkeep hsets hsub hbn hgb hbb eq6 hfr hvfds
      have hbl31164 : (((K : Int) + 1 + 1 + 1 + cntFieldS d.fds + 1 + 1 + 1 + 1 + 1 + 1) % 3 == 0) = decide ((K + 1 + 1 + 1 + cntFieldS d.fds + 1 + 1 + 1 + 1 + 1 + 1) % 3 = 0) := boolmark _ _ (by omega)
      have hbl31367 : (((K : Int) + 1 + 1 + 1 + cntFieldS d.fds + 1 + 1 + 1 + 1 + 1 + 1 + 1) % 3 == 0) = decide ((K + 1 + 1 + 1 + cntFieldS d.fds + 1 + 1 + 1 + 1 + 1 + 1 + 1) % 3 = 0) := boolmark _ _ (by omega)
      have hbl31578 : (((K : Int) + 1 + 1 + 1 + cntFieldS d.fds + 1 + 1 + 1 + 1 + 1 + 1 + 1 + 1 + 1 + 1) % 3 == 0) = decide ((K + 1 + 1 + 1 + cntFieldS d.fds + 1 + 1 + 1 + 1 + 1 + 1 + 1 + 1 + 1 + 1) % 3 = 0) := boolmark _ _ (by omega)
      go_wp2_with fail
      try simp only [hbl31164, hbl31367, hbl31578]
      clear hbl31164 hbl31367 hbl31578
      clear c6_9 c6_10 c6_11 c6_12 c6_13 c6_14 fz6
      generalize ((((((X5.setCell ⟨g0, j * 15 + 4 + 4 + 1, none⟩ (.string (mtx (K + 1 + 1 + 1 + cntFieldS d.fds + 1 + 1 + 1 + 1 + 1)))).setCell ⟨g0, j * 15 + 4 + 4 + 2, none⟩ (.bool (decide ((K + 1 + 1 + 1 + cntFieldS d.fds + 1 + 1 + 1 + 1 + 1 + 1) % 3 = 0)))).setCell ⟨g0, j * 15 + 4 + 4 + 3, none⟩ (.bool (decide ((K + 1 + 1 + 1 + cntFieldS d.fds + 1 + 1 + 1 + 1 + 1 + 1 + 1) % 3 = 0)))).setCell ⟨g0, j * 15 + 4 + 8, none⟩ (.int .i64 ((K : Int) + 1 + 1 + 1 + cntFieldS d.fds + 1 + 1 + 1 + 1 + 1 + 1 + 1 + 1))).setCell ⟨g0, j * 15 + 4 + 9, none⟩ (.int .i64 ((K : Int) + 1 + 1 + 1 + cntFieldS d.fds + 1 + 1 + 1 + 1 + 1 + 1 + 1 + 1 + 1))).setCell ⟨g0, j * 15 + 14, none⟩ (.bool (decide ((K + 1 + 1 + 1 + cntFieldS d.fds + 1 + 1 + 1 + 1 + 1 + 1 + 1 + 1 + 1 + 1) % 3 = 0)))) = V6 at *
      refine ⟨⟨j + 1, ?_, ?_, ?_, ?_, ?_⟩, ?_⟩
      · go_num
      · exact int_eq (by have h1 := HKC.out; have h2 : cntFlow d = 1 + 1 + 1 + cntFieldS d.fds + 1 + 1 + 1 + 1 + 1 + 1 + 1 + 1 + 1 + 1 + 1 := rfl; omega)
      · omega
      · show OwR _ _ _ _ _
        rw [← HST.out]
        have hfin := HOn6.out
        first | exact hfin | (simp only [List.set_set] at hfin; exact hfin)
      · exact HTn6.out
      · simp [intOf]; omega
    · obtain rfl : j = L.length := by omega
      rw [mix_end] at HO
      rw [List.take_length]
      go_wp2_with fail
      go_ret
      exact ⟨rfl, HO.out, HT.out⟩
end Go.Proofs.YtkhclhnejnpkeaaGreat
/- Flows in a row: read again behind marks (by gen_flow.py). -/
namespace Go.Proofs.YtkhclhnejnpkeaaGreat
open Go.RowKit
set_option maxRecDepth 100000
set_option linter.unusedSimpArgs false
set_option linter.unusedVariables false
set_option maxHeartbeats 20000000 in
theorem heldFlowS (L : List FlD) (k : Nat) (v : Value) (w : World) (hr : RdR flowS w v (mkFlowS L k)) (hk1 : k + cntFlowS L ≤ 1000000000) :
    Calls Tryz.prog 93 #[v, .int .i64 k] w fun x w' => x = .returned (.int .i64 ((k + cntFlowS L : Nat) : Int)) ∧ Below w.heap.size w w' := by
  obtain ⟨ad, cap, rfl, h1, h2⟩ := hr.form
  unfold cntFlowS mkFlowS at *
  rw [mk_len'] at h1 ⊢
  have HR := hide hr
  clear hr
  go_enter Tryz.func93, Tryz.ntmps93
  go_wp2_with fail
  go_loopw [1, 5] (fun kk i wr => ∃ (j : Nat), i = .int .i64 j ∧ kk = .int .i64 ((k + cntLs cntFlow (L.take j) : Nat) : Int) ∧ j ≤ L.length ∧ Hid (Below w.heap.size w wr)) (fun _ i _ => L.length - (intOf i).toNat)
  case atStart => exact ⟨0, rfl, by simp [cntLs], Nat.zero_le _, Below.refl _ _⟩
  case round =>
    obtain ⟨j, rfl, rfl, hj, HB⟩ := hrel
    by_cases hlt : j < L.length
    · have hct := cnt_take cntFlow L j hlt
      have hcl := cnt_le cntFlow L (j + 1)
      have hrk := (HR.out.new HB.out).at j (by rw [mk_len']; exact hlt)
      rw [mk_at _ _ L k j hlt] at hrk
      obtain ⟨d, hd⟩ : ∃ d, d = L[j] := ⟨_, rfl⟩
      rw [← hd] at hct hrk
      obtain ⟨K, hK⟩ : ∃ K : Nat, K = k + cntLs cntFlow (L.take j) := ⟨_, rfl⟩
      rw [← hK] at hrk ⊢
      have hKc : K + cntFlow d = k + cntLs cntFlow (L.take (j + 1)) := by omega
      have HKC := hide hKc
      have hKb : K + cntFlow d ≤ 1000000000 := by omega
      unfold cntFlow at hKb
      clear hct hcl hd hK hKc
      obtain ⟨b, o, cs, rfl, hb1, hrd, hc⟩ := hrk
      obtain ⟨vfds, rfl, _, _, hvfds⟩ := hrd
      have Hvfds : Hid (RdR fieldS wr vfds (mkFieldS d.fds (K + 1 + 1 + 1))) := hvfds
      obtain ⟨aq, pq, eq, _⟩ := Hvfds.out.form
      clear hvfds
      subst eq
      have c0 : wr.cell? ⟨b, o + j * 15, none⟩ = some (.int .i64 ((K : Int))) := hc 0 _ rfl
      have q0 : Hid (∀ u, Below wr.heap.size wr u → u.cell? ⟨b, o + j * 15, none⟩ = some (.int .i64 ((K : Int)))) := fun u hu => (hu.cell (p := ⟨b, o + j * 15, none⟩) hb1).trans c0
      clear c0
      have c1 : wr.cell? ⟨b, o + j * 15 + 1, none⟩ = some (.int .i64 ((K : Int) + 1)) := hc 1 _ rfl
      have q1 : Hid (∀ u, Below wr.heap.size wr u → u.cell? ⟨b, o + j * 15 + 1, none⟩ = some (.int .i64 ((K : Int) + 1))) := fun u hu => (hu.cell (p := ⟨b, o + j * 15 + 1, none⟩) hb1).trans c1
      clear c1
      have c2 : wr.cell? ⟨b, o + j * 15 + 2, none⟩ = some (.int .i64 ((K : Int) + 1 + 1)) := hc 2 _ rfl
      have q2 : Hid (∀ u, Below wr.heap.size wr u → u.cell? ⟨b, o + j * 15 + 2, none⟩ = some (.int .i64 ((K : Int) + 1 + 1))) := fun u hu => (hu.cell (p := ⟨b, o + j * 15 + 2, none⟩) hb1).trans c2
      clear c2
      have c3 : wr.cell? ⟨b, o + j * 15 + 3, none⟩ = some (.slice aq (mkFieldS d.fds (K + 1 + 1 + 1)).length pq) := hc 3 _ rfl
      have q3 : Hid (∀ u, Below wr.heap.size wr u → u.cell? ⟨b, o + j * 15 + 3, none⟩ = some (.slice aq (mkFieldS d.fds (K + 1 + 1 + 1)).length pq)) := fun u hu => (hu.cell (p := ⟨b, o + j * 15 + 3, none⟩) hb1).trans c3
      clear c3
      have c4 : wr.cell? ⟨b, o + j * 15 + 4, none⟩ = some (.int .i64 ((K : Int) + 1 + 1 + 1 + cntFieldS d.fds)) := hc 4 _ rfl
      have q4 : Hid (∀ u, Below wr.heap.size wr u → u.cell? ⟨b, o + j * 15 + 4, none⟩ = some (.int .i64 ((K : Int) + 1 + 1 + 1 + cntFieldS d.fds))) := fun u hu => (hu.cell (p := ⟨b, o + j * 15 + 4, none⟩) hb1).trans c4
      clear c4
      have c5 : wr.cell? ⟨b, o + j * 15 + 4 + 1, none⟩ = some (.string (mtx (K + 1 + 1 + 1 + cntFieldS d.fds + 1))) := hc 5 _ rfl
      have q5 : Hid (∀ u, Below wr.heap.size wr u → u.cell? ⟨b, o + j * 15 + 4 + 1, none⟩ = some (.string (mtx (K + 1 + 1 + 1 + cntFieldS d.fds + 1)))) := fun u hu => (hu.cell (p := ⟨b, o + j * 15 + 4 + 1, none⟩) hb1).trans c5
      clear c5
      have c6 : wr.cell? ⟨b, o + j * 15 + 4 + 2, none⟩ = some (.bool (decide ((K + 1 + 1 + 1 + cntFieldS d.fds + 1 + 1) % 3 = 0))) := hc 6 _ rfl
      have q6 : Hid (∀ u, Below wr.heap.size wr u → u.cell? ⟨b, o + j * 15 + 4 + 2, none⟩ = some (.bool (decide ((K + 1 + 1 + 1 + cntFieldS d.fds + 1 + 1) % 3 = 0)))) := fun u hu => (hu.cell (p := ⟨b, o + j * 15 + 4 + 2, none⟩) hb1).trans c6
      clear c6
      have c7 : wr.cell? ⟨b, o + j * 15 + 4 + 3, none⟩ = some (.bool (decide ((K + 1 + 1 + 1 + cntFieldS d.fds + 1 + 1 + 1) % 3 = 0))) := hc 7 _ rfl
      have q7 : Hid (∀ u, Below wr.heap.size wr u → u.cell? ⟨b, o + j * 15 + 4 + 3, none⟩ = some (.bool (decide ((K + 1 + 1 + 1 + cntFieldS d.fds + 1 + 1 + 1) % 3 = 0)))) := fun u hu => (hu.cell (p := ⟨b, o + j * 15 + 4 + 3, none⟩) hb1).trans c7
      clear c7
      have c8 : wr.cell? ⟨b, o + j * 15 + 4 + 4, none⟩ = some (.int .i64 ((K : Int) + 1 + 1 + 1 + cntFieldS d.fds + 1 + 1 + 1 + 1)) := hc 8 _ rfl
      have q8 : Hid (∀ u, Below wr.heap.size wr u → u.cell? ⟨b, o + j * 15 + 4 + 4, none⟩ = some (.int .i64 ((K : Int) + 1 + 1 + 1 + cntFieldS d.fds + 1 + 1 + 1 + 1))) := fun u hu => (hu.cell (p := ⟨b, o + j * 15 + 4 + 4, none⟩) hb1).trans c8
      clear c8
      have c9 : wr.cell? ⟨b, o + j * 15 + 4 + 4 + 1, none⟩ = some (.string (mtx (K + 1 + 1 + 1 + cntFieldS d.fds + 1 + 1 + 1 + 1 + 1))) := hc 9 _ rfl
      have q9 : Hid (∀ u, Below wr.heap.size wr u → u.cell? ⟨b, o + j * 15 + 4 + 4 + 1, none⟩ = some (.string (mtx (K + 1 + 1 + 1 + cntFieldS d.fds + 1 + 1 + 1 + 1 + 1)))) := fun u hu => (hu.cell (p := ⟨b, o + j * 15 + 4 + 4 + 1, none⟩) hb1).trans c9
      clear c9
      have c10 : wr.cell? ⟨b, o + j * 15 + 4 + 4 + 2, none⟩ = some (.bool (decide ((K + 1 + 1 + 1 + cntFieldS d.fds + 1 + 1 + 1 + 1 + 1 + 1) % 3 = 0))) := hc 10 _ rfl
      have q10 : Hid (∀ u, Below wr.heap.size wr u → u.cell? ⟨b, o + j * 15 + 4 + 4 + 2, none⟩ = some (.bool (decide ((K + 1 + 1 + 1 + cntFieldS d.fds + 1 + 1 + 1 + 1 + 1 + 1) % 3 = 0)))) := fun u hu => (hu.cell (p := ⟨b, o + j * 15 + 4 + 4 + 2, none⟩) hb1).trans c10
      clear c10
      have c11 : wr.cell? ⟨b, o + j * 15 + 4 + 4 + 3, none⟩ = some (.bool (decide ((K + 1 + 1 + 1 + cntFieldS d.fds + 1 + 1 + 1 + 1 + 1 + 1 + 1) % 3 = 0))) := hc 11 _ rfl
      have q11 : Hid (∀ u, Below wr.heap.size wr u → u.cell? ⟨b, o + j * 15 + 4 + 4 + 3, none⟩ = some (.bool (decide ((K + 1 + 1 + 1 + cntFieldS d.fds + 1 + 1 + 1 + 1 + 1 + 1 + 1) % 3 = 0)))) := fun u hu => (hu.cell (p := ⟨b, o + j * 15 + 4 + 4 + 3, none⟩) hb1).trans c11
      clear c11
      have c12 : wr.cell? ⟨b, o + j * 15 + 4 + 8, none⟩ = some (.int .i64 ((K : Int) + 1 + 1 + 1 + cntFieldS d.fds + 1 + 1 + 1 + 1 + 1 + 1 + 1 + 1)) := hc 12 _ rfl
      have q12 : Hid (∀ u, Below wr.heap.size wr u → u.cell? ⟨b, o + j * 15 + 4 + 8, none⟩ = some (.int .i64 ((K : Int) + 1 + 1 + 1 + cntFieldS d.fds + 1 + 1 + 1 + 1 + 1 + 1 + 1 + 1))) := fun u hu => (hu.cell (p := ⟨b, o + j * 15 + 4 + 8, none⟩) hb1).trans c12
      clear c12
      have c13 : wr.cell? ⟨b, o + j * 15 + 4 + 9, none⟩ = some (.int .i64 ((K : Int) + 1 + 1 + 1 + cntFieldS d.fds + 1 + 1 + 1 + 1 + 1 + 1 + 1 + 1 + 1)) := hc 13 _ rfl
      have q13 : Hid (∀ u, Below wr.heap.size wr u → u.cell? ⟨b, o + j * 15 + 4 + 9, none⟩ = some (.int .i64 ((K : Int) + 1 + 1 + 1 + cntFieldS d.fds + 1 + 1 + 1 + 1 + 1 + 1 + 1 + 1 + 1))) := fun u hu => (hu.cell (p := ⟨b, o + j * 15 + 4 + 9, none⟩) hb1).trans c13
      clear c13
      have c14 : wr.cell? ⟨b, o + j * 15 + 14, none⟩ = some (.bool (decide ((K + 1 + 1 + 1 + cntFieldS d.fds + 1 + 1 + 1 + 1 + 1 + 1 + 1 + 1 + 1 + 1) % 3 = 0))) := hc 14 _ rfl
      have q14 : Hid (∀ u, Below wr.heap.size wr u → u.cell? ⟨b, o + j * 15 + 14, none⟩ = some (.bool (decide ((K + 1 + 1 + 1 + cntFieldS d.fds + 1 + 1 + 1 + 1 + 1 + 1 + 1 + 1 + 1 + 1) % 3 = 0)))) := fun u hu => (hu.cell (p := ⟨b, o + j * 15 + 14, none⟩) hb1).trans c14
      clear c14
      clear hc
      have HW : Hid (Below wr.heap.size wr wr) := Below.refl _ _
      have c0 := q0.out wr HW.out
      have c1 := q1.out wr HW.out
      have c2 := q2.out wr HW.out
      have c3 := q3.out wr HW.out
      go_wp2_with fail
      clear c0 c1 c2 c3
      have hcl := heldFieldS d.fds (K + 1 + 1 + 1) _ _ (Hvfds.out.new HW.out) (by omega)
      refine (show Calls _ _ #[.slice aq (mkFieldS d.fds (K + 1 + 1 + 1)).length pq, .int .i64 ((K : Int) + 1 + 1 + 1)] _ _ from hcl).mono ?_; clear hcl; rintro x U3 ⟨rfl, hb⟩
      have hpos : ¬ (((K + 1 + 1 + 1 + cntFieldS d.fds : Nat) : Int) < 0) := by omega
      replace HW := hide (bchain HW.out hb)
      clear hb
      have c4 := q4.out U3 HW.out
      go_wp2_with fail
      clear c4
      have qy : ∀ y : Later U3, y.w.cell? ⟨b, o + j * 15 + 4 + 1, none⟩ = some (.string (mtx (K + 1 + 1 + 1 + cntFieldS d.fds + 1))) := fun y => q5.out y.w (bchain HW.out y.b)
      have hne : Nonempty (Later U3) := ⟨⟨U3, Below.refl _ _⟩⟩; refine region_later (by kernel_rfl) (by kernel_rfl) ?_
      repeat (go_big_quiet_step (fail))
      go_big_quiet_want; go_big_quiet_op
      refine ⟨.string (mtx (K + 1 + 1 + 1 + cntFieldS d.fds + 1)), fun y => later_calls (x := y) (show Calls _ _ #[.int .i64 ((K : Int) + 1 + 1 + 1 + cntFieldS d.fds + 1)] _ _ from markTx (K + 1 + 1 + 1 + cntFieldS d.fds + 1) y.w (by omega)), ?_⟩
      go_big_quiet_on
      repeat (go_big_quiet_step (fail))
      refine wpQuiet_nil ?_; intro _ hw'; obtain ⟨y, hw''⟩ := hw'; subst hw''; have hby := y.b
      clear qy hne
      replace HW := hide (bchain HW.out hby)
      clear hby
      generalize y.w = U5 at *
      have c6 := q6.out U5 HW.out
      have c7 := q7.out U5 HW.out
      have c8 := q8.out U5 HW.out
      have hbl1 : (((K : Int) + 1 + 1 + 1 + cntFieldS d.fds + 1 + 1) % 3 == 0) = decide ((K + 1 + 1 + 1 + cntFieldS d.fds + 1 + 1) % 3 = 0) := boolmark _ _ (by omega)
      have hbl2 : (((K : Int) + 1 + 1 + 1 + cntFieldS d.fds + 1 + 1 + 1) % 3 == 0) = decide ((K + 1 + 1 + 1 + cntFieldS d.fds + 1 + 1 + 1) % 3 = 0) := boolmark _ _ (by omega)
      go_wp2_with fail
      clear c6 c7 c8
      have qy : ∀ y : Later U5, y.w.cell? ⟨b, o + j * 15 + 4 + 4 + 1, none⟩ = some (.string (mtx (K + 1 + 1 + 1 + cntFieldS d.fds + 1 + 1 + 1 + 1 + 1))) := fun y => q9.out y.w (bchain HW.out y.b)
      have hne : Nonempty (Later U5) := ⟨⟨U5, Below.refl _ _⟩⟩; refine region_later (by kernel_rfl) (by kernel_rfl) ?_
      repeat (go_big_quiet_step (fail))
      go_big_quiet_want; go_big_quiet_op
      refine ⟨.string (mtx (K + 1 + 1 + 1 + cntFieldS d.fds + 1 + 1 + 1 + 1 + 1)), fun y => later_calls (x := y) (show Calls _ _ #[.int .i64 ((K : Int) + 1 + 1 + 1 + cntFieldS d.fds + 1 + 1 + 1 + 1 + 1)] _ _ from markTx (K + 1 + 1 + 1 + cntFieldS d.fds + 1 + 1 + 1 + 1 + 1) y.w (by omega)), ?_⟩
      go_big_quiet_on
      repeat (go_big_quiet_step (fail))
      refine wpQuiet_nil ?_; intro _ hw'; obtain ⟨y, hw''⟩ := hw'; subst hw''; have hby := y.b
      clear qy hne
      replace HW := hide (bchain HW.out hby)
      clear hby
      generalize y.w = U9 at *
      have c10 := q10.out U9 HW.out
      have c11 := q11.out U9 HW.out
      have c12 := q12.out U9 HW.out
      have c13 := q13.out U9 HW.out
      have c14 := q14.out U9 HW.out
      have hbl3 : (((K : Int) + 1 + 1 + 1 + cntFieldS d.fds + 1 + 1 + 1 + 1 + 1 + 1) % 3 == 0) = decide ((K + 1 + 1 + 1 + cntFieldS d.fds + 1 + 1 + 1 + 1 + 1 + 1) % 3 = 0) := boolmark _ _ (by omega)
      have hbl4 : (((K : Int) + 1 + 1 + 1 + cntFieldS d.fds + 1 + 1 + 1 + 1 + 1 + 1 + 1) % 3 == 0) = decide ((K + 1 + 1 + 1 + cntFieldS d.fds + 1 + 1 + 1 + 1 + 1 + 1 + 1) % 3 = 0) := boolmark _ _ (by omega)
      have hbl5 : (((K : Int) + 1 + 1 + 1 + cntFieldS d.fds + 1 + 1 + 1 + 1 + 1 + 1 + 1 + 1 + 1 + 1) % 3 == 0) = decide ((K + 1 + 1 + 1 + cntFieldS d.fds + 1 + 1 + 1 + 1 + 1 + 1 + 1 + 1 + 1 + 1) % 3 = 0) := boolmark _ _ (by omega)
      go_wp2_with fail
      clear c10 c11 c12 c13 c14
      go_roundw
      case rel => exact ⟨j + 1, by go_num, int_eq (by have h1 := HKC.out; have h2 : cntFlow d = 1 + 1 + 1 + cntFieldS d.fds + 1 + 1 + 1 + 1 + 1 + 1 + 1 + 1 + 1 + 1 + 1 := rfl; omega), by omega, hide (bchain HB.out HW.out)⟩
      case measure => simp [intOf]; omega
    · obtain rfl : j = L.length := by omega
      rw [List.take_length]
      go_wp2_with fail
      go_ret
      exact ⟨rfl, HB.out⟩
end Go.Proofs.YtkhclhnejnpkeaaGreat
