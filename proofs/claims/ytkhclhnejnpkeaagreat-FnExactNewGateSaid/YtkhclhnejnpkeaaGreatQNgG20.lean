/- Several small texts of one level, one behind the other. -/
import Derived.Test.YtkhclhnejnpkeaaGreatQNgG19
import Derived.Test.YtkhclhnejnpkeaaGreatQNgG3
/- NewGate of a gate: its seats (by gen_gatenew.py). -/
namespace Go.Proofs.YtkhclhnejnpkeaaGreat
open Go.RowKit
set_option maxRecDepth 100000
set_option linter.unusedSimpArgs false
set_option linter.unusedVariables false
/-- A new seat. -/
def nN : StN := ⟨⟨⟨4, 0⟩, ⟨400⟩, ⟨400⟩, 2000, 2000, 500, false, false⟩, ⟨#[]⟩, ⟨#[]⟩, false⟩
def rowNs (n : Nat) : List Value := (List.replicate n [.int .i64 4, .int .i64 0, .slice none 0 0, .int .i64 400, .slice none 0 0, .int .i64 400, .slice none 0 0, .int .i64 2000, .int .i64 2000, .int .i64 500, .slice none 0 0, .bool false, .bool false, .string ⟨#[]⟩, .string ⟨#[]⟩, .bool false]).flatten
theorem rowNs_succ (n : Nat) : rowNs (n + 1) = rowNs n ++ [.int .i64 4, .int .i64 0, .slice none 0 0, .int .i64 400, .slice none 0 0, .int .i64 400, .slice none 0 0, .int .i64 2000, .int .i64 2000, .int .i64 500, .slice none 0 0, .bool false, .bool false, .string ⟨#[]⟩, .string ⟨#[]⟩, .bool false] := by
  unfold rowNs
  rw [List.replicate_succ', List.flatten_append]
  simp
theorem rowNs_own {w : World} {lo : Nat} {a : Option Addr} {n p : Nat} (h : w.ownsRow lo 65 16 (.slice a n p) n (rowNs n)) : OwX seatNS w lo w.heap.size (.slice a n p) (List.replicate n nN) := by
  refine ⟨(Value.slice a n p).ownBlock.toList, ⟨List.replicate n ([.int .i64 4, .int .i64 0, .slice none 0 0, .int .i64 400, .slice none 0 0, .int .i64 400, .slice none 0 0, .int .i64 2000, .int .i64 2000, .int .i64 500, .slice none 0 0, .bool false, .bool false, .string ⟨#[]⟩, .string ⟨#[]⟩, .bool false], nN, []), by simp, ?_, fun t ht => ?_, ?_⟩, opt_nodup _, fun b hb => ?_⟩
  · have h0 := owns_base (base' := 0) h (fun _ _ => Nat.zero_le _)
    have e : (List.replicate n (([.int .i64 4, .int .i64 0, .slice none 0 0, .int .i64 400, .slice none 0 0, .int .i64 400, .slice none 0 0, .int .i64 2000, .int .i64 2000, .int .i64 500, .slice none 0 0, .bool false, .bool false, .string ⟨#[]⟩, .string ⟨#[]⟩, .bool false] : List Value), nN, ([] : List Nat))).flatMap (fun t => t.1) = rowNs n := by
      unfold rowNs
      rw [List.flatMap_replicate]
    show World.ownsRow _ _ 65 16 _ _ _
    rw [e, List.length_replicate]
    exact h0
  · rw [List.eq_of_mem_replicate ht]
    exact ⟨rfl, by decide, by decide, rfl⟩
  · rw [List.flatMap_replicate]
    simp
  · have := owns_lt h b (by cases hv : (Value.slice a n p).ownBlock <;> simp [hv] at hb ⊢; exact hb.symm)
    exact this
/-- What a new gate is, in memory: its tenants, and its seats, in blocks of their own. -/
def NewG (w : World) (lo : Nat) (T : List TenantD) (n : Int) (x : Value) : Prop :=
  (okTs T = true ∧ inB n 1 4 = true ∧ ∃ vt vs m, x = .tuple #[.agg #[.int .i64 0, vt, vs, .slice none 0 0, .slice none 0 0, .bool false], .bool true] ∧ lo ≤ m ∧ m ≤ w.heap.size ∧ OwX tenantS w lo m vt T ∧ OwX seatNS w m w.heap.size vs (List.replicate n.toNat nN)) ∨ (¬ (okTs T = true ∧ inB n 1 4 = true) ∧ x = .tuple #[.agg #[.int .i64 0, .slice none 0 0, .slice none 0 0, .slice none 0 0, .slice none 0 0, .bool false], .bool false])
end Go.Proofs.YtkhclhnejnpkeaaGreat
/- A Gate in memory: read, owned; counted, copied, held against each other; one that came in (by gen_shgate.py). -/
namespace Go.Proofs.YtkhclhnejnpkeaaGreat
open Go.RowKit
set_option maxRecDepth 100000
set_option linter.unusedSimpArgs false
set_option linter.unusedVariables false
abbrev gtv (d : GtD) (vt vs vd vf : Value) : Value := .agg #[.int .i64 d.now, vt, vs, vd, vf, .bool d.drained]
/-- What its lists read as. -/
structure GtRd (w : World) (d : GtD) (vt vs vd vf : Value) : Prop where
  te : RdR tenantS w vt d.tens
  se : RdR seatS w vs d.seats
  di : RdR dialS w vd d.dials
  fl : RdR flightS w vf d.flights
theorem GtRd.new {w w' : World} {d : GtD} {vt vs vd vf : Value} (h : GtRd w d vt vs vd vf) (hb : Below w.heap.size w w') : GtRd w' d vt vs vd vf := ⟨h.te.new hb, h.se.new hb, h.di.new hb, h.fl.new hb⟩
set_option maxHeartbeats 4000000 in
theorem eqGate1 (d : GtD) (vt vs vd vf ut us ud uf : Value) (w : World) (hv : GtRd w d vt vs vd vf) (hu : GtRd w d ut us ud uf) :
    Calls Tryz.prog 10 #[gtv d vt vs vd vf, gtv d ut us ud uf] w fun x w' => x = .returned (.bool true) ∧ Below w.heap.size w w' := by
  dsimp only [gtv] at *
  have HV := hide hv
  have HU := hide hu
  clear hv hu
  obtain ⟨ate, pte, rfl, _⟩ := HV.out.te.form
  obtain ⟨ase, pse, rfl, _⟩ := HV.out.se.form
  obtain ⟨adi, pdi, rfl, _⟩ := HV.out.di.form
  obtain ⟨afl, pfl, rfl, _⟩ := HV.out.fl.form
  obtain ⟨nte, qte, rfl, _⟩ := HU.out.te.form
  obtain ⟨nse, qse, rfl, _⟩ := HU.out.se.form
  obtain ⟨ndi, qdi, rfl, _⟩ := HU.out.di.form
  obtain ⟨nfl, qfl, rfl, _⟩ := HU.out.fl.form
  obtain ⟨W, hW⟩ : ∃ W, (w.alloc (.cells #[.int .i64 d.now, .slice ate d.tens.length pte, .slice ase d.seats.length pse, .slice adi d.dials.length pdi, .slice afl d.flights.length pfl, .bool d.drained] 35)).alloc (.cells #[.int .i64 d.now, .slice nte d.tens.length qte, .slice nse d.seats.length qse, .slice ndi d.dials.length qdi, .slice nfl d.flights.length qfl, .bool d.drained] 35) = W := ⟨_, rfl⟩
  have RX : RowIs W w.heap.size 35 [.int .i64 d.now, .slice ate d.tens.length pte, .slice ase d.seats.length pse, .slice adi d.dials.length pdi, .slice afl d.flights.length pfl, .bool d.drained] := by rw [← hW]; exact (rowIs_new w 35 [.int .i64 d.now, .slice ate d.tens.length pte, .slice ase d.seats.length pse, .slice adi d.dials.length pdi, .slice afl d.flights.length pfl, .bool d.drained]).alloc _
  have RY : RowIs W (w.heap.size + 1) 35 [.int .i64 d.now, .slice nte d.tens.length qte, .slice nse d.seats.length qse, .slice ndi d.dials.length qdi, .slice nfl d.flights.length qfl, .bool d.drained] := by have := rowIs_new (w.alloc (.cells #[.int .i64 d.now, .slice ate d.tens.length pte, .slice ase d.seats.length pse, .slice adi d.dials.length pdi, .slice afl d.flights.length pfl, .bool d.drained] 35)) 35 [.int .i64 d.now, .slice nte d.tens.length qte, .slice nse d.seats.length qse, .slice ndi d.dials.length qdi, .slice nfl d.flights.length qfl, .bool d.drained]; rw [hW] at this; simpa using this
  have HB : Below w.heap.size w W := by rw [← hW]; exact (((Below.refl _ _).alloc (Nat.le_refl _) _).alloc (by simp) _)
  have b0 : (d.now != d.now) = false := by simp
  go_enter Tryz.func10, Tryz.ntmps10
  have x0 := RowIs.cell (j := 0) RX rfl
  have x1 := RowIs.cell (j := 1) RX rfl
  have xf := fun j => RowIs.frozen RX j
  have xl := RX.lt
  have y0 := RowIs.cell (j := 0) RY rfl
  have y1 := RowIs.cell (j := 1) RY rfl
  have yf := fun j => RowIs.frozen RY j
  have yl := RY.lt
  go_wp2_with fail
  clear x0 x1 xf xl
  clear y0 y1 yf yl
  refine (eqTenantS d.tens _ _ _ (HV.out.te.new HB) (HU.out.te.new HB)).mono ?_; rintro x w1 ⟨rfl, hb⟩
  replace RX := RX.new hb
  replace RY := RY.new hb
  replace HB := bchain HB hb
  clear hb
  clear hW
  have x2 := RowIs.cell (j := 2) RX rfl
  have xf := fun j => RowIs.frozen RX j
  have xl := RX.lt
  have y2 := RowIs.cell (j := 2) RY rfl
  have yf := fun j => RowIs.frozen RY j
  have yl := RY.lt
  go_wp2_with fail
  clear x2 xf xl
  clear y2 yf yl
  refine (eqSeatS d.seats _ _ _ (HV.out.se.new HB) (HU.out.se.new HB)).mono ?_; rintro x w2 ⟨rfl, hb⟩
  replace RX := RX.new hb
  replace RY := RY.new hb
  replace HB := bchain HB hb
  clear hb
  have x3 := RowIs.cell (j := 3) RX rfl
  have xf := fun j => RowIs.frozen RX j
  have xl := RX.lt
  have y3 := RowIs.cell (j := 3) RY rfl
  have yf := fun j => RowIs.frozen RY j
  have yl := RY.lt
  go_wp2_with fail
  clear x3 xf xl
  clear y3 yf yl
  refine (eqDialS d.dials _ _ _ (HV.out.di.new HB) (HU.out.di.new HB)).mono ?_; rintro x w3 ⟨rfl, hb⟩
  replace RX := RX.new hb
  replace RY := RY.new hb
  replace HB := bchain HB hb
  clear hb
  have x4 := RowIs.cell (j := 4) RX rfl
  have xf := fun j => RowIs.frozen RX j
  have xl := RX.lt
  have y4 := RowIs.cell (j := 4) RY rfl
  have yf := fun j => RowIs.frozen RY j
  have yl := RY.lt
  go_wp2_with fail
  clear x4 xf xl
  clear y4 yf yl
  refine (eqFlightS d.flights _ _ _ (HV.out.fl.new HB) (HU.out.fl.new HB)).mono ?_; rintro x w4 ⟨rfl, hb⟩
  replace RX := RX.new hb
  replace RY := RY.new hb
  replace HB := bchain HB hb
  clear hb
  have x5 := RowIs.cell (j := 5) RX rfl
  have xf := fun j => RowIs.frozen RX j
  have xl := RX.lt
  have y5 := RowIs.cell (j := 5) RY rfl
  have yf := fun j => RowIs.frozen RY j
  have yl := RY.lt
  have c0 : (d.drained != d.drained) = false := by simp
  go_wp2_with fail
  go_ret
  exact ⟨rfl, HB⟩
end Go.Proofs.YtkhclhnejnpkeaaGreat
/- Rows of Seats whose Conns have no lists: marked (by gen_shseatn.py). -/
namespace Go.Proofs.YtkhclhnejnpkeaaGreat
open Go.RowKit
set_option maxRecDepth 100000
set_option linter.unusedSimpArgs false
set_option linter.unusedVariables false
set_option maxHeartbeats 20000000 in
theorem markSeatNS (L : List StN) (k : Nat) (v : Value) (bs : List Nat) (w : World) (ho : OwR seatNS w v L bs) (hn : bs.Nodup) (hk1 : k + cntSeatNS L ≤ 1000000000) :
    Calls Tryz.prog 48 #[v, .int .i64 k] w fun x w' => x = .returned (.int .i64 ((k + cntSeatNS L : Nat) : Int)) ∧ OwR seatNS w' v (mkSeatNS L k) bs ∧ TurnB bs w w' := by
  obtain ⟨ad, cap, rfl, h1, h2⟩ := ho.rd.form
  unfold cntSeatNS mkSeatNS at *
  have HO0 : Hid (OwR seatNS w (.slice ad L.length cap) (mixLs mkSeatN cntSeatN L k 0) bs) := by show OwR _ _ _ _ _; rw [mix_zero]; exact ho
  clear ho
  have HN := hide hn
  clear hn
  go_enter Tryz.func48, Tryz.ntmps48
  go_wp2_with fail
  go_loopw [1, 5] (fun kk i wr => ∃ (j : Nat), i = .int .i64 j ∧ kk = .int .i64 ((k + cntLs cntSeatN (L.take j) : Nat) : Int) ∧ j ≤ L.length ∧ Hid (OwR seatNS wr (.slice ad L.length cap) (mixLs mkSeatN cntSeatN L k j) bs) ∧ Hid (TurnB bs w wr)) (fun _ i _ => L.length - (intOf i).toNat)
  case atStart => exact ⟨0, rfl, by simp [cntLs], Nat.zero_le _, HO0, TurnB.refl _ _⟩
  case round =>
    clear HO0
    obtain ⟨j, rfl, rfl, hj, HO, HT⟩ := hrel
    by_cases hlt : j < L.length
    · have hct := cnt_take cntSeatN L j hlt
      have hcl := cnt_le cntSeatN L (j + 1)
      have hst := mix_step mkSeatN cntSeatN L k j hlt
      have hat := mix_at mkSeatN cntSeatN L k j hlt (by rw [mix_len _ _ L k j hj]; exact hlt)
      have hml := mix_len mkSeatN cntSeatN L k j hj
      obtain ⟨d, hd⟩ : ∃ d, d = L[j] := ⟨_, rfl⟩
      rw [← hd] at hct hst hat
      obtain ⟨K, hK⟩ : ∃ K : Nat, K = k + cntLs cntSeatN (L.take j) := ⟨_, rfl⟩
      rw [← hK] at hst ⊢
      obtain ⟨M, hM⟩ : ∃ M, M = mixLs mkSeatN cntSeatN L k j := ⟨_, rfl⟩
      rw [← hM] at hst hml
      have HOa : Hid (OwR seatNS wr (.slice ad L.length cap) M bs) := by show OwR _ _ _ _ _; rw [hM]; exact HO.out
      have HAT : Hid (∀ h : j < M.length, M[j] = d) := fun h => by subst hM; exact hat
      have hKc : K + cntSeatN d = k + cntLs cntSeatN (L.take (j + 1)) := by omega
      have HKC := hide hKc
      have hKb : K + cntSeatN d ≤ 1000000000 := by omega
      unfold cntSeatN at hKb
      have HST := hide hst
      have hjM : j < M.length := by omega
      have HTa := hide HT.out
      clear hct hcl hst hat hM HO hd hK hKc HT
      obtain ⟨g0, c0, cs, bb, e1, hgl0, hgm, hgb, hsub, hbn, hown, hcell, hfr, _, hkeep, hsets⟩ := HOa.out.put HN.out j (by simpa using hjM)
      have eq0 : (M)[j]'(by simpa using hjM) = d := HAT.out hjM
      rw [eq0] at hown
      obtain ⟨rfl, f0, f1, hbb⟩ := hown
      simp only [Value.slice.injEq] at e1
      obtain ⟨rfl, -, -⟩ := e1
      have c0_0 : wr.cell? ⟨g0, j * 16, none⟩ = some (.int .i64 d.cn.reg.lim) := hcell 0 _ rfl
      have c0_1 : wr.cell? ⟨g0, j * 16 + 1, none⟩ = some (.int .i64 d.cn.reg.top) := hcell 1 _ rfl
      have c0_2 : wr.cell? ⟨g0, j * 16 + 2, none⟩ = some (.slice none 0 0) := hcell 2 _ rfl
      have fz0 := fun q => hfr q
      have HOn0 : Hid (OwR seatNS (setsFrom wr g0 (j * seatNS.size + ([] : List Value).length) [.int .i64 ((K : Nat) : Int), .int .i64 ((K + 1 : Nat) : Int)]) _ ((M).set j ⟨⟨⟨((K : Nat) : Int), ((K + 1 : Nat) : Int)⟩, ⟨d.cn.inT.room⟩, ⟨d.cn.outT.room⟩, d.cn.get, d.cn.give, d.cn.first, d.cn.away, d.cn.dead⟩, d.rest, d.out, d.bad⟩) bs) := hsets [] [.int .i64 d.cn.reg.lim, .int .i64 d.cn.reg.top] [.slice none 0 0, .int .i64 d.cn.inT.room, .slice none 0 0, .int .i64 d.cn.outT.room, .slice none 0 0, .int .i64 d.cn.get, .int .i64 d.cn.give, .int .i64 d.cn.first, .slice none 0 0, .bool d.cn.away, .bool d.cn.dead, .string d.rest, .string d.out, .bool d.bad] [.int .i64 ((K : Nat) : Int), .int .i64 ((K + 1 : Nat) : Int)] ⟨⟨⟨((K : Nat) : Int), ((K + 1 : Nat) : Int)⟩, ⟨d.cn.inT.room⟩, ⟨d.cn.outT.room⟩, d.cn.get, d.cn.give, d.cn.first, d.cn.away, d.cn.dead⟩, d.rest, d.out, d.bad⟩ rfl rfl ⟨rfl, f0, f1, hbb⟩
      have HTn0 : Hid (TurnB bs w (setsFrom wr g0 (j * seatNS.size + ([] : List Value).length) [.int .i64 ((K : Nat) : Int), .int .i64 ((K + 1 : Nat) : Int)])) := TurnB.setsFrom g0 hgm _ _ _ HTa.out
      change Hid (OwR seatNS ((wr.setCell ⟨g0, j * 16, none⟩ (.int .i64 ((K : Int)))).setCell ⟨g0, j * 16 + 1, none⟩ (.int .i64 ((K : Int) + 1))) _ _ _) at HOn0
      change Hid (TurnB bs w ((wr.setCell ⟨g0, j * 16, none⟩ (.int .i64 ((K : Int)))).setCell ⟨g0, j * 16 + 1, none⟩ (.int .i64 ((K : Int) + 1)))) at HTn0
      clear hcell hkeep hsets hsub hbn hgb hbb eq0 hfr
      go_wp2_with fail
      clear c0_0 c0_1 c0_2 fz0
      generalize ((wr.setCell ⟨g0, j * 16, none⟩ (.int .i64 ((K : Int)))).setCell ⟨g0, j * 16 + 1, none⟩ (.int .i64 ((K : Int) + 1))) = V0 at *
      refine (show Calls _ _ #[.slice none 0 0, .int .i64 ((K : Int) + 1 + 1)] _ _ from nilMarkEntry (K + 1 + 1) _ (by omega)).mono ?_
      rintro x X1 ⟨rfl, hbx⟩
      have HOx1 := hide (HOn0.out.keep hbx.size (fun b hb => hbx.block b (HOn0.out.lt b hb)))
      have HTx1 := hide (HTn0.out.trans (TurnB.new hbx))
      clear hbx
      obtain ⟨g2, c2, cs, bb, e1, hgl2, hgm, hgb, hsub, hbn, hown, hcell, hfr, _, hkeep, hsets⟩ := HOx1.out.put HN.out j (by simpa using hjM)
      have eq2 : ((M).set j ⟨⟨⟨((K : Nat) : Int), ((K + 1 : Nat) : Int)⟩, ⟨d.cn.inT.room⟩, ⟨d.cn.outT.room⟩, d.cn.get, d.cn.give, d.cn.first, d.cn.away, d.cn.dead⟩, d.rest, d.out, d.bad⟩)[j]'(by simpa using hjM) = ⟨⟨⟨((K : Nat) : Int), ((K + 1 : Nat) : Int)⟩, ⟨d.cn.inT.room⟩, ⟨d.cn.outT.room⟩, d.cn.get, d.cn.give, d.cn.first, d.cn.away, d.cn.dead⟩, d.rest, d.out, d.bad⟩ := by simp
      rw [eq2] at hown
      obtain ⟨rfl, f0, f1, hbb⟩ := hown
      simp only [Value.slice.injEq, Option.some.injEq, Addr.mk.injEq] at e1
      obtain ⟨⟨rfl, -, -⟩, -, -⟩ := e1
      have c2_3 : X1.cell? ⟨g0, j * 16 + 3, none⟩ = some (.int .i64 d.cn.inT.room) := hcell 3 _ rfl
      have c2_4 : X1.cell? ⟨g0, j * 16 + 3 + 1, none⟩ = some (.slice none 0 0) := hcell 4 _ rfl
      have fz2 := fun q => hfr q
      have HOn2 : Hid (OwR seatNS (setsFrom X1 g0 (j * seatNS.size + ([.int .i64 ((K : Nat) : Int), .int .i64 ((K + 1 : Nat) : Int), .slice none 0 0] : List Value).length) [.int .i64 ((K + 1 + 1 : Nat) : Int)]) _ (((M).set j ⟨⟨⟨((K : Nat) : Int), ((K + 1 : Nat) : Int)⟩, ⟨d.cn.inT.room⟩, ⟨d.cn.outT.room⟩, d.cn.get, d.cn.give, d.cn.first, d.cn.away, d.cn.dead⟩, d.rest, d.out, d.bad⟩).set j ⟨⟨⟨((K : Nat) : Int), ((K + 1 : Nat) : Int)⟩, ⟨((K + 1 + 1 : Nat) : Int)⟩, ⟨d.cn.outT.room⟩, d.cn.get, d.cn.give, d.cn.first, d.cn.away, d.cn.dead⟩, d.rest, d.out, d.bad⟩) bs) := hsets [.int .i64 ((K : Nat) : Int), .int .i64 ((K + 1 : Nat) : Int), .slice none 0 0] [.int .i64 d.cn.inT.room] [.slice none 0 0, .int .i64 d.cn.outT.room, .slice none 0 0, .int .i64 d.cn.get, .int .i64 d.cn.give, .int .i64 d.cn.first, .slice none 0 0, .bool d.cn.away, .bool d.cn.dead, .string d.rest, .string d.out, .bool d.bad] [.int .i64 ((K + 1 + 1 : Nat) : Int)] ⟨⟨⟨((K : Nat) : Int), ((K + 1 : Nat) : Int)⟩, ⟨((K + 1 + 1 : Nat) : Int)⟩, ⟨d.cn.outT.room⟩, d.cn.get, d.cn.give, d.cn.first, d.cn.away, d.cn.dead⟩, d.rest, d.out, d.bad⟩ rfl rfl ⟨rfl, f0, f1, hbb⟩
      have HTn2 : Hid (TurnB bs w (setsFrom X1 g0 (j * seatNS.size + ([.int .i64 ((K : Nat) : Int), .int .i64 ((K + 1 : Nat) : Int), .slice none 0 0] : List Value).length) [.int .i64 ((K + 1 + 1 : Nat) : Int)])) := TurnB.setsFrom g0 hgm _ _ _ HTx1.out
      change Hid (OwR seatNS (X1.setCell ⟨g0, j * 16 + 3, none⟩ (.int .i64 ((K : Int) + 1 + 1))) _ _ _) at HOn2
      change Hid (TurnB bs w (X1.setCell ⟨g0, j * 16 + 3, none⟩ (.int .i64 ((K : Int) + 1 + 1)))) at HTn2
      clear hcell hkeep hsets hsub hbn hgb hbb eq2 hfr
      go_wp2_with fail
      clear c2_3 c2_4 fz2
      generalize (X1.setCell ⟨g0, j * 16 + 3, none⟩ (.int .i64 ((K : Int) + 1 + 1))) = V2 at *
      refine (show Calls _ _ #[.slice none 0 0, .int .i64 ((K : Int) + 1 + 1 + 1)] _ _ from nilMarkField (K + 1 + 1 + 1) _ (by omega)).mono ?_
      rintro x X3 ⟨rfl, hbx⟩
      have HOx3 := hide (HOn2.out.keep hbx.size (fun b hb => hbx.block b (HOn2.out.lt b hb)))
      have HTx3 := hide (HTn2.out.trans (TurnB.new hbx))
      clear hbx
      obtain ⟨g4, c4, cs, bb, e1, hgl4, hgm, hgb, hsub, hbn, hown, hcell, hfr, _, hkeep, hsets⟩ := HOx3.out.put HN.out j (by simpa using hjM)
      have eq4 : (((M).set j ⟨⟨⟨((K : Nat) : Int), ((K + 1 : Nat) : Int)⟩, ⟨d.cn.inT.room⟩, ⟨d.cn.outT.room⟩, d.cn.get, d.cn.give, d.cn.first, d.cn.away, d.cn.dead⟩, d.rest, d.out, d.bad⟩).set j ⟨⟨⟨((K : Nat) : Int), ((K + 1 : Nat) : Int)⟩, ⟨((K + 1 + 1 : Nat) : Int)⟩, ⟨d.cn.outT.room⟩, d.cn.get, d.cn.give, d.cn.first, d.cn.away, d.cn.dead⟩, d.rest, d.out, d.bad⟩)[j]'(by simpa using hjM) = ⟨⟨⟨((K : Nat) : Int), ((K + 1 : Nat) : Int)⟩, ⟨((K + 1 + 1 : Nat) : Int)⟩, ⟨d.cn.outT.room⟩, d.cn.get, d.cn.give, d.cn.first, d.cn.away, d.cn.dead⟩, d.rest, d.out, d.bad⟩ := by simp
      rw [eq4] at hown
      obtain ⟨rfl, f0, f1, hbb⟩ := hown
      simp only [Value.slice.injEq, Option.some.injEq, Addr.mk.injEq] at e1
      obtain ⟨⟨rfl, -, -⟩, -, -⟩ := e1
      have c4_5 : X3.cell? ⟨g0, j * 16 + 5, none⟩ = some (.int .i64 d.cn.outT.room) := hcell 5 _ rfl
      have c4_6 : X3.cell? ⟨g0, j * 16 + 5 + 1, none⟩ = some (.slice none 0 0) := hcell 6 _ rfl
      have fz4 := fun q => hfr q
      have HOn4 : Hid (OwR seatNS (setsFrom X3 g0 (j * seatNS.size + ([.int .i64 ((K : Nat) : Int), .int .i64 ((K + 1 : Nat) : Int), .slice none 0 0, .int .i64 ((K + 1 + 1 : Nat) : Int), .slice none 0 0] : List Value).length) [.int .i64 ((K + 1 + 1 + 1 : Nat) : Int)]) _ ((((M).set j ⟨⟨⟨((K : Nat) : Int), ((K + 1 : Nat) : Int)⟩, ⟨d.cn.inT.room⟩, ⟨d.cn.outT.room⟩, d.cn.get, d.cn.give, d.cn.first, d.cn.away, d.cn.dead⟩, d.rest, d.out, d.bad⟩).set j ⟨⟨⟨((K : Nat) : Int), ((K + 1 : Nat) : Int)⟩, ⟨((K + 1 + 1 : Nat) : Int)⟩, ⟨d.cn.outT.room⟩, d.cn.get, d.cn.give, d.cn.first, d.cn.away, d.cn.dead⟩, d.rest, d.out, d.bad⟩).set j ⟨⟨⟨((K : Nat) : Int), ((K + 1 : Nat) : Int)⟩, ⟨((K + 1 + 1 : Nat) : Int)⟩, ⟨((K + 1 + 1 + 1 : Nat) : Int)⟩, d.cn.get, d.cn.give, d.cn.first, d.cn.away, d.cn.dead⟩, d.rest, d.out, d.bad⟩) bs) := hsets [.int .i64 ((K : Nat) : Int), .int .i64 ((K + 1 : Nat) : Int), .slice none 0 0, .int .i64 ((K + 1 + 1 : Nat) : Int), .slice none 0 0] [.int .i64 d.cn.outT.room] [.slice none 0 0, .int .i64 d.cn.get, .int .i64 d.cn.give, .int .i64 d.cn.first, .slice none 0 0, .bool d.cn.away, .bool d.cn.dead, .string d.rest, .string d.out, .bool d.bad] [.int .i64 ((K + 1 + 1 + 1 : Nat) : Int)] ⟨⟨⟨((K : Nat) : Int), ((K + 1 : Nat) : Int)⟩, ⟨((K + 1 + 1 : Nat) : Int)⟩, ⟨((K + 1 + 1 + 1 : Nat) : Int)⟩, d.cn.get, d.cn.give, d.cn.first, d.cn.away, d.cn.dead⟩, d.rest, d.out, d.bad⟩ rfl rfl ⟨rfl, f0, f1, hbb⟩
      have HTn4 : Hid (TurnB bs w (setsFrom X3 g0 (j * seatNS.size + ([.int .i64 ((K : Nat) : Int), .int .i64 ((K + 1 : Nat) : Int), .slice none 0 0, .int .i64 ((K + 1 + 1 : Nat) : Int), .slice none 0 0] : List Value).length) [.int .i64 ((K + 1 + 1 + 1 : Nat) : Int)])) := TurnB.setsFrom g0 hgm _ _ _ HTx3.out
      change Hid (OwR seatNS (X3.setCell ⟨g0, j * 16 + 5, none⟩ (.int .i64 ((K : Int) + 1 + 1 + 1))) _ _ _) at HOn4
      change Hid (TurnB bs w (X3.setCell ⟨g0, j * 16 + 5, none⟩ (.int .i64 ((K : Int) + 1 + 1 + 1)))) at HTn4
      clear hcell hkeep hsets hsub hbn hgb hbb eq4 hfr
      go_wp2_with fail
      clear c4_5 c4_6 fz4
      generalize (X3.setCell ⟨g0, j * 16 + 5, none⟩ (.int .i64 ((K : Int) + 1 + 1 + 1))) = V4 at *
      refine (show Calls _ _ #[.slice none 0 0, .int .i64 ((K : Int) + 1 + 1 + 1 + 1)] _ _ from nilMarkField (K + 1 + 1 + 1 + 1) _ (by omega)).mono ?_
      rintro x X5 ⟨rfl, hbx⟩
      have HOx5 := hide (HOn4.out.keep hbx.size (fun b hb => hbx.block b (HOn4.out.lt b hb)))
      have HTx5 := hide (HTn4.out.trans (TurnB.new hbx))
      clear hbx
      obtain ⟨g6, c6, cs, bb, e1, hgl6, hgm, hgb, hsub, hbn, hown, hcell, hfr, _, hkeep, hsets⟩ := HOx5.out.put HN.out j (by simpa using hjM)
      have eq6 : ((((M).set j ⟨⟨⟨((K : Nat) : Int), ((K + 1 : Nat) : Int)⟩, ⟨d.cn.inT.room⟩, ⟨d.cn.outT.room⟩, d.cn.get, d.cn.give, d.cn.first, d.cn.away, d.cn.dead⟩, d.rest, d.out, d.bad⟩).set j ⟨⟨⟨((K : Nat) : Int), ((K + 1 : Nat) : Int)⟩, ⟨((K + 1 + 1 : Nat) : Int)⟩, ⟨d.cn.outT.room⟩, d.cn.get, d.cn.give, d.cn.first, d.cn.away, d.cn.dead⟩, d.rest, d.out, d.bad⟩).set j ⟨⟨⟨((K : Nat) : Int), ((K + 1 : Nat) : Int)⟩, ⟨((K + 1 + 1 : Nat) : Int)⟩, ⟨((K + 1 + 1 + 1 : Nat) : Int)⟩, d.cn.get, d.cn.give, d.cn.first, d.cn.away, d.cn.dead⟩, d.rest, d.out, d.bad⟩)[j]'(by simpa using hjM) = ⟨⟨⟨((K : Nat) : Int), ((K + 1 : Nat) : Int)⟩, ⟨((K + 1 + 1 : Nat) : Int)⟩, ⟨((K + 1 + 1 + 1 : Nat) : Int)⟩, d.cn.get, d.cn.give, d.cn.first, d.cn.away, d.cn.dead⟩, d.rest, d.out, d.bad⟩ := by simp
      rw [eq6] at hown
      obtain ⟨rfl, f0, f1, hbb⟩ := hown
      simp only [Value.slice.injEq, Option.some.injEq, Addr.mk.injEq] at e1
      obtain ⟨⟨rfl, -, -⟩, -, -⟩ := e1
      have c6_7 : X5.cell? ⟨g0, j * 16 + 7, none⟩ = some (.int .i64 d.cn.get) := hcell 7 _ rfl
      have c6_8 : X5.cell? ⟨g0, j * 16 + 8, none⟩ = some (.int .i64 d.cn.give) := hcell 8 _ rfl
      have c6_9 : X5.cell? ⟨g0, j * 16 + 9, none⟩ = some (.int .i64 d.cn.first) := hcell 9 _ rfl
      have c6_10 : X5.cell? ⟨g0, j * 16 + 10, none⟩ = some (.slice none 0 0) := hcell 10 _ rfl
      have fz6 := fun q => hfr q
      have HOn6 : Hid (OwR seatNS (setsFrom X5 g0 (j * seatNS.size + ([.int .i64 ((K : Nat) : Int), .int .i64 ((K + 1 : Nat) : Int), .slice none 0 0, .int .i64 ((K + 1 + 1 : Nat) : Int), .slice none 0 0, .int .i64 ((K + 1 + 1 + 1 : Nat) : Int), .slice none 0 0] : List Value).length) [.int .i64 ((K + 1 + 1 + 1 + 1 : Nat) : Int), .int .i64 ((K + 1 + 1 + 1 + 1 + 1 : Nat) : Int), .int .i64 ((K + 1 + 1 + 1 + 1 + 1 + 1 : Nat) : Int)]) _ (((((M).set j ⟨⟨⟨((K : Nat) : Int), ((K + 1 : Nat) : Int)⟩, ⟨d.cn.inT.room⟩, ⟨d.cn.outT.room⟩, d.cn.get, d.cn.give, d.cn.first, d.cn.away, d.cn.dead⟩, d.rest, d.out, d.bad⟩).set j ⟨⟨⟨((K : Nat) : Int), ((K + 1 : Nat) : Int)⟩, ⟨((K + 1 + 1 : Nat) : Int)⟩, ⟨d.cn.outT.room⟩, d.cn.get, d.cn.give, d.cn.first, d.cn.away, d.cn.dead⟩, d.rest, d.out, d.bad⟩).set j ⟨⟨⟨((K : Nat) : Int), ((K + 1 : Nat) : Int)⟩, ⟨((K + 1 + 1 : Nat) : Int)⟩, ⟨((K + 1 + 1 + 1 : Nat) : Int)⟩, d.cn.get, d.cn.give, d.cn.first, d.cn.away, d.cn.dead⟩, d.rest, d.out, d.bad⟩).set j ⟨⟨⟨((K : Nat) : Int), ((K + 1 : Nat) : Int)⟩, ⟨((K + 1 + 1 : Nat) : Int)⟩, ⟨((K + 1 + 1 + 1 : Nat) : Int)⟩, ((K + 1 + 1 + 1 + 1 : Nat) : Int), ((K + 1 + 1 + 1 + 1 + 1 : Nat) : Int), ((K + 1 + 1 + 1 + 1 + 1 + 1 : Nat) : Int), d.cn.away, d.cn.dead⟩, d.rest, d.out, d.bad⟩) bs) := hsets [.int .i64 ((K : Nat) : Int), .int .i64 ((K + 1 : Nat) : Int), .slice none 0 0, .int .i64 ((K + 1 + 1 : Nat) : Int), .slice none 0 0, .int .i64 ((K + 1 + 1 + 1 : Nat) : Int), .slice none 0 0] [.int .i64 d.cn.get, .int .i64 d.cn.give, .int .i64 d.cn.first] [.slice none 0 0, .bool d.cn.away, .bool d.cn.dead, .string d.rest, .string d.out, .bool d.bad] [.int .i64 ((K + 1 + 1 + 1 + 1 : Nat) : Int), .int .i64 ((K + 1 + 1 + 1 + 1 + 1 : Nat) : Int), .int .i64 ((K + 1 + 1 + 1 + 1 + 1 + 1 : Nat) : Int)] ⟨⟨⟨((K : Nat) : Int), ((K + 1 : Nat) : Int)⟩, ⟨((K + 1 + 1 : Nat) : Int)⟩, ⟨((K + 1 + 1 + 1 : Nat) : Int)⟩, ((K + 1 + 1 + 1 + 1 : Nat) : Int), ((K + 1 + 1 + 1 + 1 + 1 : Nat) : Int), ((K + 1 + 1 + 1 + 1 + 1 + 1 : Nat) : Int), d.cn.away, d.cn.dead⟩, d.rest, d.out, d.bad⟩ rfl rfl ⟨rfl, f0, f1, hbb⟩
      have HTn6 : Hid (TurnB bs w (setsFrom X5 g0 (j * seatNS.size + ([.int .i64 ((K : Nat) : Int), .int .i64 ((K + 1 : Nat) : Int), .slice none 0 0, .int .i64 ((K + 1 + 1 : Nat) : Int), .slice none 0 0, .int .i64 ((K + 1 + 1 + 1 : Nat) : Int), .slice none 0 0] : List Value).length) [.int .i64 ((K + 1 + 1 + 1 + 1 : Nat) : Int), .int .i64 ((K + 1 + 1 + 1 + 1 + 1 : Nat) : Int), .int .i64 ((K + 1 + 1 + 1 + 1 + 1 + 1 : Nat) : Int)])) := TurnB.setsFrom g0 hgm _ _ _ HTx5.out
      change Hid (OwR seatNS (((X5.setCell ⟨g0, j * 16 + 7, none⟩ (.int .i64 ((K : Int) + 1 + 1 + 1 + 1))).setCell ⟨g0, j * 16 + 8, none⟩ (.int .i64 ((K : Int) + 1 + 1 + 1 + 1 + 1))).setCell ⟨g0, j * 16 + 9, none⟩ (.int .i64 ((K : Int) + 1 + 1 + 1 + 1 + 1 + 1))) _ _ _) at HOn6
      change Hid (TurnB bs w (((X5.setCell ⟨g0, j * 16 + 7, none⟩ (.int .i64 ((K : Int) + 1 + 1 + 1 + 1))).setCell ⟨g0, j * 16 + 8, none⟩ (.int .i64 ((K : Int) + 1 + 1 + 1 + 1 + 1))).setCell ⟨g0, j * 16 + 9, none⟩ (.int .i64 ((K : Int) + 1 + 1 + 1 + 1 + 1 + 1)))) at HTn6
      clear hcell hkeep hsets hsub hbn hgb hbb eq6 hfr
      go_wp2_with fail
      clear c6_7 c6_8 c6_9 c6_10 fz6
      generalize (((X5.setCell ⟨g0, j * 16 + 7, none⟩ (.int .i64 ((K : Int) + 1 + 1 + 1 + 1))).setCell ⟨g0, j * 16 + 8, none⟩ (.int .i64 ((K : Int) + 1 + 1 + 1 + 1 + 1))).setCell ⟨g0, j * 16 + 9, none⟩ (.int .i64 ((K : Int) + 1 + 1 + 1 + 1 + 1 + 1))) = V6 at *
      refine (show Calls _ _ #[.slice none 0 0, .int .i64 ((K : Int) + 1 + 1 + 1 + 1 + 1 + 1 + 1)] _ _ from nilMarkFlow (K + 1 + 1 + 1 + 1 + 1 + 1 + 1) _ (by omega)).mono ?_
      rintro x X7 ⟨rfl, hbx⟩
      have HOx7 := hide (HOn6.out.keep hbx.size (fun b hb => hbx.block b (HOn6.out.lt b hb)))
      have HTx7 := hide (HTn6.out.trans (TurnB.new hbx))
      clear hbx
      obtain ⟨g8, c8, cs, bb, e1, hgl8, hgm, hgb, hsub, hbn, hown, hcell, hfr, _, hkeep, hsets⟩ := HOx7.out.put HN.out j (by simpa using hjM)
      have eq8 : (((((M).set j ⟨⟨⟨((K : Nat) : Int), ((K + 1 : Nat) : Int)⟩, ⟨d.cn.inT.room⟩, ⟨d.cn.outT.room⟩, d.cn.get, d.cn.give, d.cn.first, d.cn.away, d.cn.dead⟩, d.rest, d.out, d.bad⟩).set j ⟨⟨⟨((K : Nat) : Int), ((K + 1 : Nat) : Int)⟩, ⟨((K + 1 + 1 : Nat) : Int)⟩, ⟨d.cn.outT.room⟩, d.cn.get, d.cn.give, d.cn.first, d.cn.away, d.cn.dead⟩, d.rest, d.out, d.bad⟩).set j ⟨⟨⟨((K : Nat) : Int), ((K + 1 : Nat) : Int)⟩, ⟨((K + 1 + 1 : Nat) : Int)⟩, ⟨((K + 1 + 1 + 1 : Nat) : Int)⟩, d.cn.get, d.cn.give, d.cn.first, d.cn.away, d.cn.dead⟩, d.rest, d.out, d.bad⟩).set j ⟨⟨⟨((K : Nat) : Int), ((K + 1 : Nat) : Int)⟩, ⟨((K + 1 + 1 : Nat) : Int)⟩, ⟨((K + 1 + 1 + 1 : Nat) : Int)⟩, ((K + 1 + 1 + 1 + 1 : Nat) : Int), ((K + 1 + 1 + 1 + 1 + 1 : Nat) : Int), ((K + 1 + 1 + 1 + 1 + 1 + 1 : Nat) : Int), d.cn.away, d.cn.dead⟩, d.rest, d.out, d.bad⟩)[j]'(by simpa using hjM) = ⟨⟨⟨((K : Nat) : Int), ((K + 1 : Nat) : Int)⟩, ⟨((K + 1 + 1 : Nat) : Int)⟩, ⟨((K + 1 + 1 + 1 : Nat) : Int)⟩, ((K + 1 + 1 + 1 + 1 : Nat) : Int), ((K + 1 + 1 + 1 + 1 + 1 : Nat) : Int), ((K + 1 + 1 + 1 + 1 + 1 + 1 : Nat) : Int), d.cn.away, d.cn.dead⟩, d.rest, d.out, d.bad⟩ := by simp
      rw [eq8] at hown
      obtain ⟨rfl, f0, f1, hbb⟩ := hown
      simp only [Value.slice.injEq, Option.some.injEq, Addr.mk.injEq] at e1
      obtain ⟨⟨rfl, -, -⟩, -, -⟩ := e1
      have c8_11 : X7.cell? ⟨g0, j * 16 + 11, none⟩ = some (.bool d.cn.away) := hcell 11 _ rfl
      have c8_12 : X7.cell? ⟨g0, j * 16 + 12, none⟩ = some (.bool d.cn.dead) := hcell 12 _ rfl
      have fz8 := fun q => hfr q
      have HOn8 : Hid (OwR seatNS (setsFrom X7 g0 (j * seatNS.size + ([.int .i64 ((K : Nat) : Int), .int .i64 ((K + 1 : Nat) : Int), .slice none 0 0, .int .i64 ((K + 1 + 1 : Nat) : Int), .slice none 0 0, .int .i64 ((K + 1 + 1 + 1 : Nat) : Int), .slice none 0 0, .int .i64 ((K + 1 + 1 + 1 + 1 : Nat) : Int), .int .i64 ((K + 1 + 1 + 1 + 1 + 1 : Nat) : Int), .int .i64 ((K + 1 + 1 + 1 + 1 + 1 + 1 : Nat) : Int), .slice none 0 0] : List Value).length) [.bool (decide ((K + 1 + 1 + 1 + 1 + 1 + 1 + 1) % 3 = 0)), .bool (decide ((K + 1 + 1 + 1 + 1 + 1 + 1 + 1 + 1) % 3 = 0))]) _ ((((((M).set j ⟨⟨⟨((K : Nat) : Int), ((K + 1 : Nat) : Int)⟩, ⟨d.cn.inT.room⟩, ⟨d.cn.outT.room⟩, d.cn.get, d.cn.give, d.cn.first, d.cn.away, d.cn.dead⟩, d.rest, d.out, d.bad⟩).set j ⟨⟨⟨((K : Nat) : Int), ((K + 1 : Nat) : Int)⟩, ⟨((K + 1 + 1 : Nat) : Int)⟩, ⟨d.cn.outT.room⟩, d.cn.get, d.cn.give, d.cn.first, d.cn.away, d.cn.dead⟩, d.rest, d.out, d.bad⟩).set j ⟨⟨⟨((K : Nat) : Int), ((K + 1 : Nat) : Int)⟩, ⟨((K + 1 + 1 : Nat) : Int)⟩, ⟨((K + 1 + 1 + 1 : Nat) : Int)⟩, d.cn.get, d.cn.give, d.cn.first, d.cn.away, d.cn.dead⟩, d.rest, d.out, d.bad⟩).set j ⟨⟨⟨((K : Nat) : Int), ((K + 1 : Nat) : Int)⟩, ⟨((K + 1 + 1 : Nat) : Int)⟩, ⟨((K + 1 + 1 + 1 : Nat) : Int)⟩, ((K + 1 + 1 + 1 + 1 : Nat) : Int), ((K + 1 + 1 + 1 + 1 + 1 : Nat) : Int), ((K + 1 + 1 + 1 + 1 + 1 + 1 : Nat) : Int), d.cn.away, d.cn.dead⟩, d.rest, d.out, d.bad⟩).set j ⟨⟨⟨((K : Nat) : Int), ((K + 1 : Nat) : Int)⟩, ⟨((K + 1 + 1 : Nat) : Int)⟩, ⟨((K + 1 + 1 + 1 : Nat) : Int)⟩, ((K + 1 + 1 + 1 + 1 : Nat) : Int), ((K + 1 + 1 + 1 + 1 + 1 : Nat) : Int), ((K + 1 + 1 + 1 + 1 + 1 + 1 : Nat) : Int), (decide ((K + 1 + 1 + 1 + 1 + 1 + 1 + 1) % 3 = 0)), (decide ((K + 1 + 1 + 1 + 1 + 1 + 1 + 1 + 1) % 3 = 0))⟩, d.rest, d.out, d.bad⟩) bs) := hsets [.int .i64 ((K : Nat) : Int), .int .i64 ((K + 1 : Nat) : Int), .slice none 0 0, .int .i64 ((K + 1 + 1 : Nat) : Int), .slice none 0 0, .int .i64 ((K + 1 + 1 + 1 : Nat) : Int), .slice none 0 0, .int .i64 ((K + 1 + 1 + 1 + 1 : Nat) : Int), .int .i64 ((K + 1 + 1 + 1 + 1 + 1 : Nat) : Int), .int .i64 ((K + 1 + 1 + 1 + 1 + 1 + 1 : Nat) : Int), .slice none 0 0] [.bool d.cn.away, .bool d.cn.dead] [.string d.rest, .string d.out, .bool d.bad] [.bool (decide ((K + 1 + 1 + 1 + 1 + 1 + 1 + 1) % 3 = 0)), .bool (decide ((K + 1 + 1 + 1 + 1 + 1 + 1 + 1 + 1) % 3 = 0))] ⟨⟨⟨((K : Nat) : Int), ((K + 1 : Nat) : Int)⟩, ⟨((K + 1 + 1 : Nat) : Int)⟩, ⟨((K + 1 + 1 + 1 : Nat) : Int)⟩, ((K + 1 + 1 + 1 + 1 : Nat) : Int), ((K + 1 + 1 + 1 + 1 + 1 : Nat) : Int), ((K + 1 + 1 + 1 + 1 + 1 + 1 : Nat) : Int), (decide ((K + 1 + 1 + 1 + 1 + 1 + 1 + 1) % 3 = 0)), (decide ((K + 1 + 1 + 1 + 1 + 1 + 1 + 1 + 1) % 3 = 0))⟩, d.rest, d.out, d.bad⟩ rfl rfl ⟨rfl, f0, f1, hbb⟩
      have HTn8 : Hid (TurnB bs w (setsFrom X7 g0 (j * seatNS.size + ([.int .i64 ((K : Nat) : Int), .int .i64 ((K + 1 : Nat) : Int), .slice none 0 0, .int .i64 ((K + 1 + 1 : Nat) : Int), .slice none 0 0, .int .i64 ((K + 1 + 1 + 1 : Nat) : Int), .slice none 0 0, .int .i64 ((K + 1 + 1 + 1 + 1 : Nat) : Int), .int .i64 ((K + 1 + 1 + 1 + 1 + 1 : Nat) : Int), .int .i64 ((K + 1 + 1 + 1 + 1 + 1 + 1 : Nat) : Int), .slice none 0 0] : List Value).length) [.bool (decide ((K + 1 + 1 + 1 + 1 + 1 + 1 + 1) % 3 = 0)), .bool (decide ((K + 1 + 1 + 1 + 1 + 1 + 1 + 1 + 1) % 3 = 0))])) := TurnB.setsFrom g0 hgm _ _ _ HTx7.out
      change Hid (OwR seatNS ((X7.setCell ⟨g0, j * 16 + 11, none⟩ (.bool (decide ((K + 1 + 1 + 1 + 1 + 1 + 1 + 1) % 3 = 0)))).setCell ⟨g0, j * 16 + 12, none⟩ (.bool (decide ((K + 1 + 1 + 1 + 1 + 1 + 1 + 1 + 1) % 3 = 0)))) _ _ _) at HOn8
      change Hid (TurnB bs w ((X7.setCell ⟨g0, j * 16 + 11, none⟩ (.bool (decide ((K + 1 + 1 + 1 + 1 + 1 + 1 + 1) % 3 = 0)))).setCell ⟨g0, j * 16 + 12, none⟩ (.bool (decide ((K + 1 + 1 + 1 + 1 + 1 + 1 + 1 + 1) % 3 = 0))))) at HTn8
      clear hcell hkeep hsets hsub hbn hgb hbb eq8 hfr
      have hbl22623 : (((K : Int) + 1 + 1 + 1 + 1 + 1 + 1 + 1) % 3 == 0) = decide ((K + 1 + 1 + 1 + 1 + 1 + 1 + 1) % 3 = 0) := boolmark _ _ (by omega)
      have hbl22774 : (((K : Int) + 1 + 1 + 1 + 1 + 1 + 1 + 1 + 1) % 3 == 0) = decide ((K + 1 + 1 + 1 + 1 + 1 + 1 + 1 + 1) % 3 = 0) := boolmark _ _ (by omega)
      go_wp2_with fail
      try simp only [hbl22623, hbl22774]
      clear hbl22623 hbl22774
      clear c8_11 c8_12 fz8
      generalize ((X7.setCell ⟨g0, j * 16 + 11, none⟩ (.bool (decide ((K + 1 + 1 + 1 + 1 + 1 + 1 + 1) % 3 = 0)))).setCell ⟨g0, j * 16 + 12, none⟩ (.bool (decide ((K + 1 + 1 + 1 + 1 + 1 + 1 + 1 + 1) % 3 = 0)))) = V8 at *
      refine (show Calls _ _ #[.int .i64 ((K : Int) + 1 + 1 + 1 + 1 + 1 + 1 + 1 + 1 + 1)] _ _ from markTx (K + 1 + 1 + 1 + 1 + 1 + 1 + 1 + 1 + 1) _ (by omega)).mono ?_
      rintro x X9 ⟨rfl, hbx⟩
      have HOx9 := hide (HOn8.out.keep hbx.size (fun b hb => hbx.block b (HOn8.out.lt b hb)))
      have HTx9 := hide (HTn8.out.trans (TurnB.new hbx))
      clear hbx
      obtain ⟨g10, c10, cs, bb, e1, hgl10, hgm, hgb, hsub, hbn, hown, hcell, hfr, _, hkeep, hsets⟩ := HOx9.out.put HN.out j (by simpa using hjM)
      have eq10 : ((((((M).set j ⟨⟨⟨((K : Nat) : Int), ((K + 1 : Nat) : Int)⟩, ⟨d.cn.inT.room⟩, ⟨d.cn.outT.room⟩, d.cn.get, d.cn.give, d.cn.first, d.cn.away, d.cn.dead⟩, d.rest, d.out, d.bad⟩).set j ⟨⟨⟨((K : Nat) : Int), ((K + 1 : Nat) : Int)⟩, ⟨((K + 1 + 1 : Nat) : Int)⟩, ⟨d.cn.outT.room⟩, d.cn.get, d.cn.give, d.cn.first, d.cn.away, d.cn.dead⟩, d.rest, d.out, d.bad⟩).set j ⟨⟨⟨((K : Nat) : Int), ((K + 1 : Nat) : Int)⟩, ⟨((K + 1 + 1 : Nat) : Int)⟩, ⟨((K + 1 + 1 + 1 : Nat) : Int)⟩, d.cn.get, d.cn.give, d.cn.first, d.cn.away, d.cn.dead⟩, d.rest, d.out, d.bad⟩).set j ⟨⟨⟨((K : Nat) : Int), ((K + 1 : Nat) : Int)⟩, ⟨((K + 1 + 1 : Nat) : Int)⟩, ⟨((K + 1 + 1 + 1 : Nat) : Int)⟩, ((K + 1 + 1 + 1 + 1 : Nat) : Int), ((K + 1 + 1 + 1 + 1 + 1 : Nat) : Int), ((K + 1 + 1 + 1 + 1 + 1 + 1 : Nat) : Int), d.cn.away, d.cn.dead⟩, d.rest, d.out, d.bad⟩).set j ⟨⟨⟨((K : Nat) : Int), ((K + 1 : Nat) : Int)⟩, ⟨((K + 1 + 1 : Nat) : Int)⟩, ⟨((K + 1 + 1 + 1 : Nat) : Int)⟩, ((K + 1 + 1 + 1 + 1 : Nat) : Int), ((K + 1 + 1 + 1 + 1 + 1 : Nat) : Int), ((K + 1 + 1 + 1 + 1 + 1 + 1 : Nat) : Int), (decide ((K + 1 + 1 + 1 + 1 + 1 + 1 + 1) % 3 = 0)), (decide ((K + 1 + 1 + 1 + 1 + 1 + 1 + 1 + 1) % 3 = 0))⟩, d.rest, d.out, d.bad⟩)[j]'(by simpa using hjM) = ⟨⟨⟨((K : Nat) : Int), ((K + 1 : Nat) : Int)⟩, ⟨((K + 1 + 1 : Nat) : Int)⟩, ⟨((K + 1 + 1 + 1 : Nat) : Int)⟩, ((K + 1 + 1 + 1 + 1 : Nat) : Int), ((K + 1 + 1 + 1 + 1 + 1 : Nat) : Int), ((K + 1 + 1 + 1 + 1 + 1 + 1 : Nat) : Int), (decide ((K + 1 + 1 + 1 + 1 + 1 + 1 + 1) % 3 = 0)), (decide ((K + 1 + 1 + 1 + 1 + 1 + 1 + 1 + 1) % 3 = 0))⟩, d.rest, d.out, d.bad⟩ := by simp
      rw [eq10] at hown
      obtain ⟨rfl, f0, f1, hbb⟩ := hown
      simp only [Value.slice.injEq, Option.some.injEq, Addr.mk.injEq] at e1
      obtain ⟨⟨rfl, -, -⟩, -, -⟩ := e1
      have c10_13 : X9.cell? ⟨g0, j * 16 + 13, none⟩ = some (.string d.rest) := hcell 13 _ rfl
      have fz10 := fun q => hfr q
      have HOn10 : Hid (OwR seatNS (setsFrom X9 g0 (j * seatNS.size + ([.int .i64 ((K : Nat) : Int), .int .i64 ((K + 1 : Nat) : Int), .slice none 0 0, .int .i64 ((K + 1 + 1 : Nat) : Int), .slice none 0 0, .int .i64 ((K + 1 + 1 + 1 : Nat) : Int), .slice none 0 0, .int .i64 ((K + 1 + 1 + 1 + 1 : Nat) : Int), .int .i64 ((K + 1 + 1 + 1 + 1 + 1 : Nat) : Int), .int .i64 ((K + 1 + 1 + 1 + 1 + 1 + 1 : Nat) : Int), .slice none 0 0, .bool (decide ((K + 1 + 1 + 1 + 1 + 1 + 1 + 1) % 3 = 0)), .bool (decide ((K + 1 + 1 + 1 + 1 + 1 + 1 + 1 + 1) % 3 = 0))] : List Value).length) [.string (mtx (K + 1 + 1 + 1 + 1 + 1 + 1 + 1 + 1 + 1))]) _ (((((((M).set j ⟨⟨⟨((K : Nat) : Int), ((K + 1 : Nat) : Int)⟩, ⟨d.cn.inT.room⟩, ⟨d.cn.outT.room⟩, d.cn.get, d.cn.give, d.cn.first, d.cn.away, d.cn.dead⟩, d.rest, d.out, d.bad⟩).set j ⟨⟨⟨((K : Nat) : Int), ((K + 1 : Nat) : Int)⟩, ⟨((K + 1 + 1 : Nat) : Int)⟩, ⟨d.cn.outT.room⟩, d.cn.get, d.cn.give, d.cn.first, d.cn.away, d.cn.dead⟩, d.rest, d.out, d.bad⟩).set j ⟨⟨⟨((K : Nat) : Int), ((K + 1 : Nat) : Int)⟩, ⟨((K + 1 + 1 : Nat) : Int)⟩, ⟨((K + 1 + 1 + 1 : Nat) : Int)⟩, d.cn.get, d.cn.give, d.cn.first, d.cn.away, d.cn.dead⟩, d.rest, d.out, d.bad⟩).set j ⟨⟨⟨((K : Nat) : Int), ((K + 1 : Nat) : Int)⟩, ⟨((K + 1 + 1 : Nat) : Int)⟩, ⟨((K + 1 + 1 + 1 : Nat) : Int)⟩, ((K + 1 + 1 + 1 + 1 : Nat) : Int), ((K + 1 + 1 + 1 + 1 + 1 : Nat) : Int), ((K + 1 + 1 + 1 + 1 + 1 + 1 : Nat) : Int), d.cn.away, d.cn.dead⟩, d.rest, d.out, d.bad⟩).set j ⟨⟨⟨((K : Nat) : Int), ((K + 1 : Nat) : Int)⟩, ⟨((K + 1 + 1 : Nat) : Int)⟩, ⟨((K + 1 + 1 + 1 : Nat) : Int)⟩, ((K + 1 + 1 + 1 + 1 : Nat) : Int), ((K + 1 + 1 + 1 + 1 + 1 : Nat) : Int), ((K + 1 + 1 + 1 + 1 + 1 + 1 : Nat) : Int), (decide ((K + 1 + 1 + 1 + 1 + 1 + 1 + 1) % 3 = 0)), (decide ((K + 1 + 1 + 1 + 1 + 1 + 1 + 1 + 1) % 3 = 0))⟩, d.rest, d.out, d.bad⟩).set j ⟨⟨⟨((K : Nat) : Int), ((K + 1 : Nat) : Int)⟩, ⟨((K + 1 + 1 : Nat) : Int)⟩, ⟨((K + 1 + 1 + 1 : Nat) : Int)⟩, ((K + 1 + 1 + 1 + 1 : Nat) : Int), ((K + 1 + 1 + 1 + 1 + 1 : Nat) : Int), ((K + 1 + 1 + 1 + 1 + 1 + 1 : Nat) : Int), (decide ((K + 1 + 1 + 1 + 1 + 1 + 1 + 1) % 3 = 0)), (decide ((K + 1 + 1 + 1 + 1 + 1 + 1 + 1 + 1) % 3 = 0))⟩, (mtx (K + 1 + 1 + 1 + 1 + 1 + 1 + 1 + 1 + 1)), d.out, d.bad⟩) bs) := hsets [.int .i64 ((K : Nat) : Int), .int .i64 ((K + 1 : Nat) : Int), .slice none 0 0, .int .i64 ((K + 1 + 1 : Nat) : Int), .slice none 0 0, .int .i64 ((K + 1 + 1 + 1 : Nat) : Int), .slice none 0 0, .int .i64 ((K + 1 + 1 + 1 + 1 : Nat) : Int), .int .i64 ((K + 1 + 1 + 1 + 1 + 1 : Nat) : Int), .int .i64 ((K + 1 + 1 + 1 + 1 + 1 + 1 : Nat) : Int), .slice none 0 0, .bool (decide ((K + 1 + 1 + 1 + 1 + 1 + 1 + 1) % 3 = 0)), .bool (decide ((K + 1 + 1 + 1 + 1 + 1 + 1 + 1 + 1) % 3 = 0))] [.string d.rest] [.string d.out, .bool d.bad] [.string (mtx (K + 1 + 1 + 1 + 1 + 1 + 1 + 1 + 1 + 1))] ⟨⟨⟨((K : Nat) : Int), ((K + 1 : Nat) : Int)⟩, ⟨((K + 1 + 1 : Nat) : Int)⟩, ⟨((K + 1 + 1 + 1 : Nat) : Int)⟩, ((K + 1 + 1 + 1 + 1 : Nat) : Int), ((K + 1 + 1 + 1 + 1 + 1 : Nat) : Int), ((K + 1 + 1 + 1 + 1 + 1 + 1 : Nat) : Int), (decide ((K + 1 + 1 + 1 + 1 + 1 + 1 + 1) % 3 = 0)), (decide ((K + 1 + 1 + 1 + 1 + 1 + 1 + 1 + 1) % 3 = 0))⟩, (mtx (K + 1 + 1 + 1 + 1 + 1 + 1 + 1 + 1 + 1)), d.out, d.bad⟩ rfl rfl ⟨rfl, (by have := mtx_size (K + 1 + 1 + 1 + 1 + 1 + 1 + 1 + 1 + 1); simp only; omega), f1, hbb⟩
      have HTn10 : Hid (TurnB bs w (setsFrom X9 g0 (j * seatNS.size + ([.int .i64 ((K : Nat) : Int), .int .i64 ((K + 1 : Nat) : Int), .slice none 0 0, .int .i64 ((K + 1 + 1 : Nat) : Int), .slice none 0 0, .int .i64 ((K + 1 + 1 + 1 : Nat) : Int), .slice none 0 0, .int .i64 ((K + 1 + 1 + 1 + 1 : Nat) : Int), .int .i64 ((K + 1 + 1 + 1 + 1 + 1 : Nat) : Int), .int .i64 ((K + 1 + 1 + 1 + 1 + 1 + 1 : Nat) : Int), .slice none 0 0, .bool (decide ((K + 1 + 1 + 1 + 1 + 1 + 1 + 1) % 3 = 0)), .bool (decide ((K + 1 + 1 + 1 + 1 + 1 + 1 + 1 + 1) % 3 = 0))] : List Value).length) [.string (mtx (K + 1 + 1 + 1 + 1 + 1 + 1 + 1 + 1 + 1))])) := TurnB.setsFrom g0 hgm _ _ _ HTx9.out
      change Hid (OwR seatNS (X9.setCell ⟨g0, j * 16 + 13, none⟩ (.string (mtx (K + 1 + 1 + 1 + 1 + 1 + 1 + 1 + 1 + 1)))) _ _ _) at HOn10
      change Hid (TurnB bs w (X9.setCell ⟨g0, j * 16 + 13, none⟩ (.string (mtx (K + 1 + 1 + 1 + 1 + 1 + 1 + 1 + 1 + 1))))) at HTn10
      clear hcell hkeep hsets hsub hbn hgb hbb eq10 hfr
      go_wp2_with fail
      clear c10_13 fz10
      generalize (X9.setCell ⟨g0, j * 16 + 13, none⟩ (.string (mtx (K + 1 + 1 + 1 + 1 + 1 + 1 + 1 + 1 + 1)))) = V10 at *
      refine (show Calls _ _ #[.int .i64 ((K : Int) + 1 + 1 + 1 + 1 + 1 + 1 + 1 + 1 + 1 + 1)] _ _ from markTx (K + 1 + 1 + 1 + 1 + 1 + 1 + 1 + 1 + 1 + 1) _ (by omega)).mono ?_
      rintro x X11 ⟨rfl, hbx⟩
      have HOx11 := hide (HOn10.out.keep hbx.size (fun b hb => hbx.block b (HOn10.out.lt b hb)))
      have HTx11 := hide (HTn10.out.trans (TurnB.new hbx))
      clear hbx
      obtain ⟨g12, c12, cs, bb, e1, hgl12, hgm, hgb, hsub, hbn, hown, hcell, hfr, _, hkeep, hsets⟩ := HOx11.out.put HN.out j (by simpa using hjM)
      have eq12 : (((((((M).set j ⟨⟨⟨((K : Nat) : Int), ((K + 1 : Nat) : Int)⟩, ⟨d.cn.inT.room⟩, ⟨d.cn.outT.room⟩, d.cn.get, d.cn.give, d.cn.first, d.cn.away, d.cn.dead⟩, d.rest, d.out, d.bad⟩).set j ⟨⟨⟨((K : Nat) : Int), ((K + 1 : Nat) : Int)⟩, ⟨((K + 1 + 1 : Nat) : Int)⟩, ⟨d.cn.outT.room⟩, d.cn.get, d.cn.give, d.cn.first, d.cn.away, d.cn.dead⟩, d.rest, d.out, d.bad⟩).set j ⟨⟨⟨((K : Nat) : Int), ((K + 1 : Nat) : Int)⟩, ⟨((K + 1 + 1 : Nat) : Int)⟩, ⟨((K + 1 + 1 + 1 : Nat) : Int)⟩, d.cn.get, d.cn.give, d.cn.first, d.cn.away, d.cn.dead⟩, d.rest, d.out, d.bad⟩).set j ⟨⟨⟨((K : Nat) : Int), ((K + 1 : Nat) : Int)⟩, ⟨((K + 1 + 1 : Nat) : Int)⟩, ⟨((K + 1 + 1 + 1 : Nat) : Int)⟩, ((K + 1 + 1 + 1 + 1 : Nat) : Int), ((K + 1 + 1 + 1 + 1 + 1 : Nat) : Int), ((K + 1 + 1 + 1 + 1 + 1 + 1 : Nat) : Int), d.cn.away, d.cn.dead⟩, d.rest, d.out, d.bad⟩).set j ⟨⟨⟨((K : Nat) : Int), ((K + 1 : Nat) : Int)⟩, ⟨((K + 1 + 1 : Nat) : Int)⟩, ⟨((K + 1 + 1 + 1 : Nat) : Int)⟩, ((K + 1 + 1 + 1 + 1 : Nat) : Int), ((K + 1 + 1 + 1 + 1 + 1 : Nat) : Int), ((K + 1 + 1 + 1 + 1 + 1 + 1 : Nat) : Int), (decide ((K + 1 + 1 + 1 + 1 + 1 + 1 + 1) % 3 = 0)), (decide ((K + 1 + 1 + 1 + 1 + 1 + 1 + 1 + 1) % 3 = 0))⟩, d.rest, d.out, d.bad⟩).set j ⟨⟨⟨((K : Nat) : Int), ((K + 1 : Nat) : Int)⟩, ⟨((K + 1 + 1 : Nat) : Int)⟩, ⟨((K + 1 + 1 + 1 : Nat) : Int)⟩, ((K + 1 + 1 + 1 + 1 : Nat) : Int), ((K + 1 + 1 + 1 + 1 + 1 : Nat) : Int), ((K + 1 + 1 + 1 + 1 + 1 + 1 : Nat) : Int), (decide ((K + 1 + 1 + 1 + 1 + 1 + 1 + 1) % 3 = 0)), (decide ((K + 1 + 1 + 1 + 1 + 1 + 1 + 1 + 1) % 3 = 0))⟩, (mtx (K + 1 + 1 + 1 + 1 + 1 + 1 + 1 + 1 + 1)), d.out, d.bad⟩)[j]'(by simpa using hjM) = ⟨⟨⟨((K : Nat) : Int), ((K + 1 : Nat) : Int)⟩, ⟨((K + 1 + 1 : Nat) : Int)⟩, ⟨((K + 1 + 1 + 1 : Nat) : Int)⟩, ((K + 1 + 1 + 1 + 1 : Nat) : Int), ((K + 1 + 1 + 1 + 1 + 1 : Nat) : Int), ((K + 1 + 1 + 1 + 1 + 1 + 1 : Nat) : Int), (decide ((K + 1 + 1 + 1 + 1 + 1 + 1 + 1) % 3 = 0)), (decide ((K + 1 + 1 + 1 + 1 + 1 + 1 + 1 + 1) % 3 = 0))⟩, (mtx (K + 1 + 1 + 1 + 1 + 1 + 1 + 1 + 1 + 1)), d.out, d.bad⟩ := by simp
      rw [eq12] at hown
      obtain ⟨rfl, f0, f1, hbb⟩ := hown
      simp only [Value.slice.injEq, Option.some.injEq, Addr.mk.injEq] at e1
      obtain ⟨⟨rfl, -, -⟩, -, -⟩ := e1
      have c12_14 : X11.cell? ⟨g0, j * 16 + 14, none⟩ = some (.string d.out) := hcell 14 _ rfl
      have c12_15 : X11.cell? ⟨g0, j * 16 + 15, none⟩ = some (.bool d.bad) := hcell 15 _ rfl
      have fz12 := fun q => hfr q
      have HOn12 : Hid (OwR seatNS (setsFrom X11 g0 (j * seatNS.size + ([.int .i64 ((K : Nat) : Int), .int .i64 ((K + 1 : Nat) : Int), .slice none 0 0, .int .i64 ((K + 1 + 1 : Nat) : Int), .slice none 0 0, .int .i64 ((K + 1 + 1 + 1 : Nat) : Int), .slice none 0 0, .int .i64 ((K + 1 + 1 + 1 + 1 : Nat) : Int), .int .i64 ((K + 1 + 1 + 1 + 1 + 1 : Nat) : Int), .int .i64 ((K + 1 + 1 + 1 + 1 + 1 + 1 : Nat) : Int), .slice none 0 0, .bool (decide ((K + 1 + 1 + 1 + 1 + 1 + 1 + 1) % 3 = 0)), .bool (decide ((K + 1 + 1 + 1 + 1 + 1 + 1 + 1 + 1) % 3 = 0)), .string (mtx (K + 1 + 1 + 1 + 1 + 1 + 1 + 1 + 1 + 1))] : List Value).length) [.string (mtx (K + 1 + 1 + 1 + 1 + 1 + 1 + 1 + 1 + 1 + 1)), .bool (decide ((K + 1 + 1 + 1 + 1 + 1 + 1 + 1 + 1 + 1 + 1 + 1) % 3 = 0))]) _ ((((((((M).set j ⟨⟨⟨((K : Nat) : Int), ((K + 1 : Nat) : Int)⟩, ⟨d.cn.inT.room⟩, ⟨d.cn.outT.room⟩, d.cn.get, d.cn.give, d.cn.first, d.cn.away, d.cn.dead⟩, d.rest, d.out, d.bad⟩).set j ⟨⟨⟨((K : Nat) : Int), ((K + 1 : Nat) : Int)⟩, ⟨((K + 1 + 1 : Nat) : Int)⟩, ⟨d.cn.outT.room⟩, d.cn.get, d.cn.give, d.cn.first, d.cn.away, d.cn.dead⟩, d.rest, d.out, d.bad⟩).set j ⟨⟨⟨((K : Nat) : Int), ((K + 1 : Nat) : Int)⟩, ⟨((K + 1 + 1 : Nat) : Int)⟩, ⟨((K + 1 + 1 + 1 : Nat) : Int)⟩, d.cn.get, d.cn.give, d.cn.first, d.cn.away, d.cn.dead⟩, d.rest, d.out, d.bad⟩).set j ⟨⟨⟨((K : Nat) : Int), ((K + 1 : Nat) : Int)⟩, ⟨((K + 1 + 1 : Nat) : Int)⟩, ⟨((K + 1 + 1 + 1 : Nat) : Int)⟩, ((K + 1 + 1 + 1 + 1 : Nat) : Int), ((K + 1 + 1 + 1 + 1 + 1 : Nat) : Int), ((K + 1 + 1 + 1 + 1 + 1 + 1 : Nat) : Int), d.cn.away, d.cn.dead⟩, d.rest, d.out, d.bad⟩).set j ⟨⟨⟨((K : Nat) : Int), ((K + 1 : Nat) : Int)⟩, ⟨((K + 1 + 1 : Nat) : Int)⟩, ⟨((K + 1 + 1 + 1 : Nat) : Int)⟩, ((K + 1 + 1 + 1 + 1 : Nat) : Int), ((K + 1 + 1 + 1 + 1 + 1 : Nat) : Int), ((K + 1 + 1 + 1 + 1 + 1 + 1 : Nat) : Int), (decide ((K + 1 + 1 + 1 + 1 + 1 + 1 + 1) % 3 = 0)), (decide ((K + 1 + 1 + 1 + 1 + 1 + 1 + 1 + 1) % 3 = 0))⟩, d.rest, d.out, d.bad⟩).set j ⟨⟨⟨((K : Nat) : Int), ((K + 1 : Nat) : Int)⟩, ⟨((K + 1 + 1 : Nat) : Int)⟩, ⟨((K + 1 + 1 + 1 : Nat) : Int)⟩, ((K + 1 + 1 + 1 + 1 : Nat) : Int), ((K + 1 + 1 + 1 + 1 + 1 : Nat) : Int), ((K + 1 + 1 + 1 + 1 + 1 + 1 : Nat) : Int), (decide ((K + 1 + 1 + 1 + 1 + 1 + 1 + 1) % 3 = 0)), (decide ((K + 1 + 1 + 1 + 1 + 1 + 1 + 1 + 1) % 3 = 0))⟩, (mtx (K + 1 + 1 + 1 + 1 + 1 + 1 + 1 + 1 + 1)), d.out, d.bad⟩).set j ⟨⟨⟨((K : Nat) : Int), ((K + 1 : Nat) : Int)⟩, ⟨((K + 1 + 1 : Nat) : Int)⟩, ⟨((K + 1 + 1 + 1 : Nat) : Int)⟩, ((K + 1 + 1 + 1 + 1 : Nat) : Int), ((K + 1 + 1 + 1 + 1 + 1 : Nat) : Int), ((K + 1 + 1 + 1 + 1 + 1 + 1 : Nat) : Int), (decide ((K + 1 + 1 + 1 + 1 + 1 + 1 + 1) % 3 = 0)), (decide ((K + 1 + 1 + 1 + 1 + 1 + 1 + 1 + 1) % 3 = 0))⟩, (mtx (K + 1 + 1 + 1 + 1 + 1 + 1 + 1 + 1 + 1)), (mtx (K + 1 + 1 + 1 + 1 + 1 + 1 + 1 + 1 + 1 + 1)), (decide ((K + 1 + 1 + 1 + 1 + 1 + 1 + 1 + 1 + 1 + 1 + 1) % 3 = 0))⟩) bs) := hsets [.int .i64 ((K : Nat) : Int), .int .i64 ((K + 1 : Nat) : Int), .slice none 0 0, .int .i64 ((K + 1 + 1 : Nat) : Int), .slice none 0 0, .int .i64 ((K + 1 + 1 + 1 : Nat) : Int), .slice none 0 0, .int .i64 ((K + 1 + 1 + 1 + 1 : Nat) : Int), .int .i64 ((K + 1 + 1 + 1 + 1 + 1 : Nat) : Int), .int .i64 ((K + 1 + 1 + 1 + 1 + 1 + 1 : Nat) : Int), .slice none 0 0, .bool (decide ((K + 1 + 1 + 1 + 1 + 1 + 1 + 1) % 3 = 0)), .bool (decide ((K + 1 + 1 + 1 + 1 + 1 + 1 + 1 + 1) % 3 = 0)), .string (mtx (K + 1 + 1 + 1 + 1 + 1 + 1 + 1 + 1 + 1))] [.string d.out, .bool d.bad] [] [.string (mtx (K + 1 + 1 + 1 + 1 + 1 + 1 + 1 + 1 + 1 + 1)), .bool (decide ((K + 1 + 1 + 1 + 1 + 1 + 1 + 1 + 1 + 1 + 1 + 1) % 3 = 0))] ⟨⟨⟨((K : Nat) : Int), ((K + 1 : Nat) : Int)⟩, ⟨((K + 1 + 1 : Nat) : Int)⟩, ⟨((K + 1 + 1 + 1 : Nat) : Int)⟩, ((K + 1 + 1 + 1 + 1 : Nat) : Int), ((K + 1 + 1 + 1 + 1 + 1 : Nat) : Int), ((K + 1 + 1 + 1 + 1 + 1 + 1 : Nat) : Int), (decide ((K + 1 + 1 + 1 + 1 + 1 + 1 + 1) % 3 = 0)), (decide ((K + 1 + 1 + 1 + 1 + 1 + 1 + 1 + 1) % 3 = 0))⟩, (mtx (K + 1 + 1 + 1 + 1 + 1 + 1 + 1 + 1 + 1)), (mtx (K + 1 + 1 + 1 + 1 + 1 + 1 + 1 + 1 + 1 + 1)), (decide ((K + 1 + 1 + 1 + 1 + 1 + 1 + 1 + 1 + 1 + 1 + 1) % 3 = 0))⟩ rfl rfl ⟨rfl, (by have := mtx_size (K + 1 + 1 + 1 + 1 + 1 + 1 + 1 + 1 + 1); simp only; omega), (by have := mtx_size (K + 1 + 1 + 1 + 1 + 1 + 1 + 1 + 1 + 1 + 1); simp only; omega), hbb⟩
      have HTn12 : Hid (TurnB bs w (setsFrom X11 g0 (j * seatNS.size + ([.int .i64 ((K : Nat) : Int), .int .i64 ((K + 1 : Nat) : Int), .slice none 0 0, .int .i64 ((K + 1 + 1 : Nat) : Int), .slice none 0 0, .int .i64 ((K + 1 + 1 + 1 : Nat) : Int), .slice none 0 0, .int .i64 ((K + 1 + 1 + 1 + 1 : Nat) : Int), .int .i64 ((K + 1 + 1 + 1 + 1 + 1 : Nat) : Int), .int .i64 ((K + 1 + 1 + 1 + 1 + 1 + 1 : Nat) : Int), .slice none 0 0, .bool (decide ((K + 1 + 1 + 1 + 1 + 1 + 1 + 1) % 3 = 0)), .bool (decide ((K + 1 + 1 + 1 + 1 + 1 + 1 + 1 + 1) % 3 = 0)), .string (mtx (K + 1 + 1 + 1 + 1 + 1 + 1 + 1 + 1 + 1))] : List Value).length) [.string (mtx (K + 1 + 1 + 1 + 1 + 1 + 1 + 1 + 1 + 1 + 1)), .bool (decide ((K + 1 + 1 + 1 + 1 + 1 + 1 + 1 + 1 + 1 + 1 + 1) % 3 = 0))])) := TurnB.setsFrom g0 hgm _ _ _ HTx11.out
      change Hid (OwR seatNS ((X11.setCell ⟨g0, j * 16 + 14, none⟩ (.string (mtx (K + 1 + 1 + 1 + 1 + 1 + 1 + 1 + 1 + 1 + 1)))).setCell ⟨g0, j * 16 + 15, none⟩ (.bool (decide ((K + 1 + 1 + 1 + 1 + 1 + 1 + 1 + 1 + 1 + 1 + 1) % 3 = 0)))) _ _ _) at HOn12
      change Hid (TurnB bs w ((X11.setCell ⟨g0, j * 16 + 14, none⟩ (.string (mtx (K + 1 + 1 + 1 + 1 + 1 + 1 + 1 + 1 + 1 + 1)))).setCell ⟨g0, j * 16 + 15, none⟩ (.bool (decide ((K + 1 + 1 + 1 + 1 + 1 + 1 + 1 + 1 + 1 + 1 + 1) % 3 = 0))))) at HTn12
      clear hcell hkeep hsets hsub hbn hgb hbb eq12 hfr
      have hbl38731 : (((K : Int) + 1 + 1 + 1 + 1 + 1 + 1 + 1 + 1 + 1 + 1 + 1) % 3 == 0) = decide ((K + 1 + 1 + 1 + 1 + 1 + 1 + 1 + 1 + 1 + 1 + 1) % 3 = 0) := boolmark _ _ (by omega)
      go_wp2_with fail
      try simp only [hbl38731]
      clear hbl38731
      clear c12_14 c12_15 fz12
      generalize ((X11.setCell ⟨g0, j * 16 + 14, none⟩ (.string (mtx (K + 1 + 1 + 1 + 1 + 1 + 1 + 1 + 1 + 1 + 1)))).setCell ⟨g0, j * 16 + 15, none⟩ (.bool (decide ((K + 1 + 1 + 1 + 1 + 1 + 1 + 1 + 1 + 1 + 1 + 1) % 3 = 0)))) = V12 at *
      refine ⟨⟨j + 1, ?_, ?_, ?_, ?_, ?_⟩, ?_⟩
      · go_num
      · exact int_eq (by have h1 := HKC.out; have h2 : cntSeatN d = 1 + 1 + 1 + 1 + 1 + 1 + 1 + 1 + 1 + 1 + 1 + 1 := rfl; omega)
      · omega
      · show OwR _ _ _ _ _
        rw [← HST.out]
        have hfin := HOn12.out
        first | exact hfin | (simp only [List.set_set] at hfin; exact hfin)
      · exact HTn12.out
      · simp [intOf]; omega
    · obtain rfl : j = L.length := by omega
      rw [mix_end] at HO
      rw [List.take_length]
      go_wp2_with fail
      go_ret
      exact ⟨rfl, HO.out, HT.out⟩
end Go.Proofs.YtkhclhnejnpkeaaGreat
/- Rows of Seats whose Conns have no lists: read again (by gen_shseatn.py). -/
namespace Go.Proofs.YtkhclhnejnpkeaaGreat
open Go.RowKit
set_option maxRecDepth 100000
set_option linter.unusedSimpArgs false
set_option linter.unusedVariables false
set_option maxHeartbeats 20000000 in
theorem heldSeatNS (L : List StN) (k : Nat) (v : Value) (w : World) (hr : RdR seatNS w v (mkSeatNS L k)) (hk1 : k + cntSeatNS L ≤ 1000000000) :
    Calls Tryz.prog 52 #[v, .int .i64 k] w fun x w' => x = .returned (.int .i64 ((k + cntSeatNS L : Nat) : Int)) ∧ Below w.heap.size w w' := by
  obtain ⟨ad, cap, rfl, h1, h2⟩ := hr.form
  unfold cntSeatNS mkSeatNS at *
  rw [mk_len'] at h1 ⊢
  have HR := hide hr
  clear hr
  go_enter Tryz.func52, Tryz.ntmps52
  go_wp2_with fail
  go_loopw [1, 5] (fun kk i wr => ∃ (j : Nat), i = .int .i64 j ∧ kk = .int .i64 ((k + cntLs cntSeatN (L.take j) : Nat) : Int) ∧ j ≤ L.length ∧ Hid (Below w.heap.size w wr)) (fun _ i _ => L.length - (intOf i).toNat)
  case atStart => exact ⟨0, rfl, by simp [cntLs], Nat.zero_le _, Below.refl _ _⟩
  case round =>
    obtain ⟨j, rfl, rfl, hj, HB⟩ := hrel
    by_cases hlt : j < L.length
    · have hct := cnt_take cntSeatN L j hlt
      have hcl := cnt_le cntSeatN L (j + 1)
      have hrk := (HR.out.new HB.out).at j (by rw [mk_len']; exact hlt)
      rw [mk_at _ _ L k j hlt] at hrk
      obtain ⟨d, hd⟩ : ∃ d, d = L[j] := ⟨_, rfl⟩
      rw [← hd] at hct hrk
      obtain ⟨K, hK⟩ : ∃ K : Nat, K = k + cntLs cntSeatN (L.take j) := ⟨_, rfl⟩
      rw [← hK] at hrk ⊢
      have hKc : K + cntSeatN d = k + cntLs cntSeatN (L.take (j + 1)) := by omega
      have HKC := hide hKc
      have hKb : K + cntSeatN d ≤ 1000000000 := by omega
      unfold cntSeatN at hKb
      clear hct hcl hd hK hKc
      obtain ⟨b, o, cs, rfl, hb1, hrd, hc⟩ := hrk
      obtain ⟨rfl, _, _⟩ := hrd
      have c0 : wr.cell? ⟨b, o + j * 16, none⟩ = some (.int .i64 ((K : Int))) := hc 0 _ rfl
      have q0 : Hid (∀ u, Below wr.heap.size wr u → u.cell? ⟨b, o + j * 16, none⟩ = some (.int .i64 ((K : Int)))) := fun u hu => (hu.cell (p := ⟨b, o + j * 16, none⟩) hb1).trans c0
      clear c0
      have c1 : wr.cell? ⟨b, o + j * 16 + 1, none⟩ = some (.int .i64 ((K : Int) + 1)) := hc 1 _ rfl
      have q1 : Hid (∀ u, Below wr.heap.size wr u → u.cell? ⟨b, o + j * 16 + 1, none⟩ = some (.int .i64 ((K : Int) + 1))) := fun u hu => (hu.cell (p := ⟨b, o + j * 16 + 1, none⟩) hb1).trans c1
      clear c1
      have c2 : wr.cell? ⟨b, o + j * 16 + 2, none⟩ = some (.slice none 0 0) := hc 2 _ rfl
      have q2 : Hid (∀ u, Below wr.heap.size wr u → u.cell? ⟨b, o + j * 16 + 2, none⟩ = some (.slice none 0 0)) := fun u hu => (hu.cell (p := ⟨b, o + j * 16 + 2, none⟩) hb1).trans c2
      clear c2
      have c3 : wr.cell? ⟨b, o + j * 16 + 3, none⟩ = some (.int .i64 ((K : Int) + 1 + 1)) := hc 3 _ rfl
      have q3 : Hid (∀ u, Below wr.heap.size wr u → u.cell? ⟨b, o + j * 16 + 3, none⟩ = some (.int .i64 ((K : Int) + 1 + 1))) := fun u hu => (hu.cell (p := ⟨b, o + j * 16 + 3, none⟩) hb1).trans c3
      clear c3
      have c4 : wr.cell? ⟨b, o + j * 16 + 3 + 1, none⟩ = some (.slice none 0 0) := hc 4 _ rfl
      have q4 : Hid (∀ u, Below wr.heap.size wr u → u.cell? ⟨b, o + j * 16 + 3 + 1, none⟩ = some (.slice none 0 0)) := fun u hu => (hu.cell (p := ⟨b, o + j * 16 + 3 + 1, none⟩) hb1).trans c4
      clear c4
      have c5 : wr.cell? ⟨b, o + j * 16 + 5, none⟩ = some (.int .i64 ((K : Int) + 1 + 1 + 1)) := hc 5 _ rfl
      have q5 : Hid (∀ u, Below wr.heap.size wr u → u.cell? ⟨b, o + j * 16 + 5, none⟩ = some (.int .i64 ((K : Int) + 1 + 1 + 1))) := fun u hu => (hu.cell (p := ⟨b, o + j * 16 + 5, none⟩) hb1).trans c5
      clear c5
      have c6 : wr.cell? ⟨b, o + j * 16 + 5 + 1, none⟩ = some (.slice none 0 0) := hc 6 _ rfl
      have q6 : Hid (∀ u, Below wr.heap.size wr u → u.cell? ⟨b, o + j * 16 + 5 + 1, none⟩ = some (.slice none 0 0)) := fun u hu => (hu.cell (p := ⟨b, o + j * 16 + 5 + 1, none⟩) hb1).trans c6
      clear c6
      have c7 : wr.cell? ⟨b, o + j * 16 + 7, none⟩ = some (.int .i64 ((K : Int) + 1 + 1 + 1 + 1)) := hc 7 _ rfl
      have q7 : Hid (∀ u, Below wr.heap.size wr u → u.cell? ⟨b, o + j * 16 + 7, none⟩ = some (.int .i64 ((K : Int) + 1 + 1 + 1 + 1))) := fun u hu => (hu.cell (p := ⟨b, o + j * 16 + 7, none⟩) hb1).trans c7
      clear c7
      have c8 : wr.cell? ⟨b, o + j * 16 + 8, none⟩ = some (.int .i64 ((K : Int) + 1 + 1 + 1 + 1 + 1)) := hc 8 _ rfl
      have q8 : Hid (∀ u, Below wr.heap.size wr u → u.cell? ⟨b, o + j * 16 + 8, none⟩ = some (.int .i64 ((K : Int) + 1 + 1 + 1 + 1 + 1))) := fun u hu => (hu.cell (p := ⟨b, o + j * 16 + 8, none⟩) hb1).trans c8
      clear c8
      have c9 : wr.cell? ⟨b, o + j * 16 + 9, none⟩ = some (.int .i64 ((K : Int) + 1 + 1 + 1 + 1 + 1 + 1)) := hc 9 _ rfl
      have q9 : Hid (∀ u, Below wr.heap.size wr u → u.cell? ⟨b, o + j * 16 + 9, none⟩ = some (.int .i64 ((K : Int) + 1 + 1 + 1 + 1 + 1 + 1))) := fun u hu => (hu.cell (p := ⟨b, o + j * 16 + 9, none⟩) hb1).trans c9
      clear c9
      have c10 : wr.cell? ⟨b, o + j * 16 + 10, none⟩ = some (.slice none 0 0) := hc 10 _ rfl
      have q10 : Hid (∀ u, Below wr.heap.size wr u → u.cell? ⟨b, o + j * 16 + 10, none⟩ = some (.slice none 0 0)) := fun u hu => (hu.cell (p := ⟨b, o + j * 16 + 10, none⟩) hb1).trans c10
      clear c10
      have c11 : wr.cell? ⟨b, o + j * 16 + 11, none⟩ = some (.bool (decide ((K + 1 + 1 + 1 + 1 + 1 + 1 + 1) % 3 = 0))) := hc 11 _ rfl
      have q11 : Hid (∀ u, Below wr.heap.size wr u → u.cell? ⟨b, o + j * 16 + 11, none⟩ = some (.bool (decide ((K + 1 + 1 + 1 + 1 + 1 + 1 + 1) % 3 = 0)))) := fun u hu => (hu.cell (p := ⟨b, o + j * 16 + 11, none⟩) hb1).trans c11
      clear c11
      have c12 : wr.cell? ⟨b, o + j * 16 + 12, none⟩ = some (.bool (decide ((K + 1 + 1 + 1 + 1 + 1 + 1 + 1 + 1) % 3 = 0))) := hc 12 _ rfl
      have q12 : Hid (∀ u, Below wr.heap.size wr u → u.cell? ⟨b, o + j * 16 + 12, none⟩ = some (.bool (decide ((K + 1 + 1 + 1 + 1 + 1 + 1 + 1 + 1) % 3 = 0)))) := fun u hu => (hu.cell (p := ⟨b, o + j * 16 + 12, none⟩) hb1).trans c12
      clear c12
      have c13 : wr.cell? ⟨b, o + j * 16 + 13, none⟩ = some (.string (mtx (K + 1 + 1 + 1 + 1 + 1 + 1 + 1 + 1 + 1))) := hc 13 _ rfl
      have q13 : Hid (∀ u, Below wr.heap.size wr u → u.cell? ⟨b, o + j * 16 + 13, none⟩ = some (.string (mtx (K + 1 + 1 + 1 + 1 + 1 + 1 + 1 + 1 + 1)))) := fun u hu => (hu.cell (p := ⟨b, o + j * 16 + 13, none⟩) hb1).trans c13
      clear c13
      have c14 : wr.cell? ⟨b, o + j * 16 + 14, none⟩ = some (.string (mtx (K + 1 + 1 + 1 + 1 + 1 + 1 + 1 + 1 + 1 + 1))) := hc 14 _ rfl
      have q14 : Hid (∀ u, Below wr.heap.size wr u → u.cell? ⟨b, o + j * 16 + 14, none⟩ = some (.string (mtx (K + 1 + 1 + 1 + 1 + 1 + 1 + 1 + 1 + 1 + 1)))) := fun u hu => (hu.cell (p := ⟨b, o + j * 16 + 14, none⟩) hb1).trans c14
      clear c14
      have c15 : wr.cell? ⟨b, o + j * 16 + 15, none⟩ = some (.bool (decide ((K + 1 + 1 + 1 + 1 + 1 + 1 + 1 + 1 + 1 + 1 + 1) % 3 = 0))) := hc 15 _ rfl
      have q15 : Hid (∀ u, Below wr.heap.size wr u → u.cell? ⟨b, o + j * 16 + 15, none⟩ = some (.bool (decide ((K + 1 + 1 + 1 + 1 + 1 + 1 + 1 + 1 + 1 + 1 + 1) % 3 = 0)))) := fun u hu => (hu.cell (p := ⟨b, o + j * 16 + 15, none⟩) hb1).trans c15
      clear c15
      clear hc
      have HW : Hid (Below wr.heap.size wr wr) := Below.refl _ _
      have c0 := q0.out wr HW.out
      have c1 := q1.out wr HW.out
      have c2 := q2.out wr HW.out
      go_wp2_with fail
      clear c0 c1 c2
      refine (show Calls _ _ #[.slice none 0 0, .int .i64 ((K : Int) + 1 + 1)] _ _ from nilHeldEntry (K + 1 + 1) _ (by omega)).mono ?_; rintro x U2 ⟨rfl, hb⟩
      have hpos2 : ¬ (((K : Int) + 1 + 1 : Int) < 0) := by omega
      replace HW := hide (bchain HW.out hb)
      clear hb
      have c3 := q3.out U2 HW.out
      have c4 := q4.out U2 HW.out
      go_wp2_with fail
      clear c3 c4
      refine (show Calls _ _ #[.slice none 0 0, .int .i64 ((K : Int) + 1 + 1 + 1)] _ _ from nilHeldField (K + 1 + 1 + 1) _ (by omega)).mono ?_; rintro x U4 ⟨rfl, hb⟩
      have hpos4 : ¬ (((K : Int) + 1 + 1 + 1 : Int) < 0) := by omega
      replace HW := hide (bchain HW.out hb)
      clear hb
      have c5 := q5.out U4 HW.out
      have c6 := q6.out U4 HW.out
      go_wp2_with fail
      clear c5 c6
      refine (show Calls _ _ #[.slice none 0 0, .int .i64 ((K : Int) + 1 + 1 + 1 + 1)] _ _ from nilHeldField (K + 1 + 1 + 1 + 1) _ (by omega)).mono ?_; rintro x U6 ⟨rfl, hb⟩
      have hpos6 : ¬ (((K : Int) + 1 + 1 + 1 + 1 : Int) < 0) := by omega
      replace HW := hide (bchain HW.out hb)
      clear hb
      have c7 := q7.out U6 HW.out
      have c8 := q8.out U6 HW.out
      have c9 := q9.out U6 HW.out
      have c10 := q10.out U6 HW.out
      go_wp2_with fail
      clear c7 c8 c9 c10
      refine (show Calls _ _ #[.slice none 0 0, .int .i64 ((K : Int) + 1 + 1 + 1 + 1 + 1 + 1 + 1)] _ _ from nilHeldFlow (K + 1 + 1 + 1 + 1 + 1 + 1 + 1) _ (by omega)).mono ?_; rintro x U10 ⟨rfl, hb⟩
      have hpos10 : ¬ (((K : Int) + 1 + 1 + 1 + 1 + 1 + 1 + 1 : Int) < 0) := by omega
      replace HW := hide (bchain HW.out hb)
      clear hb
      have c11 := q11.out U10 HW.out
      have c12 := q12.out U10 HW.out
      have hbl1 : (((K : Int) + 1 + 1 + 1 + 1 + 1 + 1 + 1) % 3 == 0) = decide ((K + 1 + 1 + 1 + 1 + 1 + 1 + 1) % 3 = 0) := boolmark _ _ (by omega)
      have hbl2 : (((K : Int) + 1 + 1 + 1 + 1 + 1 + 1 + 1 + 1) % 3 == 0) = decide ((K + 1 + 1 + 1 + 1 + 1 + 1 + 1 + 1) % 3 = 0) := boolmark _ _ (by omega)
      go_wp2_with fail
      clear c11 c12
      have qy : ∀ y : Later U10, y.w.cell? ⟨b, o + j * 16 + 13, none⟩ = some (.string (mtx (K + 1 + 1 + 1 + 1 + 1 + 1 + 1 + 1 + 1))) := fun y => q13.out y.w (bchain HW.out y.b)
      have hne : Nonempty (Later U10) := ⟨⟨U10, Below.refl _ _⟩⟩; refine region_later (by kernel_rfl) (by kernel_rfl) ?_
      repeat (go_big_quiet_step (fail))
      go_big_quiet_want; go_big_quiet_op
      refine ⟨.string (mtx (K + 1 + 1 + 1 + 1 + 1 + 1 + 1 + 1 + 1)), fun y => later_calls (x := y) (show Calls _ _ #[.int .i64 ((K : Int) + 1 + 1 + 1 + 1 + 1 + 1 + 1 + 1 + 1)] _ _ from markTx (K + 1 + 1 + 1 + 1 + 1 + 1 + 1 + 1 + 1) y.w (by omega)), ?_⟩
      go_big_quiet_on
      repeat (go_big_quiet_step (fail))
      refine wpQuiet_nil ?_; intro _ hw'; obtain ⟨y, hw''⟩ := hw'; subst hw''; have hby := y.b
      clear qy hne
      replace HW := hide (bchain HW.out hby)
      clear hby
      generalize y.w = U13 at *
      go_wp2_with fail
      have qy : ∀ y : Later U13, y.w.cell? ⟨b, o + j * 16 + 14, none⟩ = some (.string (mtx (K + 1 + 1 + 1 + 1 + 1 + 1 + 1 + 1 + 1 + 1))) := fun y => q14.out y.w (bchain HW.out y.b)
      have hne : Nonempty (Later U13) := ⟨⟨U13, Below.refl _ _⟩⟩; refine region_later (by kernel_rfl) (by kernel_rfl) ?_
      repeat (go_big_quiet_step (fail))
      go_big_quiet_want; go_big_quiet_op
      refine ⟨.string (mtx (K + 1 + 1 + 1 + 1 + 1 + 1 + 1 + 1 + 1 + 1)), fun y => later_calls (x := y) (show Calls _ _ #[.int .i64 ((K : Int) + 1 + 1 + 1 + 1 + 1 + 1 + 1 + 1 + 1 + 1)] _ _ from markTx (K + 1 + 1 + 1 + 1 + 1 + 1 + 1 + 1 + 1 + 1) y.w (by omega)), ?_⟩
      go_big_quiet_on
      repeat (go_big_quiet_step (fail))
      refine wpQuiet_nil ?_; intro _ hw'; obtain ⟨y, hw''⟩ := hw'; subst hw''; have hby := y.b
      clear qy hne
      replace HW := hide (bchain HW.out hby)
      clear hby
      generalize y.w = U14 at *
      have c15 := q15.out U14 HW.out
      have hbl3 : (((K : Int) + 1 + 1 + 1 + 1 + 1 + 1 + 1 + 1 + 1 + 1 + 1) % 3 == 0) = decide ((K + 1 + 1 + 1 + 1 + 1 + 1 + 1 + 1 + 1 + 1 + 1) % 3 = 0) := boolmark _ _ (by omega)
      go_wp2_with fail
      clear c15
      go_roundw
      case rel => exact ⟨j + 1, by go_num, int_eq (by have h1 := HKC.out; have h2 : cntSeatN d = 1 + 1 + 1 + 1 + 1 + 1 + 1 + 1 + 1 + 1 + 1 + 1 := rfl; omega), by omega, hide (bchain HB.out HW.out)⟩
      case measure => simp [intOf]; omega
    · obtain rfl : j = L.length := by omega
      rw [List.take_length]
      go_wp2_with fail
      go_ret
      exact ⟨rfl, HB.out⟩
end Go.Proofs.YtkhclhnejnpkeaaGreat
