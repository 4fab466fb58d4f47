/- Several small texts of one level, one behind the other. -/
import Derived.Test.YtkhclhnejnpkeaaGreatQNgG17
import Derived.Lib.SmallJoins
import Derived.OpenShut
import Derived.ChangeOld
import Derived.Test.YtkhclhnejnpkeaaGreatQNgG8
import Derived.Test.YtkhclhnejnpkeaaGreatQNgBM
import Derived.Test.YtkhclhnejnpkeaaGreatQNgG7
import Derived.Test.YtkhclhnejnpkeaaGreatQNgG12
import Derived.Test.YtkhclhnejnpkeaaGreatQNgG6
import Derived.Test.YtkhclhnejnpkeaaGreatQNgG3
import Derived.Deep.Cut
import Derived.Test.YtkhclhnejnpkeaaGreatQNgLookup
import Derived.Test.YtkhclhnejnpkeaaGreatQNgLitUnpack2
import Derived.Handy
import Derived.Test.YtkhclhnejnpkeaaGreatQNgG4
import Derived.Test.YtkhclhnejnpkeaaGreatQNgBase
import Derived.Test.YtkhclhnejnpkeaaGreatQNgG2
import Derived.Lib.EndianBits
import Derived.RangeFuncNested
import Derived.RangeFuncBound
import Derived.RangeFuncCalls
import Derived.RangeFuncLeaves
import Derived.Shelf.Abstract
import Derived.Shelf.RegionOpen
import Derived.WalkKit
import Derived.OwnWalkIn
import Derived.TacticsInMore
import Derived.LoopNIn
import Derived.LoopIn
import Derived.Maps.AppendAt
import Derived.RangeFuncBox
import Derived.Laws.AppendOwn
import Derived.Laws.IdiomStrings
import Derived.Lib.BufferRead
import Derived.OrdersIn
import Derived.TacticsIn
import Derived.Test.YtkhclhnejnpkeaaGreatQNgG5
import Derived.Laws.MakeOwn
import Derived.RegionTactic
import Derived.Deep.DeepCutAuto
import Derived.Lib.AppendStr
/- A Seat in memory: its make; counted, copied, held against each other, and rows of them; one that came in (by gen_shseat.py). -/
namespace Go.Proofs.YtkhclhnejnpkeaaGreat
open Go.RowKit
set_option maxRecDepth 100000
set_option linter.unusedSimpArgs false
set_option linter.unusedVariables false
/-- What a Seat holds. -/
structure StD where
  cn : CnD
  rest : ByteArray
  out : ByteArray
  bad : Bool
def seatS : Shp StD where
  size := 16
  ty := 65
  rd := fun w cs d => ∃ ve vi vo vf : Value, cs = [.int .i64 d.cn.reg.lim, .int .i64 d.cn.reg.top, ve, .int .i64 d.cn.inr, vi, .int .i64 d.cn.outr, vo, .int .i64 d.cn.get, .int .i64 d.cn.give, .int .i64 d.cn.first, vf, .bool d.cn.away, .bool d.cn.dead, .string d.rest, .string d.out, .bool d.bad] ∧ d.rest.size ≤ 9223372036854775807 ∧ d.out.size ≤ 9223372036854775807 ∧ CnRd w d.cn ve vi vo vf
  own := fun w cs d bs => ∃ ve vi vo vf : Value, cs = [.int .i64 d.cn.reg.lim, .int .i64 d.cn.reg.top, ve, .int .i64 d.cn.inr, vi, .int .i64 d.cn.outr, vo, .int .i64 d.cn.get, .int .i64 d.cn.give, .int .i64 d.cn.first, vf, .bool d.cn.away, .bool d.cn.dead, .string d.rest, .string d.out, .bool d.bad] ∧ d.rest.size ≤ 9223372036854775807 ∧ d.out.size ≤ 9223372036854775807 ∧ CnOw w bs d.cn ve vi vo vf
  pos := by decide
  rd_len := fun h => by obtain ⟨ve, vi, vo, vf, rfl, _⟩ := h; rfl
  rd_one := fun h u hu => by
    obtain ⟨ve, vi, vo, vf, rfl, f0, f1, h0⟩ := h
    obtain ⟨_, _, rfl, _⟩ := h0.e.form
    obtain ⟨_, _, rfl, _⟩ := h0.i.form
    obtain ⟨_, _, rfl, _⟩ := h0.o.form
    obtain ⟨_, _, rfl, _⟩ := h0.f.form
    simp only [List.mem_cons, List.not_mem_nil, or_false] at hu
    rcases hu with rfl | rfl | rfl | rfl | rfl | rfl | rfl | rfl | rfl | rfl | rfl | rfl | rfl | rfl | rfl | rfl <;> rfl
  rd_new := fun h hb => by obtain ⟨ve, vi, vo, vf, rfl, f0, f1, h0⟩ := h; exact ⟨ve, vi, vo, vf, rfl, f0, f1, h0.new hb⟩
  own_rd := fun h => by obtain ⟨ve, vi, vo, vf, rfl, f0, f1, h0⟩ := h; exact ⟨ve, vi, vo, vf, rfl, f0, f1, h0.rd⟩
  own_keep := fun h hs hk => by obtain ⟨ve, vi, vo, vf, rfl, f0, f1, h0⟩ := h; exact ⟨ve, vi, vo, vf, rfl, f0, f1, h0.keep hs hk⟩
  own_lt := fun h b hb => by obtain ⟨ve, vi, vo, vf, rfl, f0, f1, h0⟩ := h; exact h0.lt b hb
set_option maxHeartbeats 4000000 in
theorem eqSeat1 (d : StD) (ve vi vo vf ue ui uo uf : Value) (w : World) (hv : CnRd w d.cn ve vi vo vf) (hf0 : d.rest.size ≤ 9223372036854775807) (hf1 : d.out.size ≤ 9223372036854775807) (hu : CnRd w d.cn ue ui uo uf) :
    Calls Tryz.prog 75 #[.agg #[.int .i64 d.cn.reg.lim, .int .i64 d.cn.reg.top, ve, .int .i64 d.cn.inr, vi, .int .i64 d.cn.outr, vo, .int .i64 d.cn.get, .int .i64 d.cn.give, .int .i64 d.cn.first, vf, .bool d.cn.away, .bool d.cn.dead, .string d.rest, .string d.out, .bool d.bad], .agg #[.int .i64 d.cn.reg.lim, .int .i64 d.cn.reg.top, ue, .int .i64 d.cn.inr, ui, .int .i64 d.cn.outr, uo, .int .i64 d.cn.get, .int .i64 d.cn.give, .int .i64 d.cn.first, uf, .bool d.cn.away, .bool d.cn.dead, .string d.rest, .string d.out, .bool d.bad]] w fun x w' => x = .returned (.bool true) ∧ Below w.heap.size w w' := by
  have HV := hide hv
  have HU := hide hu
  clear hv hu
  obtain ⟨ae, pe, rfl, _⟩ := HV.out.e.form
  obtain ⟨ai, pi, rfl, _⟩ := HV.out.i.form
  obtain ⟨ao, po, rfl, _⟩ := HV.out.o.form
  obtain ⟨af, pf, rfl, _⟩ := HV.out.f.form
  obtain ⟨ne, qe, rfl, _⟩ := HU.out.e.form
  obtain ⟨ni, qi, rfl, _⟩ := HU.out.i.form
  obtain ⟨no, qo, rfl, _⟩ := HU.out.o.form
  obtain ⟨nf, qf, rfl, _⟩ := HU.out.f.form
  obtain ⟨W, hW⟩ : ∃ W, (w.alloc (.cells #[.int .i64 d.cn.reg.lim, .int .i64 d.cn.reg.top, .slice ae d.cn.reg.es.length pe, .int .i64 d.cn.inr, .slice ai d.cn.inT.length pi, .int .i64 d.cn.outr, .slice ao d.cn.outT.length po, .int .i64 d.cn.get, .int .i64 d.cn.give, .int .i64 d.cn.first, .slice af d.cn.flows.length pf, .bool d.cn.away, .bool d.cn.dead, .string d.rest, .string d.out, .bool d.bad] 65)).alloc (.cells #[.int .i64 d.cn.reg.lim, .int .i64 d.cn.reg.top, .slice ne d.cn.reg.es.length qe, .int .i64 d.cn.inr, .slice ni d.cn.inT.length qi, .int .i64 d.cn.outr, .slice no d.cn.outT.length qo, .int .i64 d.cn.get, .int .i64 d.cn.give, .int .i64 d.cn.first, .slice nf d.cn.flows.length qf, .bool d.cn.away, .bool d.cn.dead, .string d.rest, .string d.out, .bool d.bad] 65) = W := ⟨_, rfl⟩
  have RX : RowIs W w.heap.size 65 [.int .i64 d.cn.reg.lim, .int .i64 d.cn.reg.top, .slice ae d.cn.reg.es.length pe, .int .i64 d.cn.inr, .slice ai d.cn.inT.length pi, .int .i64 d.cn.outr, .slice ao d.cn.outT.length po, .int .i64 d.cn.get, .int .i64 d.cn.give, .int .i64 d.cn.first, .slice af d.cn.flows.length pf, .bool d.cn.away, .bool d.cn.dead, .string d.rest, .string d.out, .bool d.bad] := by rw [← hW]; exact (rowIs_new w 65 [.int .i64 d.cn.reg.lim, .int .i64 d.cn.reg.top, .slice ae d.cn.reg.es.length pe, .int .i64 d.cn.inr, .slice ai d.cn.inT.length pi, .int .i64 d.cn.outr, .slice ao d.cn.outT.length po, .int .i64 d.cn.get, .int .i64 d.cn.give, .int .i64 d.cn.first, .slice af d.cn.flows.length pf, .bool d.cn.away, .bool d.cn.dead, .string d.rest, .string d.out, .bool d.bad]).alloc _
  have RY : RowIs W (w.heap.size + 1) 65 [.int .i64 d.cn.reg.lim, .int .i64 d.cn.reg.top, .slice ne d.cn.reg.es.length qe, .int .i64 d.cn.inr, .slice ni d.cn.inT.length qi, .int .i64 d.cn.outr, .slice no d.cn.outT.length qo, .int .i64 d.cn.get, .int .i64 d.cn.give, .int .i64 d.cn.first, .slice nf d.cn.flows.length qf, .bool d.cn.away, .bool d.cn.dead, .string d.rest, .string d.out, .bool d.bad] := by have := rowIs_new (w.alloc (.cells #[.int .i64 d.cn.reg.lim, .int .i64 d.cn.reg.top, .slice ae d.cn.reg.es.length pe, .int .i64 d.cn.inr, .slice ai d.cn.inT.length pi, .int .i64 d.cn.outr, .slice ao d.cn.outT.length po, .int .i64 d.cn.get, .int .i64 d.cn.give, .int .i64 d.cn.first, .slice af d.cn.flows.length pf, .bool d.cn.away, .bool d.cn.dead, .string d.rest, .string d.out, .bool d.bad] 65)) 65 [.int .i64 d.cn.reg.lim, .int .i64 d.cn.reg.top, .slice ne d.cn.reg.es.length qe, .int .i64 d.cn.inr, .slice ni d.cn.inT.length qi, .int .i64 d.cn.outr, .slice no d.cn.outT.length qo, .int .i64 d.cn.get, .int .i64 d.cn.give, .int .i64 d.cn.first, .slice nf d.cn.flows.length qf, .bool d.cn.away, .bool d.cn.dead, .string d.rest, .string d.out, .bool d.bad]; rw [hW] at this; simpa using this
  have HB : Below w.heap.size w W := by rw [← hW]; exact (((Below.refl _ _).alloc (Nat.le_refl _) _).alloc (by simp) _)
  go_enter Tryz.func75, Tryz.ntmps75
  have x0 := RowIs.cell (j := 0) RX rfl
  have x1 := RowIs.cell (j := 1) RX rfl
  have x2 := RowIs.cell (j := 2) RX rfl
  have x3 := RowIs.cell (j := 3) RX rfl
  have x4 := RowIs.cell (j := 4) RX rfl
  have x5 := RowIs.cell (j := 5) RX rfl
  have x6 := RowIs.cell (j := 6) RX rfl
  have x7 := RowIs.cell (j := 7) RX rfl
  have x8 := RowIs.cell (j := 8) RX rfl
  have x9 := RowIs.cell (j := 9) RX rfl
  have x10 := RowIs.cell (j := 10) RX rfl
  have x11 := RowIs.cell (j := 11) RX rfl
  have x12 := RowIs.cell (j := 12) RX rfl
  have xf := fun j => RowIs.frozen RX j
  have xl := RX.lt
  have y0 := RowIs.cell (j := 0) RY rfl
  have y1 := RowIs.cell (j := 1) RY rfl
  have y2 := RowIs.cell (j := 2) RY rfl
  have y3 := RowIs.cell (j := 3) RY rfl
  have y4 := RowIs.cell (j := 4) RY rfl
  have y5 := RowIs.cell (j := 5) RY rfl
  have y6 := RowIs.cell (j := 6) RY rfl
  have y7 := RowIs.cell (j := 7) RY rfl
  have y8 := RowIs.cell (j := 8) RY rfl
  have y9 := RowIs.cell (j := 9) RY rfl
  have y10 := RowIs.cell (j := 10) RY rfl
  have y11 := RowIs.cell (j := 11) RY rfl
  have y12 := RowIs.cell (j := 12) RY rfl
  have yf := fun j => RowIs.frozen RY j
  have yl := RY.lt
  go_wp2_with fail
  clear x0 x1 x2 x3 x4 x5 x6 x7 x8 x9 x10 x11 x12 xf xl
  clear y0 y1 y2 y3 y4 y5 y6 y7 y8 y9 y10 y11 y12 yf yl
  refine (eqConn1 d.cn _ _ _ _ _ _ _ _ _ (HV.out.new HB) (HU.out.new HB)).mono ?_; rintro x w1 ⟨rfl, hb⟩
  replace RX := RX.new hb
  replace RY := RY.new hb
  replace HB := bchain HB hb
  clear hb
  clear hW
  have x13 := RowIs.cell (j := 13) RX rfl
  have x14 := RowIs.cell (j := 14) RX rfl
  have x15 := RowIs.cell (j := 15) RX rfl
  have xf := fun j => RowIs.frozen RX j
  have xl := RX.lt
  have y13 := RowIs.cell (j := 13) RY rfl
  have y14 := RowIs.cell (j := 14) RY rfl
  have y15 := RowIs.cell (j := 15) RY rfl
  have yf := fun j => RowIs.frozen RY j
  have yl := RY.lt
  have c0 : (d.rest.toList != d.rest.toList) = false := by simp
  have c1 : (d.out.toList != d.out.toList) = false := by simp
  have c2 : (d.bad != d.bad) = false := by simp
  go_wp2_with fail
  go_ret
  exact ⟨rfl, HB⟩
set_option maxHeartbeats 4000000 in
theorem eqSeatS (L : List StD) (v v' : Value) (w : World) (hr0 : RdR seatS w v L) (hr1 : RdR seatS w v' L) :
    Calls Tryz.prog 34 #[v, v'] w fun x w' => x = .returned (.bool true) ∧ Below w.heap.size w w' := by
  obtain ⟨ad, cap, rfl, h1, h2⟩ := hr0.form
  obtain ⟨ad', cap', rfl, h1', h2'⟩ := hr1.form
  have HR := hide hr0; have HR' := hide hr1
  clear hr0 hr1
  go_enter Tryz.func34, Tryz.ntmps34
  go_wp2_with fail
  go_loopw [5] (fun i wr => ∃ (k : Nat), i = .int .i64 k ∧ k ≤ L.length ∧ Below w.heap.size w wr) (fun i _ => L.length - (intOf i).toNat)
  case atStart => exact ⟨0, rfl, Nat.zero_le _, Below.refl _ _⟩
  case round =>
    obtain ⟨k, rfl, hk, hb⟩ := hrel
    by_cases hlt : k < L.length
    · have hrk := (HR.out.new hb).at k hlt
      have hrk' := (HR'.out.new hb).at k hlt
      obtain ⟨d, hd⟩ : ∃ d, d = L[k] := ⟨_, rfl⟩
      rw [← hd] at hrk hrk'
      clear hd
      obtain ⟨b, o, cs, rfl, hb1, hrd, hc⟩ := hrk
      obtain ⟨b', o', cs', rfl, hb2, hrd', hc'⟩ := hrk'
      obtain ⟨ve, vi, vo, vf, rfl, hf0, hf1, hv⟩ := hrd
      obtain ⟨ue, ui, uo, uf, rfl, _, _, hu⟩ := hrd'
      have HV := hide hv; have HU := hide hu
      clear hv hu
      obtain ⟨ae, pe, rfl, _⟩ := HV.out.e.form
      obtain ⟨ai, pi, rfl, _⟩ := HV.out.i.form
      obtain ⟨ao, po, rfl, _⟩ := HV.out.o.form
      obtain ⟨af, pf, rfl, _⟩ := HV.out.f.form
      obtain ⟨ne, qe, rfl, _⟩ := HU.out.e.form
      obtain ⟨ni, qi, rfl, _⟩ := HU.out.i.form
      obtain ⟨no, qo, rfl, _⟩ := HU.out.o.form
      obtain ⟨nf, qf, rfl, _⟩ := HU.out.f.form
      have c0 : wr.cell? ⟨b, o + k * 16, none⟩ = some (.int .i64 d.cn.reg.lim) := hc 0 _ rfl
      have c1 : wr.cell? ⟨b, o + k * 16 + 1, none⟩ = some (.int .i64 d.cn.reg.top) := hc 1 _ rfl
      have c2 : wr.cell? ⟨b, o + k * 16 + 2, none⟩ = some (.slice ae d.cn.reg.es.length pe) := hc 2 _ rfl
      have c3 : wr.cell? ⟨b, o + k * 16 + 3, none⟩ = some (.int .i64 d.cn.inr) := hc 3 _ rfl
      have c4 : wr.cell? ⟨b, o + k * 16 + 4, none⟩ = some (.slice ai d.cn.inT.length pi) := hc 4 _ rfl
      have c5 : wr.cell? ⟨b, o + k * 16 + 5, none⟩ = some (.int .i64 d.cn.outr) := hc 5 _ rfl
      have c6 : wr.cell? ⟨b, o + k * 16 + 6, none⟩ = some (.slice ao d.cn.outT.length po) := hc 6 _ rfl
      have c7 : wr.cell? ⟨b, o + k * 16 + 7, none⟩ = some (.int .i64 d.cn.get) := hc 7 _ rfl
      have c8 : wr.cell? ⟨b, o + k * 16 + 8, none⟩ = some (.int .i64 d.cn.give) := hc 8 _ rfl
      have c9 : wr.cell? ⟨b, o + k * 16 + 9, none⟩ = some (.int .i64 d.cn.first) := hc 9 _ rfl
      have c10 : wr.cell? ⟨b, o + k * 16 + 10, none⟩ = some (.slice af d.cn.flows.length pf) := hc 10 _ rfl
      have c11 : wr.cell? ⟨b, o + k * 16 + 11, none⟩ = some (.bool d.cn.away) := hc 11 _ rfl
      have c12 : wr.cell? ⟨b, o + k * 16 + 12, none⟩ = some (.bool d.cn.dead) := hc 12 _ rfl
      have c13 : wr.cell? ⟨b, o + k * 16 + 13, none⟩ = some (.string d.rest) := hc 13 _ rfl
      have c14 : wr.cell? ⟨b, o + k * 16 + 14, none⟩ = some (.string d.out) := hc 14 _ rfl
      have c15 : wr.cell? ⟨b, o + k * 16 + 15, none⟩ = some (.bool d.bad) := hc 15 _ rfl
      have d0 : wr.cell? ⟨b', o' + k * 16, none⟩ = some (.int .i64 d.cn.reg.lim) := hc' 0 _ rfl
      have d1 : wr.cell? ⟨b', o' + k * 16 + 1, none⟩ = some (.int .i64 d.cn.reg.top) := hc' 1 _ rfl
      have d2 : wr.cell? ⟨b', o' + k * 16 + 2, none⟩ = some (.slice ne d.cn.reg.es.length qe) := hc' 2 _ rfl
      have d3 : wr.cell? ⟨b', o' + k * 16 + 3, none⟩ = some (.int .i64 d.cn.inr) := hc' 3 _ rfl
      have d4 : wr.cell? ⟨b', o' + k * 16 + 4, none⟩ = some (.slice ni d.cn.inT.length qi) := hc' 4 _ rfl
      have d5 : wr.cell? ⟨b', o' + k * 16 + 5, none⟩ = some (.int .i64 d.cn.outr) := hc' 5 _ rfl
      have d6 : wr.cell? ⟨b', o' + k * 16 + 6, none⟩ = some (.slice no d.cn.outT.length qo) := hc' 6 _ rfl
      have d7 : wr.cell? ⟨b', o' + k * 16 + 7, none⟩ = some (.int .i64 d.cn.get) := hc' 7 _ rfl
      have d8 : wr.cell? ⟨b', o' + k * 16 + 8, none⟩ = some (.int .i64 d.cn.give) := hc' 8 _ rfl
      have d9 : wr.cell? ⟨b', o' + k * 16 + 9, none⟩ = some (.int .i64 d.cn.first) := hc' 9 _ rfl
      have d10 : wr.cell? ⟨b', o' + k * 16 + 10, none⟩ = some (.slice nf d.cn.flows.length qf) := hc' 10 _ rfl
      have d11 : wr.cell? ⟨b', o' + k * 16 + 11, none⟩ = some (.bool d.cn.away) := hc' 11 _ rfl
      have d12 : wr.cell? ⟨b', o' + k * 16 + 12, none⟩ = some (.bool d.cn.dead) := hc' 12 _ rfl
      have d13 : wr.cell? ⟨b', o' + k * 16 + 13, none⟩ = some (.string d.rest) := hc' 13 _ rfl
      have d14 : wr.cell? ⟨b', o' + k * 16 + 14, none⟩ = some (.string d.out) := hc' 14 _ rfl
      have d15 : wr.cell? ⟨b', o' + k * 16 + 15, none⟩ = some (.bool d.bad) := hc' 15 _ rfl
      clear hc hc'
      go_wp2_with fail
      have qa0 : ∀ y : Later wr, y.w.cell? ⟨b, o + k * 16, none⟩ = some (.int .i64 d.cn.reg.lim) := fun y => (y.b.cell (p := ⟨b, o + k * 16, none⟩) hb1).trans c0
      have qa1 : ∀ y : Later wr, y.w.cell? ⟨b, o + k * 16 + 1, none⟩ = some (.int .i64 d.cn.reg.top) := fun y => (y.b.cell (p := ⟨b, o + k * 16 + 1, none⟩) hb1).trans c1
      have qa2 : ∀ y : Later wr, y.w.cell? ⟨b, o + k * 16 + 2, none⟩ = some (.slice ae d.cn.reg.es.length pe) := fun y => (y.b.cell (p := ⟨b, o + k * 16 + 2, none⟩) hb1).trans c2
      have qa3 : ∀ y : Later wr, y.w.cell? ⟨b, o + k * 16 + 3, none⟩ = some (.int .i64 d.cn.inr) := fun y => (y.b.cell (p := ⟨b, o + k * 16 + 3, none⟩) hb1).trans c3
      have qa4 : ∀ y : Later wr, y.w.cell? ⟨b, o + k * 16 + 4, none⟩ = some (.slice ai d.cn.inT.length pi) := fun y => (y.b.cell (p := ⟨b, o + k * 16 + 4, none⟩) hb1).trans c4
      have qa5 : ∀ y : Later wr, y.w.cell? ⟨b, o + k * 16 + 5, none⟩ = some (.int .i64 d.cn.outr) := fun y => (y.b.cell (p := ⟨b, o + k * 16 + 5, none⟩) hb1).trans c5
      have qa6 : ∀ y : Later wr, y.w.cell? ⟨b, o + k * 16 + 6, none⟩ = some (.slice ao d.cn.outT.length po) := fun y => (y.b.cell (p := ⟨b, o + k * 16 + 6, none⟩) hb1).trans c6
      have qa7 : ∀ y : Later wr, y.w.cell? ⟨b, o + k * 16 + 7, none⟩ = some (.int .i64 d.cn.get) := fun y => (y.b.cell (p := ⟨b, o + k * 16 + 7, none⟩) hb1).trans c7
      have qa8 : ∀ y : Later wr, y.w.cell? ⟨b, o + k * 16 + 8, none⟩ = some (.int .i64 d.cn.give) := fun y => (y.b.cell (p := ⟨b, o + k * 16 + 8, none⟩) hb1).trans c8
      have qa9 : ∀ y : Later wr, y.w.cell? ⟨b, o + k * 16 + 9, none⟩ = some (.int .i64 d.cn.first) := fun y => (y.b.cell (p := ⟨b, o + k * 16 + 9, none⟩) hb1).trans c9
      have qa10 : ∀ y : Later wr, y.w.cell? ⟨b, o + k * 16 + 10, none⟩ = some (.slice af d.cn.flows.length pf) := fun y => (y.b.cell (p := ⟨b, o + k * 16 + 10, none⟩) hb1).trans c10
      have qa11 : ∀ y : Later wr, y.w.cell? ⟨b, o + k * 16 + 11, none⟩ = some (.bool d.cn.away) := fun y => (y.b.cell (p := ⟨b, o + k * 16 + 11, none⟩) hb1).trans c11
      have qa12 : ∀ y : Later wr, y.w.cell? ⟨b, o + k * 16 + 12, none⟩ = some (.bool d.cn.dead) := fun y => (y.b.cell (p := ⟨b, o + k * 16 + 12, none⟩) hb1).trans c12
      have qa13 : ∀ y : Later wr, y.w.cell? ⟨b, o + k * 16 + 13, none⟩ = some (.string d.rest) := fun y => (y.b.cell (p := ⟨b, o + k * 16 + 13, none⟩) hb1).trans c13
      have qa14 : ∀ y : Later wr, y.w.cell? ⟨b, o + k * 16 + 14, none⟩ = some (.string d.out) := fun y => (y.b.cell (p := ⟨b, o + k * 16 + 14, none⟩) hb1).trans c14
      have qa15 : ∀ y : Later wr, y.w.cell? ⟨b, o + k * 16 + 15, none⟩ = some (.bool d.bad) := fun y => (y.b.cell (p := ⟨b, o + k * 16 + 15, none⟩) hb1).trans c15
      have qb0 : ∀ y : Later wr, y.w.cell? ⟨b', o' + k * 16, none⟩ = some (.int .i64 d.cn.reg.lim) := fun y => (y.b.cell (p := ⟨b', o' + k * 16, none⟩) hb2).trans d0
      have qb1 : ∀ y : Later wr, y.w.cell? ⟨b', o' + k * 16 + 1, none⟩ = some (.int .i64 d.cn.reg.top) := fun y => (y.b.cell (p := ⟨b', o' + k * 16 + 1, none⟩) hb2).trans d1
      have qb2 : ∀ y : Later wr, y.w.cell? ⟨b', o' + k * 16 + 2, none⟩ = some (.slice ne d.cn.reg.es.length qe) := fun y => (y.b.cell (p := ⟨b', o' + k * 16 + 2, none⟩) hb2).trans d2
      have qb3 : ∀ y : Later wr, y.w.cell? ⟨b', o' + k * 16 + 3, none⟩ = some (.int .i64 d.cn.inr) := fun y => (y.b.cell (p := ⟨b', o' + k * 16 + 3, none⟩) hb2).trans d3
      have qb4 : ∀ y : Later wr, y.w.cell? ⟨b', o' + k * 16 + 4, none⟩ = some (.slice ni d.cn.inT.length qi) := fun y => (y.b.cell (p := ⟨b', o' + k * 16 + 4, none⟩) hb2).trans d4
      have qb5 : ∀ y : Later wr, y.w.cell? ⟨b', o' + k * 16 + 5, none⟩ = some (.int .i64 d.cn.outr) := fun y => (y.b.cell (p := ⟨b', o' + k * 16 + 5, none⟩) hb2).trans d5
      have qb6 : ∀ y : Later wr, y.w.cell? ⟨b', o' + k * 16 + 6, none⟩ = some (.slice no d.cn.outT.length qo) := fun y => (y.b.cell (p := ⟨b', o' + k * 16 + 6, none⟩) hb2).trans d6
      have qb7 : ∀ y : Later wr, y.w.cell? ⟨b', o' + k * 16 + 7, none⟩ = some (.int .i64 d.cn.get) := fun y => (y.b.cell (p := ⟨b', o' + k * 16 + 7, none⟩) hb2).trans d7
      have qb8 : ∀ y : Later wr, y.w.cell? ⟨b', o' + k * 16 + 8, none⟩ = some (.int .i64 d.cn.give) := fun y => (y.b.cell (p := ⟨b', o' + k * 16 + 8, none⟩) hb2).trans d8
      have qb9 : ∀ y : Later wr, y.w.cell? ⟨b', o' + k * 16 + 9, none⟩ = some (.int .i64 d.cn.first) := fun y => (y.b.cell (p := ⟨b', o' + k * 16 + 9, none⟩) hb2).trans d9
      have qb10 : ∀ y : Later wr, y.w.cell? ⟨b', o' + k * 16 + 10, none⟩ = some (.slice nf d.cn.flows.length qf) := fun y => (y.b.cell (p := ⟨b', o' + k * 16 + 10, none⟩) hb2).trans d10
      have qb11 : ∀ y : Later wr, y.w.cell? ⟨b', o' + k * 16 + 11, none⟩ = some (.bool d.cn.away) := fun y => (y.b.cell (p := ⟨b', o' + k * 16 + 11, none⟩) hb2).trans d11
      have qb12 : ∀ y : Later wr, y.w.cell? ⟨b', o' + k * 16 + 12, none⟩ = some (.bool d.cn.dead) := fun y => (y.b.cell (p := ⟨b', o' + k * 16 + 12, none⟩) hb2).trans d12
      have qb13 : ∀ y : Later wr, y.w.cell? ⟨b', o' + k * 16 + 13, none⟩ = some (.string d.rest) := fun y => (y.b.cell (p := ⟨b', o' + k * 16 + 13, none⟩) hb2).trans d13
      have qb14 : ∀ y : Later wr, y.w.cell? ⟨b', o' + k * 16 + 14, none⟩ = some (.string d.out) := fun y => (y.b.cell (p := ⟨b', o' + k * 16 + 14, none⟩) hb2).trans d14
      have qb15 : ∀ y : Later wr, y.w.cell? ⟨b', o' + k * 16 + 15, none⟩ = some (.bool d.bad) := fun y => (y.b.cell (p := ⟨b', o' + k * 16 + 15, none⟩) hb2).trans d15
      clear c0 c1 c2 c3 c4 c5 c6 c7 c8 c9 c10 c11 c12 c13 c14 c15 d0 d1 d2 d3 d4 d5 d6 d7 d8 d9 d10 d11 d12 d13 d14 d15
      have hne : Nonempty (Later wr) := ⟨⟨wr, Below.refl _ _⟩⟩; refine region_later (by kernel_rfl) (by kernel_rfl) ?_
      repeat (go_big_quiet_step (fail))
      go_big_quiet_want; go_big_quiet_op
      refine ⟨.bool true, fun y => later_calls (x := y) (eqSeat1 d _ _ _ _ _ _ _ _ y.w (HV.out.new y.b) hf0 hf1 (HU.out.new y.b)), ?_⟩
      go_big_quiet_on
      repeat (go_big_quiet_step (fail))
      refine wpQuiet_nil ?_; intro _ hw'; obtain ⟨y, hw''⟩ := hw'; subst hw''; have hby := y.b
      go_wp2_with fail
      go_roundw
      case rel => exact ⟨k + 1, by go_num, by omega, bchain hb hby⟩
      case measure => simp [intOf]; omega
    · go_wp2_with fail
      go_ret
      exact ⟨rfl, hb⟩
end Go.Proofs.YtkhclhnejnpkeaaGreat
/- Chapter 17's model: which Conn is right; a new one (by gen_connspec.py). -/
namespace Go.Proofs.YtkhclhnejnpkeaaGreat
open Go.RowKit
set_option maxRecDepth 100000
set_option linter.unusedSimpArgs false
set_option linter.unusedVariables false
theorem okCn_no {c : CnD} (h : ¬ (okRg c.reg = true ∧ okT c.inr c.inT = true ∧ okT c.outr c.outT = true ∧ winB c.get = true ∧ winB c.give = true ∧ inB c.first 0 16777215 = true ∧ okFls c.flows c.reg.es = true)) : okCn c = false := by
  cases e : okCn c
  · rfl
  · unfold okCn at e
    simp only [Bool.and_eq_true] at e
    obtain ⟨⟨⟨⟨⟨⟨a, b⟩, c⟩, d⟩, e⟩, f⟩, g⟩ := e
    exact absurd ⟨a, b, c, d, e, f, g⟩ h
theorem okCn_yes {c : CnD} (h1 : okRg c.reg = true) (h2 : okT c.inr c.inT = true) (h3 : okT c.outr c.outT = true) (h4 : winB c.get = true) (h5 : winB c.give = true) (h6 : inB c.first 0 16777215 = true) (h7 : okFls c.flows c.reg.es = true) : okCn c = true := by
  unfold okCn; rw [h1, h2, h3, h4, h5, h6, h7]; rfl
theorem okFls_no {fs : List FlD} {es : List EntryD} {i : Nat} (h : i < fs.length) (h' : i < es.length) (hn : okFl fs[i] es[i] = false) : okFls fs es = false := by
  cases e : okFls fs es
  · rfl
  · rw [okFls_get e i h h'] at hn; cases hn
theorem okFl_no {f : FlD} {e : EntryD} (h : ¬ (f.id = e.id ∧ winB f.get = true ∧ winB f.give = true ∧ okFs f.fds = true ∧ okTu f.tun = true)) : okFl f e = false := by
  cases q : okFl f e
  · rfl
  · unfold okFl at q
    simp only [Bool.and_eq_true, decide_eq_true_eq] at q
    obtain ⟨⟨⟨⟨a, b⟩, c⟩, d⟩, e⟩ := q
    exact absurd ⟨a, b, c, d, e⟩ h
theorem okFl_yes {f : FlD} {e : EntryD} (h1 : f.id = e.id) (h2 : winB f.get = true) (h3 : winB f.give = true) (h4 : okFs f.fds = true) (h5 : okTu f.tun = true) : okFl f e = true := by
  unfold okFl; rw [decide_eq_true h1, h2, h3, h4, h5]; rfl
set_option maxHeartbeats 2000000 in
theorem specNewConn (limit : Int) (w : World) : Calls Tryz.prog 39 #[.int .i64 limit] w fun x w' => x = .returned (.tuple #[cnv (newCn limit).1 (.slice none 0 0) (.slice none 0 0) (.slice none 0 0) (.slice none 0 0), .bool (newCn limit).2]) ∧ Below w.heap.size w w' := by
  cases hk : inB limit 0 20
  · have hv : newCn limit = (zCn, false) := by unfold newCn; rw [if_neg (by rw [hk]; decide)]
    rw [hv]
    dsimp only [cnv, zCn]
    go_enter Tryz.func39, Tryz.ntmps39
    go_wp2_with fail
    refine (specIn _ _ _ _).mono ?_; rw [hk]; rintro e w1 ⟨rfl, hsame⟩; obtain rfl := hsame.symm; clear hsame
    go_wp2_with fail
    refine bodyPost_ret (v := .tuple #[.agg #[.int .i64 0, .int .i64 0, .slice none 0 0, .int .i64 0, .slice none 0 0, .int .i64 0, .slice none 0 0, .int .i64 0, .int .i64 0, .int .i64 0, .slice none 0 0, .bool false, .bool false], .bool false]) (by simp [results, Tryz.results39, go_sem, *]) rfl ?_
    exact ⟨rfl, (by repeat' (first | (with_reducible exact Below.refl _ _) | (with_reducible refine Below.drew ?_) | (with_reducible refine bo_drewN _ ?_) | (with_reducible refine bo_alloc ?_ _) | (refine bchain ?_ (by with_reducible assumption)) | (with_reducible refine Below.setCell ?_ ?_ _) | go_size))⟩
  · have hv : newCn limit = (⟨⟨limit, 0, []⟩, 400, [], 400, [], 2000, 2000, 500, [], false, false⟩, true) := by unfold newCn; rw [if_pos hk]
    rw [hv]
    dsimp only [cnv]
    go_enter Tryz.func39, Tryz.ntmps39
    go_wp2_with fail
    refine (specIn _ _ _ _).mono ?_; rw [hk]; rintro e w1 ⟨rfl, hsame⟩; obtain rfl := hsame.symm; clear hsame
    go_wp2_with fail
    refine bodyPost_ret (v := .tuple #[.agg #[.int .i64 limit, .int .i64 0, .slice none 0 0, .int .i64 400, .slice none 0 0, .int .i64 400, .slice none 0 0, .int .i64 2000, .int .i64 2000, .int .i64 500, .slice none 0 0, .bool false, .bool false], .bool true]) (by simp [results, Tryz.results39, go_sem, *]) rfl ?_
    exact ⟨rfl, (by repeat' (first | (with_reducible exact Below.refl _ _) | (with_reducible refine Below.drew ?_) | (with_reducible refine bo_drewN _ ?_) | (with_reducible refine bo_alloc ?_ _) | (refine bchain ?_ (by with_reducible assumption)) | (with_reducible refine Below.setCell ?_ ?_ _) | go_size))⟩
end Go.Proofs.YtkhclhnejnpkeaaGreat
