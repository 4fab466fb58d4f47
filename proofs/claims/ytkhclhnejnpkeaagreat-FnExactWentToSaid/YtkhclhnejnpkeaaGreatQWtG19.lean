/- Several small texts of one level, one behind the other. -/
import Derived.Test.YtkhclhnejnpkeaaGreatQWtShConn
import Derived.Test.YtkhclhnejnpkeaaGreatQWtG18
import Derived.Test.YtkhclhnejnpkeaaGreatQWtG12
import Derived.Test.YtkhclhnejnpkeaaGreatQWtG4
import Derived.Test.YtkhclhnejnpkeaaGreatQWtG7
/- A Seat in memory: its make; counted, copied, held against each other, and rows of them; one that came in (by gen_shseat.py). -/
namespace Go.Proofs.YtkhclhnejnpkeaaGreat
open Go.RowKit
set_option maxRecDepth 100000
set_option linter.unusedSimpArgs false
set_option linter.unusedVariables false
/-- What a Seat holds. -/
structure StD where
  cn : CnD
  rest : ByteArray
  out : ByteArray
  bad : Bool
def seatS : Shp StD where
  size := 16
  ty := 65
  rd := fun w cs d => ∃ ve vi vo vf : Value, cs = [.int .i64 d.cn.reg.lim, .int .i64 d.cn.reg.top, ve, .int .i64 d.cn.inr, vi, .int .i64 d.cn.outr, vo, .int .i64 d.cn.get, .int .i64 d.cn.give, .int .i64 d.cn.first, vf, .bool d.cn.away, .bool d.cn.dead, .string d.rest, .string d.out, .bool d.bad] ∧ d.rest.size ≤ 9223372036854775807 ∧ d.out.size ≤ 9223372036854775807 ∧ CnRd w d.cn ve vi vo vf
  own := fun w cs d bs => ∃ ve vi vo vf : Value, cs = [.int .i64 d.cn.reg.lim, .int .i64 d.cn.reg.top, ve, .int .i64 d.cn.inr, vi, .int .i64 d.cn.outr, vo, .int .i64 d.cn.get, .int .i64 d.cn.give, .int .i64 d.cn.first, vf, .bool d.cn.away, .bool d.cn.dead, .string d.rest, .string d.out, .bool d.bad] ∧ d.rest.size ≤ 9223372036854775807 ∧ d.out.size ≤ 9223372036854775807 ∧ CnOw w bs d.cn ve vi vo vf
  pos := by decide
  rd_len := fun h => by obtain ⟨ve, vi, vo, vf, rfl, _⟩ := h; rfl
  rd_one := fun h u hu => by
    obtain ⟨ve, vi, vo, vf, rfl, f0, f1, h0⟩ := h
    obtain ⟨_, _, rfl, _⟩ := h0.e.form
    obtain ⟨_, _, rfl, _⟩ := h0.i.form
    obtain ⟨_, _, rfl, _⟩ := h0.o.form
    obtain ⟨_, _, rfl, _⟩ := h0.f.form
    simp only [List.mem_cons, List.not_mem_nil, or_false] at hu
    rcases hu with rfl | rfl | rfl | rfl | rfl | rfl | rfl | rfl | rfl | rfl | rfl | rfl | rfl | rfl | rfl | rfl <;> rfl
  rd_new := fun h hb => by obtain ⟨ve, vi, vo, vf, rfl, f0, f1, h0⟩ := h; exact ⟨ve, vi, vo, vf, rfl, f0, f1, h0.new hb⟩
  own_rd := fun h => by obtain ⟨ve, vi, vo, vf, rfl, f0, f1, h0⟩ := h; exact ⟨ve, vi, vo, vf, rfl, f0, f1, h0.rd⟩
  own_keep := fun h hs hk => by obtain ⟨ve, vi, vo, vf, rfl, f0, f1, h0⟩ := h; exact ⟨ve, vi, vo, vf, rfl, f0, f1, h0.keep hs hk⟩
  own_lt := fun h b hb => by obtain ⟨ve, vi, vo, vf, rfl, f0, f1, h0⟩ := h; exact h0.lt b hb
/-- How much it holds, as the laws count. -/
def szSeat (d : StD) : Int := szConn d.cn + d.rest.size + d.out.size
theorem szConn_pos (d : CnD) : 0 ≤ szConn d := by unfold szConn; obtain ⟨a, b, c, e⟩ := szConn_nn d; omega
theorem szSeat_nn (d : StD) : 0 ≤ szSeat d := by unfold szSeat; have := szConn_pos d.cn; omega
def szSeatS (L : List StD) : Int := L.length + sumLs szSeat L
theorem szSeatS_nn (L : List StD) : 0 ≤ szSeatS L := by unfold szSeatS; have := sum_nn szSeat szSeat_nn L; omega
theorem szSeatS_mem {L : List StD} {d : StD} (h : d ∈ L) : szSeat d ≤ szSeatS L := by unfold szSeatS; have := sum_mem szSeat szSeat_nn L d h; omega
theorem szSeatS_len (L : List StD) : (L.length : Int) ≤ szSeatS L := by unfold szSeatS; have := sum_nn szSeat szSeat_nn L; omega
set_option maxHeartbeats 4000000 in
theorem toSeat1 (d : StD) (ve vi vo vf : Value) (w : World) (hv : CnRd w d.cn ve vi vo vf) (hf0 : d.rest.size ≤ 9223372036854775807) (hf1 : d.out.size ≤ 9223372036854775807) (hs : szSeat d ≤ 1048576) :
    Calls Tryz.prog 67 #[.agg #[.int .i64 d.cn.reg.lim, .int .i64 d.cn.reg.top, ve, .int .i64 d.cn.inr, vi, .int .i64 d.cn.outr, vo, .int .i64 d.cn.get, .int .i64 d.cn.give, .int .i64 d.cn.first, vf, .bool d.cn.away, .bool d.cn.dead, .string d.rest, .string d.out, .bool d.bad]] w fun x w' => ∃ ue ui uo uf bs, x = .returned (.agg #[.int .i64 d.cn.reg.lim, .int .i64 d.cn.reg.top, ue, .int .i64 d.cn.inr, ui, .int .i64 d.cn.outr, uo, .int .i64 d.cn.get, .int .i64 d.cn.give, .int .i64 d.cn.first, uf, .bool d.cn.away, .bool d.cn.dead, .string d.rest, .string d.out, .bool d.bad]) ∧ CnOw w' bs d.cn ue ui uo uf ∧ (∀ b ∈ bs, w.heap.size ≤ b) ∧ Below w.heap.size w w' := by
  have HV := hide hv
  clear hv
  obtain ⟨ae, pe, rfl, _⟩ := HV.out.e.form
  obtain ⟨ai, pi, rfl, _⟩ := HV.out.i.form
  obtain ⟨ao, po, rfl, _⟩ := HV.out.o.form
  obtain ⟨af, pf, rfl, _⟩ := HV.out.f.form
  have s1 := szConn_pos d.cn
  unfold szSeat at hs
  obtain ⟨W, hW⟩ : ∃ W, ((w.alloc (.cells #[.int .i64 d.cn.reg.lim, .int .i64 d.cn.reg.top, .slice ae d.cn.reg.es.length pe, .int .i64 d.cn.inr, .slice ai d.cn.inT.length pi, .int .i64 d.cn.outr, .slice ao d.cn.outT.length po, .int .i64 d.cn.get, .int .i64 d.cn.give, .int .i64 d.cn.first, .slice af d.cn.flows.length pf, .bool d.cn.away, .bool d.cn.dead, .string d.rest, .string d.out, .bool d.bad] 112)).alloc (.cells #[.int .i64 0, .int .i64 0, .slice none 0 0, .int .i64 0, .slice none 0 0, .int .i64 0, .slice none 0 0, .int .i64 0, .int .i64 0, .int .i64 0, .slice none 0 0, .bool false, .bool false, .string ⟨#[]⟩, .string ⟨#[]⟩, .bool false] 65)).alloc (.cells #[.int .i64 0, .int .i64 0, .slice none 0 0, .int .i64 0, .slice none 0 0, .int .i64 0, .slice none 0 0, .int .i64 0, .int .i64 0, .int .i64 0, .slice none 0 0, .bool false, .bool false, .string ⟨#[]⟩, .string ⟨#[]⟩, .bool false] 65) = W := ⟨_, rfl⟩
  have RX : RowIs W w.heap.size 112 [.int .i64 d.cn.reg.lim, .int .i64 d.cn.reg.top, .slice ae d.cn.reg.es.length pe, .int .i64 d.cn.inr, .slice ai d.cn.inT.length pi, .int .i64 d.cn.outr, .slice ao d.cn.outT.length po, .int .i64 d.cn.get, .int .i64 d.cn.give, .int .i64 d.cn.first, .slice af d.cn.flows.length pf, .bool d.cn.away, .bool d.cn.dead, .string d.rest, .string d.out, .bool d.bad] := by rw [← hW]; exact ((rowIs_new w 112 [.int .i64 d.cn.reg.lim, .int .i64 d.cn.reg.top, .slice ae d.cn.reg.es.length pe, .int .i64 d.cn.inr, .slice ai d.cn.inT.length pi, .int .i64 d.cn.outr, .slice ao d.cn.outT.length po, .int .i64 d.cn.get, .int .i64 d.cn.give, .int .i64 d.cn.first, .slice af d.cn.flows.length pf, .bool d.cn.away, .bool d.cn.dead, .string d.rest, .string d.out, .bool d.bad]).alloc _).alloc _
  have RY : RowIs W (w.heap.size + 1) 65 [.int .i64 0, .int .i64 0, .slice none 0 0, .int .i64 0, .slice none 0 0, .int .i64 0, .slice none 0 0, .int .i64 0, .int .i64 0, .int .i64 0, .slice none 0 0, .bool false, .bool false, .string ⟨#[]⟩, .string ⟨#[]⟩, .bool false] := by have := (rowIs_new (w.alloc (.cells #[.int .i64 d.cn.reg.lim, .int .i64 d.cn.reg.top, .slice ae d.cn.reg.es.length pe, .int .i64 d.cn.inr, .slice ai d.cn.inT.length pi, .int .i64 d.cn.outr, .slice ao d.cn.outT.length po, .int .i64 d.cn.get, .int .i64 d.cn.give, .int .i64 d.cn.first, .slice af d.cn.flows.length pf, .bool d.cn.away, .bool d.cn.dead, .string d.rest, .string d.out, .bool d.bad] 112)) 65 [.int .i64 0, .int .i64 0, .slice none 0 0, .int .i64 0, .slice none 0 0, .int .i64 0, .slice none 0 0, .int .i64 0, .int .i64 0, .int .i64 0, .slice none 0 0, .bool false, .bool false, .string ⟨#[]⟩, .string ⟨#[]⟩, .bool false]).alloc (.cells #[.int .i64 0, .int .i64 0, .slice none 0 0, .int .i64 0, .slice none 0 0, .int .i64 0, .slice none 0 0, .int .i64 0, .int .i64 0, .int .i64 0, .slice none 0 0, .bool false, .bool false, .string ⟨#[]⟩, .string ⟨#[]⟩, .bool false] 65); rw [hW] at this; simpa using this
  have RZ : RowIs W (w.heap.size + 1 + 1) 65 [.int .i64 0, .int .i64 0, .slice none 0 0, .int .i64 0, .slice none 0 0, .int .i64 0, .slice none 0 0, .int .i64 0, .int .i64 0, .int .i64 0, .slice none 0 0, .bool false, .bool false, .string ⟨#[]⟩, .string ⟨#[]⟩, .bool false] := by have := rowIs_new ((w.alloc (.cells #[.int .i64 d.cn.reg.lim, .int .i64 d.cn.reg.top, .slice ae d.cn.reg.es.length pe, .int .i64 d.cn.inr, .slice ai d.cn.inT.length pi, .int .i64 d.cn.outr, .slice ao d.cn.outT.length po, .int .i64 d.cn.get, .int .i64 d.cn.give, .int .i64 d.cn.first, .slice af d.cn.flows.length pf, .bool d.cn.away, .bool d.cn.dead, .string d.rest, .string d.out, .bool d.bad] 112)).alloc (.cells #[.int .i64 0, .int .i64 0, .slice none 0 0, .int .i64 0, .slice none 0 0, .int .i64 0, .slice none 0 0, .int .i64 0, .int .i64 0, .int .i64 0, .slice none 0 0, .bool false, .bool false, .string ⟨#[]⟩, .string ⟨#[]⟩, .bool false] 65)) 65 [.int .i64 0, .int .i64 0, .slice none 0 0, .int .i64 0, .slice none 0 0, .int .i64 0, .slice none 0 0, .int .i64 0, .int .i64 0, .int .i64 0, .slice none 0 0, .bool false, .bool false, .string ⟨#[]⟩, .string ⟨#[]⟩, .bool false]; rw [hW] at this; simpa using this
  have HB : Below w.heap.size w W := by rw [← hW]; exact ((((Below.refl _ _).alloc (Nat.le_refl _) _).alloc (by simp) _).alloc (by simp; omega) _)
  have hWs : w.heap.size + 3 ≤ W.heap.size := by rw [← hW]; first | (simp; done) | (simp; omega)
  go_enter Tryz.func67, Tryz.ntmps67
  have x0 := RowIs.cell (j := 0) RX rfl
  have x1 := RowIs.cell (j := 1) RX rfl
  have x2 := RowIs.cell (j := 2) RX rfl
  have x3 := RowIs.cell (j := 3) RX rfl
  have x4 := RowIs.cell (j := 4) RX rfl
  have x5 := RowIs.cell (j := 5) RX rfl
  have x6 := RowIs.cell (j := 6) RX rfl
  have x7 := RowIs.cell (j := 7) RX rfl
  have x8 := RowIs.cell (j := 8) RX rfl
  have x9 := RowIs.cell (j := 9) RX rfl
  have x10 := RowIs.cell (j := 10) RX rfl
  have x11 := RowIs.cell (j := 11) RX rfl
  have x12 := RowIs.cell (j := 12) RX rfl
  have xf := fun j => RowIs.frozen RX j
  have xl := RX.lt
  go_wp2_with fail
  clear x0 x1 x2 x3 x4 x5 x6 x7 x8 x9 x10 x11 x12 xf xl
  refine (toConn1 d.cn _ _ _ _ _ (HV.out.new HB) (by omega)).mono ?_; rintro x w1 ⟨ue, ui, uo, uf, bs, rfl, hcn, hbs, hb⟩
  obtain ⟨ne, qe, rfl, _⟩ := hcn.rd.e.form
  obtain ⟨ni, qi, rfl, _⟩ := hcn.rd.i.form
  obtain ⟨no, qo, rfl, _⟩ := hcn.rd.o.form
  obtain ⟨nf, qf, rfl, _⟩ := hcn.rd.f.form
  have zw1 := hb.size
  have hbs3 : ∀ b ∈ bs, w.heap.size + 3 ≤ b := fun b hb => by have := hbs b hb; omega
  have HO := hide hcn
  have HBS := hide hbs3
  clear hcn hbs hbs3 hW
  dsimp only [cnv]
  replace RX := RX.new hb
  replace RY := RY.new hb
  replace RZ := RZ.new hb
  replace HB := bchain HB hb
  clear hb
  have z0 := RowIs.cell (j := 0) RZ rfl
  have z1 := RowIs.cell (j := 1) RZ rfl
  have z2 := RowIs.cell (j := 2) RZ rfl
  have z3 := RowIs.cell (j := 3) RZ rfl
  have z4 := RowIs.cell (j := 4) RZ rfl
  have z5 := RowIs.cell (j := 5) RZ rfl
  have z6 := RowIs.cell (j := 6) RZ rfl
  have z7 := RowIs.cell (j := 7) RZ rfl
  have z8 := RowIs.cell (j := 8) RZ rfl
  have z9 := RowIs.cell (j := 9) RZ rfl
  have z10 := RowIs.cell (j := 10) RZ rfl
  have z11 := RowIs.cell (j := 11) RZ rfl
  have z12 := RowIs.cell (j := 12) RZ rfl
  have zf := fun j => RowIs.frozen RZ j
  have zl := RZ.lt
  go_upto_region 3 with fail
  clear z0 z1 z2 z3 z4 z5 z6 z7 z8 z9 z10 z11 z12 zf zl
  have NO := hide (((((((((((((HO.out.keep (w' := w1.setCell ⟨w.heap.size + 1 + 1, 0, none⟩ (.int .i64 d.cn.reg.lim)) (by simp) (fun b hb => Below.heap_setCell _ _ _ _ (fun e => by have := HBS.out b hb; dsimp only at e; omega))).keep (w' := (w1.setCell ⟨w.heap.size + 1 + 1, 0, none⟩ (.int .i64 d.cn.reg.lim)).setCell ⟨w.heap.size + 1 + 1, 1, none⟩ (.int .i64 d.cn.reg.top)) (by simp) (fun b hb => Below.heap_setCell _ _ _ _ (fun e => by have := HBS.out b hb; dsimp only at e; omega))).keep (w' := ((w1.setCell ⟨w.heap.size + 1 + 1, 0, none⟩ (.int .i64 d.cn.reg.lim)).setCell ⟨w.heap.size + 1 + 1, 1, none⟩ (.int .i64 d.cn.reg.top)).setCell ⟨w.heap.size + 1 + 1, 2, none⟩ (.slice ne d.cn.reg.es.length qe)) (by simp) (fun b hb => Below.heap_setCell _ _ _ _ (fun e => by have := HBS.out b hb; dsimp only at e; omega))).keep (w' := (((w1.setCell ⟨w.heap.size + 1 + 1, 0, none⟩ (.int .i64 d.cn.reg.lim)).setCell ⟨w.heap.size + 1 + 1, 1, none⟩ (.int .i64 d.cn.reg.top)).setCell ⟨w.heap.size + 1 + 1, 2, none⟩ (.slice ne d.cn.reg.es.length qe)).setCell ⟨w.heap.size + 1 + 1, 3, none⟩ (.int .i64 d.cn.inr)) (by simp) (fun b hb => Below.heap_setCell _ _ _ _ (fun e => by have := HBS.out b hb; dsimp only at e; omega))).keep (w' := ((((w1.setCell ⟨w.heap.size + 1 + 1, 0, none⟩ (.int .i64 d.cn.reg.lim)).setCell ⟨w.heap.size + 1 + 1, 1, none⟩ (.int .i64 d.cn.reg.top)).setCell ⟨w.heap.size + 1 + 1, 2, none⟩ (.slice ne d.cn.reg.es.length qe)).setCell ⟨w.heap.size + 1 + 1, 3, none⟩ (.int .i64 d.cn.inr)).setCell ⟨w.heap.size + 1 + 1, 4, none⟩ (.slice ni d.cn.inT.length qi)) (by simp) (fun b hb => Below.heap_setCell _ _ _ _ (fun e => by have := HBS.out b hb; dsimp only at e; omega))).keep (w' := (((((w1.setCell ⟨w.heap.size + 1 + 1, 0, none⟩ (.int .i64 d.cn.reg.lim)).setCell ⟨w.heap.size + 1 + 1, 1, none⟩ (.int .i64 d.cn.reg.top)).setCell ⟨w.heap.size + 1 + 1, 2, none⟩ (.slice ne d.cn.reg.es.length qe)).setCell ⟨w.heap.size + 1 + 1, 3, none⟩ (.int .i64 d.cn.inr)).setCell ⟨w.heap.size + 1 + 1, 4, none⟩ (.slice ni d.cn.inT.length qi)).setCell ⟨w.heap.size + 1 + 1, 5, none⟩ (.int .i64 d.cn.outr)) (by simp) (fun b hb => Below.heap_setCell _ _ _ _ (fun e => by have := HBS.out b hb; dsimp only at e; omega))).keep (w' := ((((((w1.setCell ⟨w.heap.size + 1 + 1, 0, none⟩ (.int .i64 d.cn.reg.lim)).setCell ⟨w.heap.size + 1 + 1, 1, none⟩ (.int .i64 d.cn.reg.top)).setCell ⟨w.heap.size + 1 + 1, 2, none⟩ (.slice ne d.cn.reg.es.length qe)).setCell ⟨w.heap.size + 1 + 1, 3, none⟩ (.int .i64 d.cn.inr)).setCell ⟨w.heap.size + 1 + 1, 4, none⟩ (.slice ni d.cn.inT.length qi)).setCell ⟨w.heap.size + 1 + 1, 5, none⟩ (.int .i64 d.cn.outr)).setCell ⟨w.heap.size + 1 + 1, 6, none⟩ (.slice no d.cn.outT.length qo)) (by simp) (fun b hb => Below.heap_setCell _ _ _ _ (fun e => by have := HBS.out b hb; dsimp only at e; omega))).keep (w' := (((((((w1.setCell ⟨w.heap.size + 1 + 1, 0, none⟩ (.int .i64 d.cn.reg.lim)).setCell ⟨w.heap.size + 1 + 1, 1, none⟩ (.int .i64 d.cn.reg.top)).setCell ⟨w.heap.size + 1 + 1, 2, none⟩ (.slice ne d.cn.reg.es.length qe)).setCell ⟨w.heap.size + 1 + 1, 3, none⟩ (.int .i64 d.cn.inr)).setCell ⟨w.heap.size + 1 + 1, 4, none⟩ (.slice ni d.cn.inT.length qi)).setCell ⟨w.heap.size + 1 + 1, 5, none⟩ (.int .i64 d.cn.outr)).setCell ⟨w.heap.size + 1 + 1, 6, none⟩ (.slice no d.cn.outT.length qo)).setCell ⟨w.heap.size + 1 + 1, 7, none⟩ (.int .i64 d.cn.get)) (by simp) (fun b hb => Below.heap_setCell _ _ _ _ (fun e => by have := HBS.out b hb; dsimp only at e; omega))).keep (w' := ((((((((w1.setCell ⟨w.heap.size + 1 + 1, 0, none⟩ (.int .i64 d.cn.reg.lim)).setCell ⟨w.heap.size + 1 + 1, 1, none⟩ (.int .i64 d.cn.reg.top)).setCell ⟨w.heap.size + 1 + 1, 2, none⟩ (.slice ne d.cn.reg.es.length qe)).setCell ⟨w.heap.size + 1 + 1, 3, none⟩ (.int .i64 d.cn.inr)).setCell ⟨w.heap.size + 1 + 1, 4, none⟩ (.slice ni d.cn.inT.length qi)).setCell ⟨w.heap.size + 1 + 1, 5, none⟩ (.int .i64 d.cn.outr)).setCell ⟨w.heap.size + 1 + 1, 6, none⟩ (.slice no d.cn.outT.length qo)).setCell ⟨w.heap.size + 1 + 1, 7, none⟩ (.int .i64 d.cn.get)).setCell ⟨w.heap.size + 1 + 1, 8, none⟩ (.int .i64 d.cn.give)) (by simp) (fun b hb => Below.heap_setCell _ _ _ _ (fun e => by have := HBS.out b hb; dsimp only at e; omega))).keep (w' := (((((((((w1.setCell ⟨w.heap.size + 1 + 1, 0, none⟩ (.int .i64 d.cn.reg.lim)).setCell ⟨w.heap.size + 1 + 1, 1, none⟩ (.int .i64 d.cn.reg.top)).setCell ⟨w.heap.size + 1 + 1, 2, none⟩ (.slice ne d.cn.reg.es.length qe)).setCell ⟨w.heap.size + 1 + 1, 3, none⟩ (.int .i64 d.cn.inr)).setCell ⟨w.heap.size + 1 + 1, 4, none⟩ (.slice ni d.cn.inT.length qi)).setCell ⟨w.heap.size + 1 + 1, 5, none⟩ (.int .i64 d.cn.outr)).setCell ⟨w.heap.size + 1 + 1, 6, none⟩ (.slice no d.cn.outT.length qo)).setCell ⟨w.heap.size + 1 + 1, 7, none⟩ (.int .i64 d.cn.get)).setCell ⟨w.heap.size + 1 + 1, 8, none⟩ (.int .i64 d.cn.give)).setCell ⟨w.heap.size + 1 + 1, 9, none⟩ (.int .i64 d.cn.first)) (by simp) (fun b hb => Below.heap_setCell _ _ _ _ (fun e => by have := HBS.out b hb; dsimp only at e; omega))).keep (w' := ((((((((((w1.setCell ⟨w.heap.size + 1 + 1, 0, none⟩ (.int .i64 d.cn.reg.lim)).setCell ⟨w.heap.size + 1 + 1, 1, none⟩ (.int .i64 d.cn.reg.top)).setCell ⟨w.heap.size + 1 + 1, 2, none⟩ (.slice ne d.cn.reg.es.length qe)).setCell ⟨w.heap.size + 1 + 1, 3, none⟩ (.int .i64 d.cn.inr)).setCell ⟨w.heap.size + 1 + 1, 4, none⟩ (.slice ni d.cn.inT.length qi)).setCell ⟨w.heap.size + 1 + 1, 5, none⟩ (.int .i64 d.cn.outr)).setCell ⟨w.heap.size + 1 + 1, 6, none⟩ (.slice no d.cn.outT.length qo)).setCell ⟨w.heap.size + 1 + 1, 7, none⟩ (.int .i64 d.cn.get)).setCell ⟨w.heap.size + 1 + 1, 8, none⟩ (.int .i64 d.cn.give)).setCell ⟨w.heap.size + 1 + 1, 9, none⟩ (.int .i64 d.cn.first)).setCell ⟨w.heap.size + 1 + 1, 10, none⟩ (.slice nf d.cn.flows.length qf)) (by simp) (fun b hb => Below.heap_setCell _ _ _ _ (fun e => by have := HBS.out b hb; dsimp only at e; omega))).keep (w' := (((((((((((w1.setCell ⟨w.heap.size + 1 + 1, 0, none⟩ (.int .i64 d.cn.reg.lim)).setCell ⟨w.heap.size + 1 + 1, 1, none⟩ (.int .i64 d.cn.reg.top)).setCell ⟨w.heap.size + 1 + 1, 2, none⟩ (.slice ne d.cn.reg.es.length qe)).setCell ⟨w.heap.size + 1 + 1, 3, none⟩ (.int .i64 d.cn.inr)).setCell ⟨w.heap.size + 1 + 1, 4, none⟩ (.slice ni d.cn.inT.length qi)).setCell ⟨w.heap.size + 1 + 1, 5, none⟩ (.int .i64 d.cn.outr)).setCell ⟨w.heap.size + 1 + 1, 6, none⟩ (.slice no d.cn.outT.length qo)).setCell ⟨w.heap.size + 1 + 1, 7, none⟩ (.int .i64 d.cn.get)).setCell ⟨w.heap.size + 1 + 1, 8, none⟩ (.int .i64 d.cn.give)).setCell ⟨w.heap.size + 1 + 1, 9, none⟩ (.int .i64 d.cn.first)).setCell ⟨w.heap.size + 1 + 1, 10, none⟩ (.slice nf d.cn.flows.length qf)).setCell ⟨w.heap.size + 1 + 1, 11, none⟩ (.bool d.cn.away)) (by simp) (fun b hb => Below.heap_setCell _ _ _ _ (fun e => by have := HBS.out b hb; dsimp only at e; omega))).keep (w' := ((((((((((((w1.setCell ⟨w.heap.size + 1 + 1, 0, none⟩ (.int .i64 d.cn.reg.lim)).setCell ⟨w.heap.size + 1 + 1, 1, none⟩ (.int .i64 d.cn.reg.top)).setCell ⟨w.heap.size + 1 + 1, 2, none⟩ (.slice ne d.cn.reg.es.length qe)).setCell ⟨w.heap.size + 1 + 1, 3, none⟩ (.int .i64 d.cn.inr)).setCell ⟨w.heap.size + 1 + 1, 4, none⟩ (.slice ni d.cn.inT.length qi)).setCell ⟨w.heap.size + 1 + 1, 5, none⟩ (.int .i64 d.cn.outr)).setCell ⟨w.heap.size + 1 + 1, 6, none⟩ (.slice no d.cn.outT.length qo)).setCell ⟨w.heap.size + 1 + 1, 7, none⟩ (.int .i64 d.cn.get)).setCell ⟨w.heap.size + 1 + 1, 8, none⟩ (.int .i64 d.cn.give)).setCell ⟨w.heap.size + 1 + 1, 9, none⟩ (.int .i64 d.cn.first)).setCell ⟨w.heap.size + 1 + 1, 10, none⟩ (.slice nf d.cn.flows.length qf)).setCell ⟨w.heap.size + 1 + 1, 11, none⟩ (.bool d.cn.away)).setCell ⟨w.heap.size + 1 + 1, 12, none⟩ (.bool d.cn.dead)) (by simp) (fun b hb => Below.heap_setCell _ _ _ _ (fun e => by have := HBS.out b hb; dsimp only at e; omega)))
  have NRX : RowIs (((((((((((((w1.setCell ⟨(w.heap.size + 1 + 1), 0, none⟩ (.int .i64 d.cn.reg.lim)).setCell ⟨(w.heap.size + 1 + 1), 1, none⟩ (.int .i64 d.cn.reg.top)).setCell ⟨(w.heap.size + 1 + 1), 2, none⟩ (.slice ne d.cn.reg.es.length qe)).setCell ⟨(w.heap.size + 1 + 1), 3, none⟩ (.int .i64 d.cn.inr)).setCell ⟨(w.heap.size + 1 + 1), 4, none⟩ (.slice ni d.cn.inT.length qi)).setCell ⟨(w.heap.size + 1 + 1), 5, none⟩ (.int .i64 d.cn.outr)).setCell ⟨(w.heap.size + 1 + 1), 6, none⟩ (.slice no d.cn.outT.length qo)).setCell ⟨(w.heap.size + 1 + 1), 7, none⟩ (.int .i64 d.cn.get)).setCell ⟨(w.heap.size + 1 + 1), 8, none⟩ (.int .i64 d.cn.give)).setCell ⟨(w.heap.size + 1 + 1), 9, none⟩ (.int .i64 d.cn.first)).setCell ⟨(w.heap.size + 1 + 1), 10, none⟩ (.slice nf d.cn.flows.length qf)).setCell ⟨(w.heap.size + 1 + 1), 11, none⟩ (.bool d.cn.away)).setCell ⟨(w.heap.size + 1 + 1), 12, none⟩ (.bool d.cn.dead)) w.heap.size 112 [.int .i64 d.cn.reg.lim, .int .i64 d.cn.reg.top, .slice ae d.cn.reg.es.length pe, .int .i64 d.cn.inr, .slice ai d.cn.inT.length pi, .int .i64 d.cn.outr, .slice ao d.cn.outT.length po, .int .i64 d.cn.get, .int .i64 d.cn.give, .int .i64 d.cn.first, .slice af d.cn.flows.length pf, .bool d.cn.away, .bool d.cn.dead, .string d.rest, .string d.out, .bool d.bad] := (((((((((((((RX.far ⟨(w.heap.size + 1 + 1), 0, none⟩ (.int .i64 d.cn.reg.lim) (show (w.heap.size + 1 + 1) ≠ w.heap.size by omega)).far ⟨(w.heap.size + 1 + 1), 1, none⟩ (.int .i64 d.cn.reg.top) (show (w.heap.size + 1 + 1) ≠ w.heap.size by omega)).far ⟨(w.heap.size + 1 + 1), 2, none⟩ (.slice ne d.cn.reg.es.length qe) (show (w.heap.size + 1 + 1) ≠ w.heap.size by omega)).far ⟨(w.heap.size + 1 + 1), 3, none⟩ (.int .i64 d.cn.inr) (show (w.heap.size + 1 + 1) ≠ w.heap.size by omega)).far ⟨(w.heap.size + 1 + 1), 4, none⟩ (.slice ni d.cn.inT.length qi) (show (w.heap.size + 1 + 1) ≠ w.heap.size by omega)).far ⟨(w.heap.size + 1 + 1), 5, none⟩ (.int .i64 d.cn.outr) (show (w.heap.size + 1 + 1) ≠ w.heap.size by omega)).far ⟨(w.heap.size + 1 + 1), 6, none⟩ (.slice no d.cn.outT.length qo) (show (w.heap.size + 1 + 1) ≠ w.heap.size by omega)).far ⟨(w.heap.size + 1 + 1), 7, none⟩ (.int .i64 d.cn.get) (show (w.heap.size + 1 + 1) ≠ w.heap.size by omega)).far ⟨(w.heap.size + 1 + 1), 8, none⟩ (.int .i64 d.cn.give) (show (w.heap.size + 1 + 1) ≠ w.heap.size by omega)).far ⟨(w.heap.size + 1 + 1), 9, none⟩ (.int .i64 d.cn.first) (show (w.heap.size + 1 + 1) ≠ w.heap.size by omega)).far ⟨(w.heap.size + 1 + 1), 10, none⟩ (.slice nf d.cn.flows.length qf) (show (w.heap.size + 1 + 1) ≠ w.heap.size by omega)).far ⟨(w.heap.size + 1 + 1), 11, none⟩ (.bool d.cn.away) (show (w.heap.size + 1 + 1) ≠ w.heap.size by omega)).far ⟨(w.heap.size + 1 + 1), 12, none⟩ (.bool d.cn.dead) (show (w.heap.size + 1 + 1) ≠ w.heap.size by omega))
  have NRY : RowIs (((((((((((((w1.setCell ⟨(w.heap.size + 1 + 1), 0, none⟩ (.int .i64 d.cn.reg.lim)).setCell ⟨(w.heap.size + 1 + 1), 1, none⟩ (.int .i64 d.cn.reg.top)).setCell ⟨(w.heap.size + 1 + 1), 2, none⟩ (.slice ne d.cn.reg.es.length qe)).setCell ⟨(w.heap.size + 1 + 1), 3, none⟩ (.int .i64 d.cn.inr)).setCell ⟨(w.heap.size + 1 + 1), 4, none⟩ (.slice ni d.cn.inT.length qi)).setCell ⟨(w.heap.size + 1 + 1), 5, none⟩ (.int .i64 d.cn.outr)).setCell ⟨(w.heap.size + 1 + 1), 6, none⟩ (.slice no d.cn.outT.length qo)).setCell ⟨(w.heap.size + 1 + 1), 7, none⟩ (.int .i64 d.cn.get)).setCell ⟨(w.heap.size + 1 + 1), 8, none⟩ (.int .i64 d.cn.give)).setCell ⟨(w.heap.size + 1 + 1), 9, none⟩ (.int .i64 d.cn.first)).setCell ⟨(w.heap.size + 1 + 1), 10, none⟩ (.slice nf d.cn.flows.length qf)).setCell ⟨(w.heap.size + 1 + 1), 11, none⟩ (.bool d.cn.away)).setCell ⟨(w.heap.size + 1 + 1), 12, none⟩ (.bool d.cn.dead)) (w.heap.size + 1) 65 [.int .i64 0, .int .i64 0, .slice none 0 0, .int .i64 0, .slice none 0 0, .int .i64 0, .slice none 0 0, .int .i64 0, .int .i64 0, .int .i64 0, .slice none 0 0, .bool false, .bool false, .string ⟨#[]⟩, .string ⟨#[]⟩, .bool false] := (((((((((((((RY.far ⟨(w.heap.size + 1 + 1), 0, none⟩ (.int .i64 d.cn.reg.lim) (show (w.heap.size + 1 + 1) ≠ (w.heap.size + 1) by omega)).far ⟨(w.heap.size + 1 + 1), 1, none⟩ (.int .i64 d.cn.reg.top) (show (w.heap.size + 1 + 1) ≠ (w.heap.size + 1) by omega)).far ⟨(w.heap.size + 1 + 1), 2, none⟩ (.slice ne d.cn.reg.es.length qe) (show (w.heap.size + 1 + 1) ≠ (w.heap.size + 1) by omega)).far ⟨(w.heap.size + 1 + 1), 3, none⟩ (.int .i64 d.cn.inr) (show (w.heap.size + 1 + 1) ≠ (w.heap.size + 1) by omega)).far ⟨(w.heap.size + 1 + 1), 4, none⟩ (.slice ni d.cn.inT.length qi) (show (w.heap.size + 1 + 1) ≠ (w.heap.size + 1) by omega)).far ⟨(w.heap.size + 1 + 1), 5, none⟩ (.int .i64 d.cn.outr) (show (w.heap.size + 1 + 1) ≠ (w.heap.size + 1) by omega)).far ⟨(w.heap.size + 1 + 1), 6, none⟩ (.slice no d.cn.outT.length qo) (show (w.heap.size + 1 + 1) ≠ (w.heap.size + 1) by omega)).far ⟨(w.heap.size + 1 + 1), 7, none⟩ (.int .i64 d.cn.get) (show (w.heap.size + 1 + 1) ≠ (w.heap.size + 1) by omega)).far ⟨(w.heap.size + 1 + 1), 8, none⟩ (.int .i64 d.cn.give) (show (w.heap.size + 1 + 1) ≠ (w.heap.size + 1) by omega)).far ⟨(w.heap.size + 1 + 1), 9, none⟩ (.int .i64 d.cn.first) (show (w.heap.size + 1 + 1) ≠ (w.heap.size + 1) by omega)).far ⟨(w.heap.size + 1 + 1), 10, none⟩ (.slice nf d.cn.flows.length qf) (show (w.heap.size + 1 + 1) ≠ (w.heap.size + 1) by omega)).far ⟨(w.heap.size + 1 + 1), 11, none⟩ (.bool d.cn.away) (show (w.heap.size + 1 + 1) ≠ (w.heap.size + 1) by omega)).far ⟨(w.heap.size + 1 + 1), 12, none⟩ (.bool d.cn.dead) (show (w.heap.size + 1 + 1) ≠ (w.heap.size + 1) by omega))
  have NRZ : RowIs (((((((((((((w1.setCell ⟨(w.heap.size + 1 + 1), 0, none⟩ (.int .i64 d.cn.reg.lim)).setCell ⟨(w.heap.size + 1 + 1), 1, none⟩ (.int .i64 d.cn.reg.top)).setCell ⟨(w.heap.size + 1 + 1), 2, none⟩ (.slice ne d.cn.reg.es.length qe)).setCell ⟨(w.heap.size + 1 + 1), 3, none⟩ (.int .i64 d.cn.inr)).setCell ⟨(w.heap.size + 1 + 1), 4, none⟩ (.slice ni d.cn.inT.length qi)).setCell ⟨(w.heap.size + 1 + 1), 5, none⟩ (.int .i64 d.cn.outr)).setCell ⟨(w.heap.size + 1 + 1), 6, none⟩ (.slice no d.cn.outT.length qo)).setCell ⟨(w.heap.size + 1 + 1), 7, none⟩ (.int .i64 d.cn.get)).setCell ⟨(w.heap.size + 1 + 1), 8, none⟩ (.int .i64 d.cn.give)).setCell ⟨(w.heap.size + 1 + 1), 9, none⟩ (.int .i64 d.cn.first)).setCell ⟨(w.heap.size + 1 + 1), 10, none⟩ (.slice nf d.cn.flows.length qf)).setCell ⟨(w.heap.size + 1 + 1), 11, none⟩ (.bool d.cn.away)).setCell ⟨(w.heap.size + 1 + 1), 12, none⟩ (.bool d.cn.dead)) (w.heap.size + 1 + 1) 65 [.int .i64 d.cn.reg.lim, .int .i64 d.cn.reg.top, .slice ne d.cn.reg.es.length qe, .int .i64 d.cn.inr, .slice ni d.cn.inT.length qi, .int .i64 d.cn.outr, .slice no d.cn.outT.length qo, .int .i64 d.cn.get, .int .i64 d.cn.give, .int .i64 d.cn.first, .slice nf d.cn.flows.length qf, .bool d.cn.away, .bool d.cn.dead, .string ⟨#[]⟩, .string ⟨#[]⟩, .bool false] := (((((((((((((RZ.set 0 (.int .i64 d.cn.reg.lim)).set 1 (.int .i64 d.cn.reg.top)).set 2 (.slice ne d.cn.reg.es.length qe)).set 3 (.int .i64 d.cn.inr)).set 4 (.slice ni d.cn.inT.length qi)).set 5 (.int .i64 d.cn.outr)).set 6 (.slice no d.cn.outT.length qo)).set 7 (.int .i64 d.cn.get)).set 8 (.int .i64 d.cn.give)).set 9 (.int .i64 d.cn.first)).set 10 (.slice nf d.cn.flows.length qf)).set 11 (.bool d.cn.away)).set 12 (.bool d.cn.dead))
  have NHB := (((((((((((((HB.setCell (p := ⟨(w.heap.size + 1 + 1), 0, none⟩) (show w.heap.size ≤ (w.heap.size + 1 + 1) by omega) (.int .i64 d.cn.reg.lim)).setCell (p := ⟨(w.heap.size + 1 + 1), 1, none⟩) (show w.heap.size ≤ (w.heap.size + 1 + 1) by omega) (.int .i64 d.cn.reg.top)).setCell (p := ⟨(w.heap.size + 1 + 1), 2, none⟩) (show w.heap.size ≤ (w.heap.size + 1 + 1) by omega) (.slice ne d.cn.reg.es.length qe)).setCell (p := ⟨(w.heap.size + 1 + 1), 3, none⟩) (show w.heap.size ≤ (w.heap.size + 1 + 1) by omega) (.int .i64 d.cn.inr)).setCell (p := ⟨(w.heap.size + 1 + 1), 4, none⟩) (show w.heap.size ≤ (w.heap.size + 1 + 1) by omega) (.slice ni d.cn.inT.length qi)).setCell (p := ⟨(w.heap.size + 1 + 1), 5, none⟩) (show w.heap.size ≤ (w.heap.size + 1 + 1) by omega) (.int .i64 d.cn.outr)).setCell (p := ⟨(w.heap.size + 1 + 1), 6, none⟩) (show w.heap.size ≤ (w.heap.size + 1 + 1) by omega) (.slice no d.cn.outT.length qo)).setCell (p := ⟨(w.heap.size + 1 + 1), 7, none⟩) (show w.heap.size ≤ (w.heap.size + 1 + 1) by omega) (.int .i64 d.cn.get)).setCell (p := ⟨(w.heap.size + 1 + 1), 8, none⟩) (show w.heap.size ≤ (w.heap.size + 1 + 1) by omega) (.int .i64 d.cn.give)).setCell (p := ⟨(w.heap.size + 1 + 1), 9, none⟩) (show w.heap.size ≤ (w.heap.size + 1 + 1) by omega) (.int .i64 d.cn.first)).setCell (p := ⟨(w.heap.size + 1 + 1), 10, none⟩) (show w.heap.size ≤ (w.heap.size + 1 + 1) by omega) (.slice nf d.cn.flows.length qf)).setCell (p := ⟨(w.heap.size + 1 + 1), 11, none⟩) (show w.heap.size ≤ (w.heap.size + 1 + 1) by omega) (.bool d.cn.away)).setCell (p := ⟨(w.heap.size + 1 + 1), 12, none⟩) (show w.heap.size ≤ (w.heap.size + 1 + 1) by omega) (.bool d.cn.dead))
  generalize hV : (((((((((((((w1.setCell ⟨(w.heap.size + 1 + 1), 0, none⟩ (.int .i64 d.cn.reg.lim)).setCell ⟨(w.heap.size + 1 + 1), 1, none⟩ (.int .i64 d.cn.reg.top)).setCell ⟨(w.heap.size + 1 + 1), 2, none⟩ (.slice ne d.cn.reg.es.length qe)).setCell ⟨(w.heap.size + 1 + 1), 3, none⟩ (.int .i64 d.cn.inr)).setCell ⟨(w.heap.size + 1 + 1), 4, none⟩ (.slice ni d.cn.inT.length qi)).setCell ⟨(w.heap.size + 1 + 1), 5, none⟩ (.int .i64 d.cn.outr)).setCell ⟨(w.heap.size + 1 + 1), 6, none⟩ (.slice no d.cn.outT.length qo)).setCell ⟨(w.heap.size + 1 + 1), 7, none⟩ (.int .i64 d.cn.get)).setCell ⟨(w.heap.size + 1 + 1), 8, none⟩ (.int .i64 d.cn.give)).setCell ⟨(w.heap.size + 1 + 1), 9, none⟩ (.int .i64 d.cn.first)).setCell ⟨(w.heap.size + 1 + 1), 10, none⟩ (.slice nf d.cn.flows.length qf)).setCell ⟨(w.heap.size + 1 + 1), 11, none⟩ (.bool d.cn.away)).setCell ⟨(w.heap.size + 1 + 1), 12, none⟩ (.bool d.cn.dead)) = V1 at *
  clear hV
  clear RX
  have RX := NRX
  clear NRX
  clear RY
  have RY := NRY
  clear NRY
  clear RZ
  have RZ := NRZ
  clear NRZ
  clear HB
  have HB := NHB
  clear NHB
  clear HO
  have HO := NO
  clear NO
  have x13 := RowIs.cell (j := 13) RX rfl
  have x14 := RowIs.cell (j := 14) RX rfl
  have x15 := RowIs.cell (j := 15) RX rfl
  have xf := fun j => RowIs.frozen RX j
  have xl := RX.lt
  have z13 := RowIs.cell (j := 13) RZ rfl
  have z14 := RowIs.cell (j := 14) RZ rfl
  have z15 := RowIs.cell (j := 15) RZ rfl
  have zf := fun j => RowIs.frozen RZ j
  have zl := RZ.lt
  go_upto_region 6 with fail
  clear x13 x14 x15 xf xl
  clear z13 z14 z15 zf zl
  have NO := hide (((HO.out.keep (w' := V1.setCell ⟨w.heap.size + 1 + 1, 13, none⟩ (.string d.rest)) (by simp) (fun b hb => Below.heap_setCell _ _ _ _ (fun e => by have := HBS.out b hb; dsimp only at e; omega))).keep (w' := (V1.setCell ⟨w.heap.size + 1 + 1, 13, none⟩ (.string d.rest)).setCell ⟨w.heap.size + 1 + 1, 14, none⟩ (.string d.out)) (by simp) (fun b hb => Below.heap_setCell _ _ _ _ (fun e => by have := HBS.out b hb; dsimp only at e; omega))).keep (w' := ((V1.setCell ⟨w.heap.size + 1 + 1, 13, none⟩ (.string d.rest)).setCell ⟨w.heap.size + 1 + 1, 14, none⟩ (.string d.out)).setCell ⟨w.heap.size + 1 + 1, 15, none⟩ (.bool d.bad)) (by simp) (fun b hb => Below.heap_setCell _ _ _ _ (fun e => by have := HBS.out b hb; dsimp only at e; omega)))
  have NRX : RowIs (((V1.setCell ⟨(w.heap.size + 1 + 1), 13, none⟩ (.string d.rest)).setCell ⟨(w.heap.size + 1 + 1), 14, none⟩ (.string d.out)).setCell ⟨(w.heap.size + 1 + 1), 15, none⟩ (.bool d.bad)) w.heap.size 112 [.int .i64 d.cn.reg.lim, .int .i64 d.cn.reg.top, .slice ae d.cn.reg.es.length pe, .int .i64 d.cn.inr, .slice ai d.cn.inT.length pi, .int .i64 d.cn.outr, .slice ao d.cn.outT.length po, .int .i64 d.cn.get, .int .i64 d.cn.give, .int .i64 d.cn.first, .slice af d.cn.flows.length pf, .bool d.cn.away, .bool d.cn.dead, .string d.rest, .string d.out, .bool d.bad] := (((RX.far ⟨(w.heap.size + 1 + 1), 13, none⟩ (.string d.rest) (show (w.heap.size + 1 + 1) ≠ w.heap.size by omega)).far ⟨(w.heap.size + 1 + 1), 14, none⟩ (.string d.out) (show (w.heap.size + 1 + 1) ≠ w.heap.size by omega)).far ⟨(w.heap.size + 1 + 1), 15, none⟩ (.bool d.bad) (show (w.heap.size + 1 + 1) ≠ w.heap.size by omega))
  have NRY : RowIs (((V1.setCell ⟨(w.heap.size + 1 + 1), 13, none⟩ (.string d.rest)).setCell ⟨(w.heap.size + 1 + 1), 14, none⟩ (.string d.out)).setCell ⟨(w.heap.size + 1 + 1), 15, none⟩ (.bool d.bad)) (w.heap.size + 1) 65 [.int .i64 0, .int .i64 0, .slice none 0 0, .int .i64 0, .slice none 0 0, .int .i64 0, .slice none 0 0, .int .i64 0, .int .i64 0, .int .i64 0, .slice none 0 0, .bool false, .bool false, .string ⟨#[]⟩, .string ⟨#[]⟩, .bool false] := (((RY.far ⟨(w.heap.size + 1 + 1), 13, none⟩ (.string d.rest) (show (w.heap.size + 1 + 1) ≠ (w.heap.size + 1) by omega)).far ⟨(w.heap.size + 1 + 1), 14, none⟩ (.string d.out) (show (w.heap.size + 1 + 1) ≠ (w.heap.size + 1) by omega)).far ⟨(w.heap.size + 1 + 1), 15, none⟩ (.bool d.bad) (show (w.heap.size + 1 + 1) ≠ (w.heap.size + 1) by omega))
  have NRZ : RowIs (((V1.setCell ⟨(w.heap.size + 1 + 1), 13, none⟩ (.string d.rest)).setCell ⟨(w.heap.size + 1 + 1), 14, none⟩ (.string d.out)).setCell ⟨(w.heap.size + 1 + 1), 15, none⟩ (.bool d.bad)) (w.heap.size + 1 + 1) 65 [.int .i64 d.cn.reg.lim, .int .i64 d.cn.reg.top, .slice ne d.cn.reg.es.length qe, .int .i64 d.cn.inr, .slice ni d.cn.inT.length qi, .int .i64 d.cn.outr, .slice no d.cn.outT.length qo, .int .i64 d.cn.get, .int .i64 d.cn.give, .int .i64 d.cn.first, .slice nf d.cn.flows.length qf, .bool d.cn.away, .bool d.cn.dead, .string d.rest, .string d.out, .bool d.bad] := (((RZ.set 13 (.string d.rest)).set 14 (.string d.out)).set 15 (.bool d.bad))
  have NHB := (((HB.setCell (p := ⟨(w.heap.size + 1 + 1), 13, none⟩) (show w.heap.size ≤ (w.heap.size + 1 + 1) by omega) (.string d.rest)).setCell (p := ⟨(w.heap.size + 1 + 1), 14, none⟩) (show w.heap.size ≤ (w.heap.size + 1 + 1) by omega) (.string d.out)).setCell (p := ⟨(w.heap.size + 1 + 1), 15, none⟩) (show w.heap.size ≤ (w.heap.size + 1 + 1) by omega) (.bool d.bad))
  generalize hV : (((V1.setCell ⟨(w.heap.size + 1 + 1), 13, none⟩ (.string d.rest)).setCell ⟨(w.heap.size + 1 + 1), 14, none⟩ (.string d.out)).setCell ⟨(w.heap.size + 1 + 1), 15, none⟩ (.bool d.bad)) = V2 at *
  clear hV
  clear RX
  have RX := NRX
  clear NRX
  clear RY
  have RY := NRY
  clear NRY
  clear RZ
  have RZ := NRZ
  clear NRZ
  clear HB
  have HB := NHB
  clear NHB
  clear HO
  have HO := NO
  clear NO
  go_wp2_with (first | (refine wpList_load_row (by rfl) 65 _ (by rfl) (w.heap.size + 1 + 1) (by rfl) [.int .i64 d.cn.reg.lim, .int .i64 d.cn.reg.top, .slice ne d.cn.reg.es.length qe, .int .i64 d.cn.inr, .slice ni d.cn.inT.length qi, .int .i64 d.cn.outr, .slice no d.cn.outT.length qo, .int .i64 d.cn.get, .int .i64 d.cn.give, .int .i64 d.cn.first, .slice nf d.cn.flows.length qf, .bool d.cn.away, .bool d.cn.dead, .string d.rest, .string d.out, .bool d.bad] _ 65 RZ Tryz.underlying65 rfl (by kernel_rfl) ?_) | (refine wpList_store_row (by rfl) 65 _ _ (by rfl) (w.heap.size + 1) [.int .i64 d.cn.reg.lim, .int .i64 d.cn.reg.top, .slice ne d.cn.reg.es.length qe, .int .i64 d.cn.inr, .slice ni d.cn.inT.length qi, .int .i64 d.cn.outr, .slice no d.cn.outT.length qo, .int .i64 d.cn.get, .int .i64 d.cn.give, .int .i64 d.cn.first, .slice nf d.cn.flows.length qf, .bool d.cn.away, .bool d.cn.dead, .string d.rest, .string d.out, .bool d.bad] (by rfl) (by rfl) 65 [.int .i64 0, .int .i64 0, .slice none 0 0, .int .i64 0, .slice none 0 0, .int .i64 0, .slice none 0 0, .int .i64 0, .int .i64 0, .int .i64 0, .slice none 0 0, .bool false, .bool false, .string ⟨#[]⟩, .string ⟨#[]⟩, .bool false] RY (by kernel_rfl) rfl (by intro u hu; simp at hu; rcases hu with rfl | rfl | rfl | rfl | rfl | rfl | rfl | rfl | rfl | rfl | rfl | rfl | rfl | rfl | rfl | rfl <;> rfl) ?_))
  have NO := hide (HO.out.keep (w' := V2.setRow (w.heap.size + 1) #[.int .i64 d.cn.reg.lim, .int .i64 d.cn.reg.top, .slice ne d.cn.reg.es.length qe, .int .i64 d.cn.inr, .slice ni d.cn.inT.length qi, .int .i64 d.cn.outr, .slice no d.cn.outT.length qo, .int .i64 d.cn.get, .int .i64 d.cn.give, .int .i64 d.cn.first, .slice nf d.cn.flows.length qf, .bool d.cn.away, .bool d.cn.dead, .string d.rest, .string d.out, .bool d.bad]) (by rw [setRow_size]; exact Nat.le_refl _) (fun b hb => setRow_other V2 (w.heap.size + 1) #[.int .i64 d.cn.reg.lim, .int .i64 d.cn.reg.top, .slice ne d.cn.reg.es.length qe, .int .i64 d.cn.inr, .slice ni d.cn.inT.length qi, .int .i64 d.cn.outr, .slice no d.cn.outT.length qo, .int .i64 d.cn.get, .int .i64 d.cn.give, .int .i64 d.cn.first, .slice nf d.cn.flows.length qf, .bool d.cn.away, .bool d.cn.dead, .string d.rest, .string d.out, .bool d.bad] b (by have := HBS.out b hb; omega)))
  have NRX := RX.kept (setRow_other V2 (w.heap.size + 1) #[.int .i64 d.cn.reg.lim, .int .i64 d.cn.reg.top, .slice ne d.cn.reg.es.length qe, .int .i64 d.cn.inr, .slice ni d.cn.inT.length qi, .int .i64 d.cn.outr, .slice no d.cn.outT.length qo, .int .i64 d.cn.get, .int .i64 d.cn.give, .int .i64 d.cn.first, .slice nf d.cn.flows.length qf, .bool d.cn.away, .bool d.cn.dead, .string d.rest, .string d.out, .bool d.bad] w.heap.size (by omega))
  have NRY : RowIs (V2.setRow (w.heap.size + 1) #[.int .i64 d.cn.reg.lim, .int .i64 d.cn.reg.top, .slice ne d.cn.reg.es.length qe, .int .i64 d.cn.inr, .slice ni d.cn.inT.length qi, .int .i64 d.cn.outr, .slice no d.cn.outT.length qo, .int .i64 d.cn.get, .int .i64 d.cn.give, .int .i64 d.cn.first, .slice nf d.cn.flows.length qf, .bool d.cn.away, .bool d.cn.dead, .string d.rest, .string d.out, .bool d.bad]) (w.heap.size + 1) 65 [.int .i64 d.cn.reg.lim, .int .i64 d.cn.reg.top, .slice ne d.cn.reg.es.length qe, .int .i64 d.cn.inr, .slice ni d.cn.inT.length qi, .int .i64 d.cn.outr, .slice no d.cn.outT.length qo, .int .i64 d.cn.get, .int .i64 d.cn.give, .int .i64 d.cn.first, .slice nf d.cn.flows.length qf, .bool d.cn.away, .bool d.cn.dead, .string d.rest, .string d.out, .bool d.bad] := rowIs_setRow (cs' := [.int .i64 d.cn.reg.lim, .int .i64 d.cn.reg.top, .slice ne d.cn.reg.es.length qe, .int .i64 d.cn.inr, .slice ni d.cn.inT.length qi, .int .i64 d.cn.outr, .slice no d.cn.outT.length qo, .int .i64 d.cn.get, .int .i64 d.cn.give, .int .i64 d.cn.first, .slice nf d.cn.flows.length qf, .bool d.cn.away, .bool d.cn.dead, .string d.rest, .string d.out, .bool d.bad]) RY
  have NRZ := RZ.kept (setRow_other V2 (w.heap.size + 1) #[.int .i64 d.cn.reg.lim, .int .i64 d.cn.reg.top, .slice ne d.cn.reg.es.length qe, .int .i64 d.cn.inr, .slice ni d.cn.inT.length qi, .int .i64 d.cn.outr, .slice no d.cn.outT.length qo, .int .i64 d.cn.get, .int .i64 d.cn.give, .int .i64 d.cn.first, .slice nf d.cn.flows.length qf, .bool d.cn.away, .bool d.cn.dead, .string d.rest, .string d.out, .bool d.bad] (w.heap.size + 1 + 1) (by omega))
  have NHB := below_setRow HB (show w.heap.size ≤ (w.heap.size + 1) by omega) #[.int .i64 d.cn.reg.lim, .int .i64 d.cn.reg.top, .slice ne d.cn.reg.es.length qe, .int .i64 d.cn.inr, .slice ni d.cn.inT.length qi, .int .i64 d.cn.outr, .slice no d.cn.outT.length qo, .int .i64 d.cn.get, .int .i64 d.cn.give, .int .i64 d.cn.first, .slice nf d.cn.flows.length qf, .bool d.cn.away, .bool d.cn.dead, .string d.rest, .string d.out, .bool d.bad]
  generalize hV : V2.setRow (w.heap.size + 1) #[.int .i64 d.cn.reg.lim, .int .i64 d.cn.reg.top, .slice ne d.cn.reg.es.length qe, .int .i64 d.cn.inr, .slice ni d.cn.inT.length qi, .int .i64 d.cn.outr, .slice no d.cn.outT.length qo, .int .i64 d.cn.get, .int .i64 d.cn.give, .int .i64 d.cn.first, .slice nf d.cn.flows.length qf, .bool d.cn.away, .bool d.cn.dead, .string d.rest, .string d.out, .bool d.bad] = V3 at *
  clear hV
  clear RX
  have RX := NRX
  clear NRX
  clear RY
  have RY := NRY
  clear NRY
  clear RZ
  have RZ := NRZ
  clear NRZ
  clear HB
  have HB := NHB
  clear NHB
  clear HO
  have HO := NO
  clear NO
  have y0 := RowIs.cell (j := 0) RY rfl
  have y1 := RowIs.cell (j := 1) RY rfl
  have y2 := RowIs.cell (j := 2) RY rfl
  have y3 := RowIs.cell (j := 3) RY rfl
  have y4 := RowIs.cell (j := 4) RY rfl
  have y5 := RowIs.cell (j := 5) RY rfl
  have y6 := RowIs.cell (j := 6) RY rfl
  have y7 := RowIs.cell (j := 7) RY rfl
  have y8 := RowIs.cell (j := 8) RY rfl
  have y9 := RowIs.cell (j := 9) RY rfl
  have y10 := RowIs.cell (j := 10) RY rfl
  have y11 := RowIs.cell (j := 11) RY rfl
  have y12 := RowIs.cell (j := 12) RY rfl
  have y13 := RowIs.cell (j := 13) RY rfl
  have y14 := RowIs.cell (j := 14) RY rfl
  have y15 := RowIs.cell (j := 15) RY rfl
  have yf := fun j => RowIs.frozen RY j
  have yl := RY.lt
  refine bodyPost_ret (v := .agg #[.int .i64 d.cn.reg.lim, .int .i64 d.cn.reg.top, .slice ne d.cn.reg.es.length qe, .int .i64 d.cn.inr, .slice ni d.cn.inT.length qi, .int .i64 d.cn.outr, .slice no d.cn.outT.length qo, .int .i64 d.cn.get, .int .i64 d.cn.give, .int .i64 d.cn.first, .slice nf d.cn.flows.length qf, .bool d.cn.away, .bool d.cn.dead, .string d.rest, .string d.out, .bool d.bad]) (by simp [results, Tryz.results67, go_sem, *]) rfl ?_
  exact ⟨_, _, _, _, bs, rfl, HO.out, fun b hb => by have := HBS.out b hb; omega, HB⟩
set_option maxHeartbeats 4000000 in
theorem eqSeat1 (d : StD) (ve vi vo vf ue ui uo uf : Value) (w : World) (hv : CnRd w d.cn ve vi vo vf) (hf0 : d.rest.size ≤ 9223372036854775807) (hf1 : d.out.size ≤ 9223372036854775807) (hu : CnRd w d.cn ue ui uo uf) :
    Calls Tryz.prog 75 #[.agg #[.int .i64 d.cn.reg.lim, .int .i64 d.cn.reg.top, ve, .int .i64 d.cn.inr, vi, .int .i64 d.cn.outr, vo, .int .i64 d.cn.get, .int .i64 d.cn.give, .int .i64 d.cn.first, vf, .bool d.cn.away, .bool d.cn.dead, .string d.rest, .string d.out, .bool d.bad], .agg #[.int .i64 d.cn.reg.lim, .int .i64 d.cn.reg.top, ue, .int .i64 d.cn.inr, ui, .int .i64 d.cn.outr, uo, .int .i64 d.cn.get, .int .i64 d.cn.give, .int .i64 d.cn.first, uf, .bool d.cn.away, .bool d.cn.dead, .string d.rest, .string d.out, .bool d.bad]] w fun x w' => x = .returned (.bool true) ∧ Below w.heap.size w w' := by
  have HV := hide hv
  have HU := hide hu
  clear hv hu
  obtain ⟨ae, pe, rfl, _⟩ := HV.out.e.form
  obtain ⟨ai, pi, rfl, _⟩ := HV.out.i.form
  obtain ⟨ao, po, rfl, _⟩ := HV.out.o.form
  obtain ⟨af, pf, rfl, _⟩ := HV.out.f.form
  obtain ⟨ne, qe, rfl, _⟩ := HU.out.e.form
  obtain ⟨ni, qi, rfl, _⟩ := HU.out.i.form
  obtain ⟨no, qo, rfl, _⟩ := HU.out.o.form
  obtain ⟨nf, qf, rfl, _⟩ := HU.out.f.form
  obtain ⟨W, hW⟩ : ∃ W, (w.alloc (.cells #[.int .i64 d.cn.reg.lim, .int .i64 d.cn.reg.top, .slice ae d.cn.reg.es.length pe, .int .i64 d.cn.inr, .slice ai d.cn.inT.length pi, .int .i64 d.cn.outr, .slice ao d.cn.outT.length po, .int .i64 d.cn.get, .int .i64 d.cn.give, .int .i64 d.cn.first, .slice af d.cn.flows.length pf, .bool d.cn.away, .bool d.cn.dead, .string d.rest, .string d.out, .bool d.bad] 65)).alloc (.cells #[.int .i64 d.cn.reg.lim, .int .i64 d.cn.reg.top, .slice ne d.cn.reg.es.length qe, .int .i64 d.cn.inr, .slice ni d.cn.inT.length qi, .int .i64 d.cn.outr, .slice no d.cn.outT.length qo, .int .i64 d.cn.get, .int .i64 d.cn.give, .int .i64 d.cn.first, .slice nf d.cn.flows.length qf, .bool d.cn.away, .bool d.cn.dead, .string d.rest, .string d.out, .bool d.bad] 65) = W := ⟨_, rfl⟩
  have RX : RowIs W w.heap.size 65 [.int .i64 d.cn.reg.lim, .int .i64 d.cn.reg.top, .slice ae d.cn.reg.es.length pe, .int .i64 d.cn.inr, .slice ai d.cn.inT.length pi, .int .i64 d.cn.outr, .slice ao d.cn.outT.length po, .int .i64 d.cn.get, .int .i64 d.cn.give, .int .i64 d.cn.first, .slice af d.cn.flows.length pf, .bool d.cn.away, .bool d.cn.dead, .string d.rest, .string d.out, .bool d.bad] := by rw [← hW]; exact (rowIs_new w 65 [.int .i64 d.cn.reg.lim, .int .i64 d.cn.reg.top, .slice ae d.cn.reg.es.length pe, .int .i64 d.cn.inr, .slice ai d.cn.inT.length pi, .int .i64 d.cn.outr, .slice ao d.cn.outT.length po, .int .i64 d.cn.get, .int .i64 d.cn.give, .int .i64 d.cn.first, .slice af d.cn.flows.length pf, .bool d.cn.away, .bool d.cn.dead, .string d.rest, .string d.out, .bool d.bad]).alloc _
  have RY : RowIs W (w.heap.size + 1) 65 [.int .i64 d.cn.reg.lim, .int .i64 d.cn.reg.top, .slice ne d.cn.reg.es.length qe, .int .i64 d.cn.inr, .slice ni d.cn.inT.length qi, .int .i64 d.cn.outr, .slice no d.cn.outT.length qo, .int .i64 d.cn.get, .int .i64 d.cn.give, .int .i64 d.cn.first, .slice nf d.cn.flows.length qf, .bool d.cn.away, .bool d.cn.dead, .string d.rest, .string d.out, .bool d.bad] := by have := rowIs_new (w.alloc (.cells #[.int .i64 d.cn.reg.lim, .int .i64 d.cn.reg.top, .slice ae d.cn.reg.es.length pe, .int .i64 d.cn.inr, .slice ai d.cn.inT.length pi, .int .i64 d.cn.outr, .slice ao d.cn.outT.length po, .int .i64 d.cn.get, .int .i64 d.cn.give, .int .i64 d.cn.first, .slice af d.cn.flows.length pf, .bool d.cn.away, .bool d.cn.dead, .string d.rest, .string d.out, .bool d.bad] 65)) 65 [.int .i64 d.cn.reg.lim, .int .i64 d.cn.reg.top, .slice ne d.cn.reg.es.length qe, .int .i64 d.cn.inr, .slice ni d.cn.inT.length qi, .int .i64 d.cn.outr, .slice no d.cn.outT.length qo, .int .i64 d.cn.get, .int .i64 d.cn.give, .int .i64 d.cn.first, .slice nf d.cn.flows.length qf, .bool d.cn.away, .bool d.cn.dead, .string d.rest, .string d.out, .bool d.bad]; rw [hW] at this; simpa using this
  have HB : Below w.heap.size w W := by rw [← hW]; exact (((Below.refl _ _).alloc (Nat.le_refl _) _).alloc (by simp) _)
  go_enter Tryz.func75, Tryz.ntmps75
  have x0 := RowIs.cell (j := 0) RX rfl
  have x1 := RowIs.cell (j := 1) RX rfl
  have x2 := RowIs.cell (j := 2) RX rfl
  have x3 := RowIs.cell (j := 3) RX rfl
  have x4 := RowIs.cell (j := 4) RX rfl
  have x5 := RowIs.cell (j := 5) RX rfl
  have x6 := RowIs.cell (j := 6) RX rfl
  have x7 := RowIs.cell (j := 7) RX rfl
  have x8 := RowIs.cell (j := 8) RX rfl
  have x9 := RowIs.cell (j := 9) RX rfl
  have x10 := RowIs.cell (j := 10) RX rfl
  have x11 := RowIs.cell (j := 11) RX rfl
  have x12 := RowIs.cell (j := 12) RX rfl
  have xf := fun j => RowIs.frozen RX j
  have xl := RX.lt
  have y0 := RowIs.cell (j := 0) RY rfl
  have y1 := RowIs.cell (j := 1) RY rfl
  have y2 := RowIs.cell (j := 2) RY rfl
  have y3 := RowIs.cell (j := 3) RY rfl
  have y4 := RowIs.cell (j := 4) RY rfl
  have y5 := RowIs.cell (j := 5) RY rfl
  have y6 := RowIs.cell (j := 6) RY rfl
  have y7 := RowIs.cell (j := 7) RY rfl
  have y8 := RowIs.cell (j := 8) RY rfl
  have y9 := RowIs.cell (j := 9) RY rfl
  have y10 := RowIs.cell (j := 10) RY rfl
  have y11 := RowIs.cell (j := 11) RY rfl
  have y12 := RowIs.cell (j := 12) RY rfl
  have yf := fun j => RowIs.frozen RY j
  have yl := RY.lt
  go_wp2_with fail
  clear x0 x1 x2 x3 x4 x5 x6 x7 x8 x9 x10 x11 x12 xf xl
  clear y0 y1 y2 y3 y4 y5 y6 y7 y8 y9 y10 y11 y12 yf yl
  refine (eqConn1 d.cn _ _ _ _ _ _ _ _ _ (HV.out.new HB) (HU.out.new HB)).mono ?_; rintro x w1 ⟨rfl, hb⟩
  replace RX := RX.new hb
  replace RY := RY.new hb
  replace HB := bchain HB hb
  clear hb
  clear hW
  have x13 := RowIs.cell (j := 13) RX rfl
  have x14 := RowIs.cell (j := 14) RX rfl
  have x15 := RowIs.cell (j := 15) RX rfl
  have xf := fun j => RowIs.frozen RX j
  have xl := RX.lt
  have y13 := RowIs.cell (j := 13) RY rfl
  have y14 := RowIs.cell (j := 14) RY rfl
  have y15 := RowIs.cell (j := 15) RY rfl
  have yf := fun j => RowIs.frozen RY j
  have yl := RY.lt
  have c0 : (d.rest.toList != d.rest.toList) = false := by simp
  have c1 : (d.out.toList != d.out.toList) = false := by simp
  have c2 : (d.bad != d.bad) = false := by simp
  go_wp2_with fail
  go_ret
  exact ⟨rfl, HB⟩
set_option maxHeartbeats 4000000 in
theorem szSeat1 (d : StD) (ve vi vo vf : Value) (left : Int) (w : World) (hv : CnRd w d.cn ve vi vo vf) (hf0 : d.rest.size ≤ 9223372036854775807) (hf1 : d.out.size ≤ 9223372036854775807) (h0 : 0 ≤ left) (h1 : left ≤ 1048576) :
    Calls Tryz.prog 58 #[.agg #[.int .i64 d.cn.reg.lim, .int .i64 d.cn.reg.top, ve, .int .i64 d.cn.inr, vi, .int .i64 d.cn.outr, vo, .int .i64 d.cn.get, .int .i64 d.cn.give, .int .i64 d.cn.first, vf, .bool d.cn.away, .bool d.cn.dead, .string d.rest, .string d.out, .bool d.bad], .int .i64 left] w fun x w' => (x = .returned (.int .i64 (-1)) ∨ (x = .returned (.int .i64 (left - szSeat d)) ∧ 0 ≤ left - szSeat d)) ∧ Below w.heap.size w w' := by
  have HV := hide hv
  clear hv
  obtain ⟨ae, pe, rfl, _⟩ := HV.out.e.form
  obtain ⟨ai, pi, rfl, _⟩ := HV.out.i.form
  obtain ⟨ao, po, rfl, _⟩ := HV.out.o.form
  obtain ⟨af, pf, rfl, _⟩ := HV.out.f.form
  have s1 := szConn_pos d.cn
  unfold szSeat
  have RX := rowIs_new w 112 [.int .i64 d.cn.reg.lim, .int .i64 d.cn.reg.top, .slice ae d.cn.reg.es.length pe, .int .i64 d.cn.inr, .slice ai d.cn.inT.length pi, .int .i64 d.cn.outr, .slice ao d.cn.outT.length po, .int .i64 d.cn.get, .int .i64 d.cn.give, .int .i64 d.cn.first, .slice af d.cn.flows.length pf, .bool d.cn.away, .bool d.cn.dead, .string d.rest, .string d.out, .bool d.bad]
  have HB : Below w.heap.size w (w.alloc (.cells #[.int .i64 d.cn.reg.lim, .int .i64 d.cn.reg.top, .slice ae d.cn.reg.es.length pe, .int .i64 d.cn.inr, .slice ai d.cn.inT.length pi, .int .i64 d.cn.outr, .slice ao d.cn.outT.length po, .int .i64 d.cn.get, .int .i64 d.cn.give, .int .i64 d.cn.first, .slice af d.cn.flows.length pf, .bool d.cn.away, .bool d.cn.dead, .string d.rest, .string d.out, .bool d.bad] 112)) := (Below.refl _ _).alloc (Nat.le_refl _) _
  obtain ⟨R, hR⟩ : ∃ R, left - (szConn d.cn + d.rest.size + d.out.size) = R := ⟨_, rfl⟩
  rw [hR]
  go_enter Tryz.func58, Tryz.ntmps58
  go_wp2_with fail
  refine (szConn1 d.cn _ _ _ _ left _ (HV.out.new HB) h0 h1).mono ?_; rintro x u0 ⟨rfl | ⟨rfl, hp0⟩, hb⟩
  · replace HB := bchain HB hb
    go_wp2_with fail
    go_ret
    exact ⟨.inl rfl, HB⟩
  obtain ⟨q0, hq0⟩ : ∃ q, left - szConn d.cn = q := ⟨_, rfl⟩
  rw [hq0] at hp0 ⊢
  have hn0 : ¬ q0 < 0 := by omega
  replace RX := RX.new hb
  replace HB := bchain HB hb
  clear hb
  have x13 := RowIs.cell (j := 13) RX rfl
  have x14 := RowIs.cell (j := 14) RX rfl
  have xf := fun j => RowIs.frozen RX j
  have xl := RX.lt
  by_cases g1 : q0 - d.rest.size < 0
  · go_wp2_with fail
    go_ret
    exact ⟨.inl rfl, HB⟩
  by_cases g2 : q0 - d.rest.size - d.out.size < 0
  · go_wp2_with fail
    go_ret
    exact ⟨.inl rfl, HB⟩
  have hR3 : q0 - d.rest.size - d.out.size = R := by omega
  have hR4 : 0 ≤ R := by omega
  have hq1 : q0 ≤ 1048576 := by omega
  clear hq0 hR
  go_wp2_with fail
  go_ret
  exact ⟨.inr ⟨rfl, hR4⟩, HB⟩
set_option maxHeartbeats 4000000 in
theorem toSeatS (L : List StD) (v : Value) (w : World) (hr : RdR seatS w v L) (hz : szSeatS L ≤ 1048576) :
    Calls Tryz.prog 30 #[v] w fun x w' => ∃ v', x = .returned v' ∧ OwX seatS w' w.heap.size w'.heap.size v' L ∧ Below w.heap.size w w' := by
  have hL : L.length ≤ 1048576 := by have := szSeatS_len L; omega
  obtain ⟨M, hM, hmk⟩ := make_row 31 65 (.agg #[.int .i64 0, .int .i64 0, .slice none 0 0, .int .i64 0, .slice none 0 0, .int .i64 0, .slice none 0 0, .int .i64 0, .int .i64 0, .int .i64 0, .slice none 0 0, .bool false, .bool false, .string ⟨#[]⟩, .string ⟨#[]⟩, .bool false]) 16 200 Tryz.underlying31 (by kernel_rfl) rfl (by decide) (by decide) L.length hL
  have hst := filling_start (E := seatS) (owns_made w M 65 16 L.length hM hL)
  obtain ⟨ad, cap, rfl, h1, h2⟩ := hr.form
  have HR := hide hr
  clear hr
  have HZ := hide hz
  clear hz
  go_enter Tryz.func30, Tryz.ntmps30
  go_wp2_with fail
  go_loopw [4] (fun i wr => ∃ (k : Nat), i = .int .i64 k ∧ k ≤ L.length ∧ Hid (Filling seatS w wr L k)) (fun i _ => L.length - (intOf i).toNat)
  case atStart => exact ⟨0, rfl, Nat.zero_le _, hst⟩
  case round =>
    clear hst hmk
    obtain ⟨k, rfl, hk, HFI⟩ := hrel
    by_cases hlt : k < L.length
    · have hb : Below w.heap.size w wr := HFI.out.2.1
      have hrk := (HR.out.new hb).at k hlt
      have hmem : L[k] ∈ L := List.getElem_mem hlt
      obtain ⟨d, hd⟩ : ∃ d, d = L[k] := ⟨_, rfl⟩
      rw [← hd] at hrk hmem
      obtain ⟨b, o, cs, rfl, hbw, hrd, hc⟩ := hrk
      obtain ⟨ve, vi, vo, vf, rfl, hf0, hf1, hv⟩ := hrd
      have HV := hide hv
      clear hv
      obtain ⟨ae, pe, rfl, _⟩ := HV.out.e.form
      obtain ⟨ai, pi, rfl, _⟩ := HV.out.i.form
      obtain ⟨ao, po, rfl, _⟩ := HV.out.o.form
      obtain ⟨af, pf, rfl, _⟩ := HV.out.f.form
      have hzd : szSeat d ≤ 1048576 := by have := szSeatS_mem hmem; have := HZ.out; omega
      have c0 : wr.cell? ⟨b, o + k * 16, none⟩ = some (.int .i64 d.cn.reg.lim) := hc 0 _ rfl
      have c1 : wr.cell? ⟨b, o + k * 16 + 1, none⟩ = some (.int .i64 d.cn.reg.top) := hc 1 _ rfl
      have c2 : wr.cell? ⟨b, o + k * 16 + 2, none⟩ = some (.slice ae d.cn.reg.es.length pe) := hc 2 _ rfl
      have c3 : wr.cell? ⟨b, o + k * 16 + 3, none⟩ = some (.int .i64 d.cn.inr) := hc 3 _ rfl
      have c4 : wr.cell? ⟨b, o + k * 16 + 4, none⟩ = some (.slice ai d.cn.inT.length pi) := hc 4 _ rfl
      have c5 : wr.cell? ⟨b, o + k * 16 + 5, none⟩ = some (.int .i64 d.cn.outr) := hc 5 _ rfl
      have c6 : wr.cell? ⟨b, o + k * 16 + 6, none⟩ = some (.slice ao d.cn.outT.length po) := hc 6 _ rfl
      have c7 : wr.cell? ⟨b, o + k * 16 + 7, none⟩ = some (.int .i64 d.cn.get) := hc 7 _ rfl
      have c8 : wr.cell? ⟨b, o + k * 16 + 8, none⟩ = some (.int .i64 d.cn.give) := hc 8 _ rfl
      have c9 : wr.cell? ⟨b, o + k * 16 + 9, none⟩ = some (.int .i64 d.cn.first) := hc 9 _ rfl
      have c10 : wr.cell? ⟨b, o + k * 16 + 10, none⟩ = some (.slice af d.cn.flows.length pf) := hc 10 _ rfl
      have c11 : wr.cell? ⟨b, o + k * 16 + 11, none⟩ = some (.bool d.cn.away) := hc 11 _ rfl
      have c12 : wr.cell? ⟨b, o + k * 16 + 12, none⟩ = some (.bool d.cn.dead) := hc 12 _ rfl
      have c13 : wr.cell? ⟨b, o + k * 16 + 13, none⟩ = some (.string d.rest) := hc 13 _ rfl
      have c14 : wr.cell? ⟨b, o + k * 16 + 14, none⟩ = some (.string d.out) := hc 14 _ rfl
      have c15 : wr.cell? ⟨b, o + k * 16 + 15, none⟩ = some (.bool d.bad) := hc 15 _ rfl
      clear hc
      have HD := hide hd
      clear hd hmem
      go_wp2_with fail
      refine (toSeat1 d _ _ _ _ _ HV.out hf0 hf1 hzd).mono ?_
      rintro x w1 ⟨ue, ui, uo, uf, bs, rfl, hcn, hbs, hb1⟩
      obtain ⟨ne, qe, rfl, _⟩ := hcn.rd.e.form
      obtain ⟨ni, qi, rfl, _⟩ := hcn.rd.i.form
      obtain ⟨no, qo, rfl, _⟩ := hcn.rd.o.form
      obtain ⟨nf, qf, rfl, _⟩ := hcn.rd.f.form
      have hoe : OwE seatS w1 wr.heap.size w1.heap.size [.int .i64 d.cn.reg.lim, .int .i64 d.cn.reg.top, .slice ne d.cn.reg.es.length qe, .int .i64 d.cn.inr, .slice ni d.cn.inT.length qi, .int .i64 d.cn.outr, .slice no d.cn.outT.length qo, .int .i64 d.cn.get, .int .i64 d.cn.give, .int .i64 d.cn.first, .slice nf d.cn.flows.length qf, .bool d.cn.away, .bool d.cn.dead, .string d.rest, .string d.out, .bool d.bad] d := ⟨bs, ⟨_, _, _, _, rfl, hf0, hf1, hcn⟩, hcn.nd, fun b hb => ⟨hbs b hb, hcn.lt b hb⟩⟩
      clear hcn hbs
      have HD9 := HD.out
      obtain ⟨hcell, hfr, hlw, hfi⟩ := filling_step HFI.out hlt hb1 (by rw [← HD9]; exact hoe)
      clear HD9
      obtain ⟨x0, hx0⟩ : ∃ u, w1.cell? ⟨w.heap.size, k * 16, none⟩ = some u := hcell 0 (by decide)
      obtain ⟨x1, hx1⟩ : ∃ u, w1.cell? ⟨w.heap.size, k * 16 + 1, none⟩ = some u := hcell 1 (by decide)
      obtain ⟨x2, hx2⟩ : ∃ u, w1.cell? ⟨w.heap.size, k * 16 + 2, none⟩ = some u := hcell 2 (by decide)
      obtain ⟨x3, hx3⟩ : ∃ u, w1.cell? ⟨w.heap.size, k * 16 + 3, none⟩ = some u := hcell 3 (by decide)
      obtain ⟨x4, hx4⟩ : ∃ u, w1.cell? ⟨w.heap.size, k * 16 + 4, none⟩ = some u := hcell 4 (by decide)
      obtain ⟨x5, hx5⟩ : ∃ u, w1.cell? ⟨w.heap.size, k * 16 + 5, none⟩ = some u := hcell 5 (by decide)
      obtain ⟨x6, hx6⟩ : ∃ u, w1.cell? ⟨w.heap.size, k * 16 + 6, none⟩ = some u := hcell 6 (by decide)
      obtain ⟨x7, hx7⟩ : ∃ u, w1.cell? ⟨w.heap.size, k * 16 + 7, none⟩ = some u := hcell 7 (by decide)
      obtain ⟨x8, hx8⟩ : ∃ u, w1.cell? ⟨w.heap.size, k * 16 + 8, none⟩ = some u := hcell 8 (by decide)
      obtain ⟨x9, hx9⟩ : ∃ u, w1.cell? ⟨w.heap.size, k * 16 + 9, none⟩ = some u := hcell 9 (by decide)
      obtain ⟨x10, hx10⟩ : ∃ u, w1.cell? ⟨w.heap.size, k * 16 + 10, none⟩ = some u := hcell 10 (by decide)
      obtain ⟨x11, hx11⟩ : ∃ u, w1.cell? ⟨w.heap.size, k * 16 + 11, none⟩ = some u := hcell 11 (by decide)
      obtain ⟨x12, hx12⟩ : ∃ u, w1.cell? ⟨w.heap.size, k * 16 + 12, none⟩ = some u := hcell 12 (by decide)
      obtain ⟨x13, hx13⟩ : ∃ u, w1.cell? ⟨w.heap.size, k * 16 + 13, none⟩ = some u := hcell 13 (by decide)
      obtain ⟨x14, hx14⟩ : ∃ u, w1.cell? ⟨w.heap.size, k * 16 + 14, none⟩ = some u := hcell 14 (by decide)
      obtain ⟨x15, hx15⟩ : ∃ u, w1.cell? ⟨w.heap.size, k * 16 + 15, none⟩ = some u := hcell 15 (by decide)
      have e6 := hfr
      have HF2 := hide hfi
      clear hcell hfr hfi hoe
      go_wp2_with fail
      go_roundw
      case rel => exact ⟨k + 1, by go_num, by omega, HF2.out⟩
      case measure => simp [intOf]; omega
    · obtain rfl : k = L.length := by omega
      obtain ⟨hox, hbx⟩ := filling_end HFI.out
      have HX := hide hox
      clear hox
      go_wp2_with fail
      go_ret
      exact ⟨_, rfl, HX.out, hbx⟩
set_option maxHeartbeats 4000000 in
theorem eqSeatS (L : List StD) (v v' : Value) (w : World) (hr0 : RdR seatS w v L) (hr1 : RdR seatS w v' L) :
    Calls Tryz.prog 34 #[v, v'] w fun x w' => x = .returned (.bool true) ∧ Below w.heap.size w w' := by
  obtain ⟨ad, cap, rfl, h1, h2⟩ := hr0.form
  obtain ⟨ad', cap', rfl, h1', h2'⟩ := hr1.form
  have HR := hide hr0; have HR' := hide hr1
  clear hr0 hr1
  go_enter Tryz.func34, Tryz.ntmps34
  go_wp2_with fail
  go_loopw [5] (fun i wr => ∃ (k : Nat), i = .int .i64 k ∧ k ≤ L.length ∧ Below w.heap.size w wr) (fun i _ => L.length - (intOf i).toNat)
  case atStart => exact ⟨0, rfl, Nat.zero_le _, Below.refl _ _⟩
  case round =>
    obtain ⟨k, rfl, hk, hb⟩ := hrel
    by_cases hlt : k < L.length
    · have hrk := (HR.out.new hb).at k hlt
      have hrk' := (HR'.out.new hb).at k hlt
      obtain ⟨d, hd⟩ : ∃ d, d = L[k] := ⟨_, rfl⟩
      rw [← hd] at hrk hrk'
      clear hd
      obtain ⟨b, o, cs, rfl, hb1, hrd, hc⟩ := hrk
      obtain ⟨b', o', cs', rfl, hb2, hrd', hc'⟩ := hrk'
      obtain ⟨ve, vi, vo, vf, rfl, hf0, hf1, hv⟩ := hrd
      obtain ⟨ue, ui, uo, uf, rfl, _, _, hu⟩ := hrd'
      have HV := hide hv; have HU := hide hu
      clear hv hu
      obtain ⟨ae, pe, rfl, _⟩ := HV.out.e.form
      obtain ⟨ai, pi, rfl, _⟩ := HV.out.i.form
      obtain ⟨ao, po, rfl, _⟩ := HV.out.o.form
      obtain ⟨af, pf, rfl, _⟩ := HV.out.f.form
      obtain ⟨ne, qe, rfl, _⟩ := HU.out.e.form
      obtain ⟨ni, qi, rfl, _⟩ := HU.out.i.form
      obtain ⟨no, qo, rfl, _⟩ := HU.out.o.form
      obtain ⟨nf, qf, rfl, _⟩ := HU.out.f.form
      have c0 : wr.cell? ⟨b, o + k * 16, none⟩ = some (.int .i64 d.cn.reg.lim) := hc 0 _ rfl
      have c1 : wr.cell? ⟨b, o + k * 16 + 1, none⟩ = some (.int .i64 d.cn.reg.top) := hc 1 _ rfl
      have c2 : wr.cell? ⟨b, o + k * 16 + 2, none⟩ = some (.slice ae d.cn.reg.es.length pe) := hc 2 _ rfl
      have c3 : wr.cell? ⟨b, o + k * 16 + 3, none⟩ = some (.int .i64 d.cn.inr) := hc 3 _ rfl
      have c4 : wr.cell? ⟨b, o + k * 16 + 4, none⟩ = some (.slice ai d.cn.inT.length pi) := hc 4 _ rfl
      have c5 : wr.cell? ⟨b, o + k * 16 + 5, none⟩ = some (.int .i64 d.cn.outr) := hc 5 _ rfl
      have c6 : wr.cell? ⟨b, o + k * 16 + 6, none⟩ = some (.slice ao d.cn.outT.length po) := hc 6 _ rfl
      have c7 : wr.cell? ⟨b, o + k * 16 + 7, none⟩ = some (.int .i64 d.cn.get) := hc 7 _ rfl
      have c8 : wr.cell? ⟨b, o + k * 16 + 8, none⟩ = some (.int .i64 d.cn.give) := hc 8 _ rfl
      have c9 : wr.cell? ⟨b, o + k * 16 + 9, none⟩ = some (.int .i64 d.cn.first) := hc 9 _ rfl
      have c10 : wr.cell? ⟨b, o + k * 16 + 10, none⟩ = some (.slice af d.cn.flows.length pf) := hc 10 _ rfl
      have c11 : wr.cell? ⟨b, o + k * 16 + 11, none⟩ = some (.bool d.cn.away) := hc 11 _ rfl
      have c12 : wr.cell? ⟨b, o + k * 16 + 12, none⟩ = some (.bool d.cn.dead) := hc 12 _ rfl
      have c13 : wr.cell? ⟨b, o + k * 16 + 13, none⟩ = some (.string d.rest) := hc 13 _ rfl
      have c14 : wr.cell? ⟨b, o + k * 16 + 14, none⟩ = some (.string d.out) := hc 14 _ rfl
      have c15 : wr.cell? ⟨b, o + k * 16 + 15, none⟩ = some (.bool d.bad) := hc 15 _ rfl
      have d0 : wr.cell? ⟨b', o' + k * 16, none⟩ = some (.int .i64 d.cn.reg.lim) := hc' 0 _ rfl
      have d1 : wr.cell? ⟨b', o' + k * 16 + 1, none⟩ = some (.int .i64 d.cn.reg.top) := hc' 1 _ rfl
      have d2 : wr.cell? ⟨b', o' + k * 16 + 2, none⟩ = some (.slice ne d.cn.reg.es.length qe) := hc' 2 _ rfl
      have d3 : wr.cell? ⟨b', o' + k * 16 + 3, none⟩ = some (.int .i64 d.cn.inr) := hc' 3 _ rfl
      have d4 : wr.cell? ⟨b', o' + k * 16 + 4, none⟩ = some (.slice ni d.cn.inT.length qi) := hc' 4 _ rfl
      have d5 : wr.cell? ⟨b', o' + k * 16 + 5, none⟩ = some (.int .i64 d.cn.outr) := hc' 5 _ rfl
      have d6 : wr.cell? ⟨b', o' + k * 16 + 6, none⟩ = some (.slice no d.cn.outT.length qo) := hc' 6 _ rfl
      have d7 : wr.cell? ⟨b', o' + k * 16 + 7, none⟩ = some (.int .i64 d.cn.get) := hc' 7 _ rfl
      have d8 : wr.cell? ⟨b', o' + k * 16 + 8, none⟩ = some (.int .i64 d.cn.give) := hc' 8 _ rfl
      have d9 : wr.cell? ⟨b', o' + k * 16 + 9, none⟩ = some (.int .i64 d.cn.first) := hc' 9 _ rfl
      have d10 : wr.cell? ⟨b', o' + k * 16 + 10, none⟩ = some (.slice nf d.cn.flows.length qf) := hc' 10 _ rfl
      have d11 : wr.cell? ⟨b', o' + k * 16 + 11, none⟩ = some (.bool d.cn.away) := hc' 11 _ rfl
      have d12 : wr.cell? ⟨b', o' + k * 16 + 12, none⟩ = some (.bool d.cn.dead) := hc' 12 _ rfl
      have d13 : wr.cell? ⟨b', o' + k * 16 + 13, none⟩ = some (.string d.rest) := hc' 13 _ rfl
      have d14 : wr.cell? ⟨b', o' + k * 16 + 14, none⟩ = some (.string d.out) := hc' 14 _ rfl
      have d15 : wr.cell? ⟨b', o' + k * 16 + 15, none⟩ = some (.bool d.bad) := hc' 15 _ rfl
      clear hc hc'
      go_wp2_with fail
      have qa0 : ∀ y : Later wr, y.w.cell? ⟨b, o + k * 16, none⟩ = some (.int .i64 d.cn.reg.lim) := fun y => (y.b.cell (p := ⟨b, o + k * 16, none⟩) hb1).trans c0
      have qa1 : ∀ y : Later wr, y.w.cell? ⟨b, o + k * 16 + 1, none⟩ = some (.int .i64 d.cn.reg.top) := fun y => (y.b.cell (p := ⟨b, o + k * 16 + 1, none⟩) hb1).trans c1
      have qa2 : ∀ y : Later wr, y.w.cell? ⟨b, o + k * 16 + 2, none⟩ = some (.slice ae d.cn.reg.es.length pe) := fun y => (y.b.cell (p := ⟨b, o + k * 16 + 2, none⟩) hb1).trans c2
      have qa3 : ∀ y : Later wr, y.w.cell? ⟨b, o + k * 16 + 3, none⟩ = some (.int .i64 d.cn.inr) := fun y => (y.b.cell (p := ⟨b, o + k * 16 + 3, none⟩) hb1).trans c3
      have qa4 : ∀ y : Later wr, y.w.cell? ⟨b, o + k * 16 + 4, none⟩ = some (.slice ai d.cn.inT.length pi) := fun y => (y.b.cell (p := ⟨b, o + k * 16 + 4, none⟩) hb1).trans c4
      have qa5 : ∀ y : Later wr, y.w.cell? ⟨b, o + k * 16 + 5, none⟩ = some (.int .i64 d.cn.outr) := fun y => (y.b.cell (p := ⟨b, o + k * 16 + 5, none⟩) hb1).trans c5
      have qa6 : ∀ y : Later wr, y.w.cell? ⟨b, o + k * 16 + 6, none⟩ = some (.slice ao d.cn.outT.length po) := fun y => (y.b.cell (p := ⟨b, o + k * 16 + 6, none⟩) hb1).trans c6
      have qa7 : ∀ y : Later wr, y.w.cell? ⟨b, o + k * 16 + 7, none⟩ = some (.int .i64 d.cn.get) := fun y => (y.b.cell (p := ⟨b, o + k * 16 + 7, none⟩) hb1).trans c7
      have qa8 : ∀ y : Later wr, y.w.cell? ⟨b, o + k * 16 + 8, none⟩ = some (.int .i64 d.cn.give) := fun y => (y.b.cell (p := ⟨b, o + k * 16 + 8, none⟩) hb1).trans c8
      have qa9 : ∀ y : Later wr, y.w.cell? ⟨b, o + k * 16 + 9, none⟩ = some (.int .i64 d.cn.first) := fun y => (y.b.cell (p := ⟨b, o + k * 16 + 9, none⟩) hb1).trans c9
      have qa10 : ∀ y : Later wr, y.w.cell? ⟨b, o + k * 16 + 10, none⟩ = some (.slice af d.cn.flows.length pf) := fun y => (y.b.cell (p := ⟨b, o + k * 16 + 10, none⟩) hb1).trans c10
      have qa11 : ∀ y : Later wr, y.w.cell? ⟨b, o + k * 16 + 11, none⟩ = some (.bool d.cn.away) := fun y => (y.b.cell (p := ⟨b, o + k * 16 + 11, none⟩) hb1).trans c11
      have qa12 : ∀ y : Later wr, y.w.cell? ⟨b, o + k * 16 + 12, none⟩ = some (.bool d.cn.dead) := fun y => (y.b.cell (p := ⟨b, o + k * 16 + 12, none⟩) hb1).trans c12
      have qa13 : ∀ y : Later wr, y.w.cell? ⟨b, o + k * 16 + 13, none⟩ = some (.string d.rest) := fun y => (y.b.cell (p := ⟨b, o + k * 16 + 13, none⟩) hb1).trans c13
      have qa14 : ∀ y : Later wr, y.w.cell? ⟨b, o + k * 16 + 14, none⟩ = some (.string d.out) := fun y => (y.b.cell (p := ⟨b, o + k * 16 + 14, none⟩) hb1).trans c14
      have qa15 : ∀ y : Later wr, y.w.cell? ⟨b, o + k * 16 + 15, none⟩ = some (.bool d.bad) := fun y => (y.b.cell (p := ⟨b, o + k * 16 + 15, none⟩) hb1).trans c15
      have qb0 : ∀ y : Later wr, y.w.cell? ⟨b', o' + k * 16, none⟩ = some (.int .i64 d.cn.reg.lim) := fun y => (y.b.cell (p := ⟨b', o' + k * 16, none⟩) hb2).trans d0
      have qb1 : ∀ y : Later wr, y.w.cell? ⟨b', o' + k * 16 + 1, none⟩ = some (.int .i64 d.cn.reg.top) := fun y => (y.b.cell (p := ⟨b', o' + k * 16 + 1, none⟩) hb2).trans d1
      have qb2 : ∀ y : Later wr, y.w.cell? ⟨b', o' + k * 16 + 2, none⟩ = some (.slice ne d.cn.reg.es.length qe) := fun y => (y.b.cell (p := ⟨b', o' + k * 16 + 2, none⟩) hb2).trans d2
      have qb3 : ∀ y : Later wr, y.w.cell? ⟨b', o' + k * 16 + 3, none⟩ = some (.int .i64 d.cn.inr) := fun y => (y.b.cell (p := ⟨b', o' + k * 16 + 3, none⟩) hb2).trans d3
      have qb4 : ∀ y : Later wr, y.w.cell? ⟨b', o' + k * 16 + 4, none⟩ = some (.slice ni d.cn.inT.length qi) := fun y => (y.b.cell (p := ⟨b', o' + k * 16 + 4, none⟩) hb2).trans d4
      have qb5 : ∀ y : Later wr, y.w.cell? ⟨b', o' + k * 16 + 5, none⟩ = some (.int .i64 d.cn.outr) := fun y => (y.b.cell (p := ⟨b', o' + k * 16 + 5, none⟩) hb2).trans d5
      have qb6 : ∀ y : Later wr, y.w.cell? ⟨b', o' + k * 16 + 6, none⟩ = some (.slice no d.cn.outT.length qo) := fun y => (y.b.cell (p := ⟨b', o' + k * 16 + 6, none⟩) hb2).trans d6
      have qb7 : ∀ y : Later wr, y.w.cell? ⟨b', o' + k * 16 + 7, none⟩ = some (.int .i64 d.cn.get) := fun y => (y.b.cell (p := ⟨b', o' + k * 16 + 7, none⟩) hb2).trans d7
      have qb8 : ∀ y : Later wr, y.w.cell? ⟨b', o' + k * 16 + 8, none⟩ = some (.int .i64 d.cn.give) := fun y => (y.b.cell (p := ⟨b', o' + k * 16 + 8, none⟩) hb2).trans d8
      have qb9 : ∀ y : Later wr, y.w.cell? ⟨b', o' + k * 16 + 9, none⟩ = some (.int .i64 d.cn.first) := fun y => (y.b.cell (p := ⟨b', o' + k * 16 + 9, none⟩) hb2).trans d9
      have qb10 : ∀ y : Later wr, y.w.cell? ⟨b', o' + k * 16 + 10, none⟩ = some (.slice nf d.cn.flows.length qf) := fun y => (y.b.cell (p := ⟨b', o' + k * 16 + 10, none⟩) hb2).trans d10
      have qb11 : ∀ y : Later wr, y.w.cell? ⟨b', o' + k * 16 + 11, none⟩ = some (.bool d.cn.away) := fun y => (y.b.cell (p := ⟨b', o' + k * 16 + 11, none⟩) hb2).trans d11
      have qb12 : ∀ y : Later wr, y.w.cell? ⟨b', o' + k * 16 + 12, none⟩ = some (.bool d.cn.dead) := fun y => (y.b.cell (p := ⟨b', o' + k * 16 + 12, none⟩) hb2).trans d12
      have qb13 : ∀ y : Later wr, y.w.cell? ⟨b', o' + k * 16 + 13, none⟩ = some (.string d.rest) := fun y => (y.b.cell (p := ⟨b', o' + k * 16 + 13, none⟩) hb2).trans d13
      have qb14 : ∀ y : Later wr, y.w.cell? ⟨b', o' + k * 16 + 14, none⟩ = some (.string d.out) := fun y => (y.b.cell (p := ⟨b', o' + k * 16 + 14, none⟩) hb2).trans d14
      have qb15 : ∀ y : Later wr, y.w.cell? ⟨b', o' + k * 16 + 15, none⟩ = some (.bool d.bad) := fun y => (y.b.cell (p := ⟨b', o' + k * 16 + 15, none⟩) hb2).trans d15
      clear c0 c1 c2 c3 c4 c5 c6 c7 c8 c9 c10 c11 c12 c13 c14 c15 d0 d1 d2 d3 d4 d5 d6 d7 d8 d9 d10 d11 d12 d13 d14 d15
      have hne : Nonempty (Later wr) := ⟨⟨wr, Below.refl _ _⟩⟩; refine region_later (by kernel_rfl) (by kernel_rfl) ?_
      repeat (go_big_quiet_step (fail))
      go_big_quiet_want; go_big_quiet_op
      refine ⟨.bool true, fun y => later_calls (x := y) (eqSeat1 d _ _ _ _ _ _ _ _ y.w (HV.out.new y.b) hf0 hf1 (HU.out.new y.b)), ?_⟩
      go_big_quiet_on
      repeat (go_big_quiet_step (fail))
      refine wpQuiet_nil ?_; intro _ hw'; obtain ⟨y, hw''⟩ := hw'; subst hw''; have hby := y.b
      go_wp2_with fail
      go_roundw
      case rel => exact ⟨k + 1, by go_num, by omega, bchain hb hby⟩
      case measure => simp [intOf]; omega
    · go_wp2_with fail
      go_ret
      exact ⟨rfl, hb⟩
set_option maxHeartbeats 4000000 in
theorem szSeatS1 (L : List StD) (v : Value) (left : Int) (w : World) (hr : RdR seatS w v L) (h0 : 0 ≤ left) (h1 : left ≤ 1048576) :
    Calls Tryz.prog 21 #[v, .int .i64 left] w fun x w' => (x = .returned (.int .i64 (-1)) ∨ (x = .returned (.int .i64 (left - szSeatS L)) ∧ 0 ≤ left - szSeatS L)) ∧ Below w.heap.size w w' := by
  obtain ⟨ad, cap, rfl, h2, h3⟩ := hr.form
  have HR := hide hr
  clear hr
  unfold szSeatS
  by_cases h : left - L.length < 0
  · go_enter Tryz.func21, Tryz.ntmps21
    go_wp2
    go_ret
    exact ⟨.inl rfl, Below.refl _ _⟩
  · go_enter Tryz.func21, Tryz.ntmps21
    go_wp2_with fail
    go_loopw [1, 5] (fun l i wr => ∃ (k : Nat), i = .int .i64 k ∧ k ≤ L.length ∧ l = .int .i64 (left - L.length - sumLs szSeat (L.take k)) ∧ 0 ≤ left - L.length - sumLs szSeat (L.take k) ∧ Below w.heap.size w wr) (fun _ i _ => L.length - (intOf i).toNat)
    case atStart => exact ⟨0, rfl, Nat.zero_le _, by simp [sumLs], by simp [sumLs]; omega, Below.refl _ _⟩
    case round =>
      obtain ⟨k, rfl, hk, rfl, hk0, hb⟩ := hrel
      by_cases hlt : k < L.length
      · have hrk := (HR.out.new hb).at k hlt
        have hsn := sum_take szSeat L k hlt
        have hnn := sum_nn szSeat szSeat_nn (L.take k)
        obtain ⟨d, hd⟩ : ∃ d, d = L[k] := ⟨_, rfl⟩
        rw [← hd] at hrk hsn
        clear hd
        obtain ⟨b, o, cs, rfl, hb1, hrd, hc⟩ := hrk
        obtain ⟨ve, vi, vo, vf, rfl, hf0, hf1, hv⟩ := hrd
        have HV := hide hv
        clear hv
        obtain ⟨ae, pe, rfl, _⟩ := HV.out.e.form
        obtain ⟨ai, pi, rfl, _⟩ := HV.out.i.form
        obtain ⟨ao, po, rfl, _⟩ := HV.out.o.form
        obtain ⟨af, pf, rfl, _⟩ := HV.out.f.form
        have c0 : wr.cell? ⟨b, o + k * 16, none⟩ = some (.int .i64 d.cn.reg.lim) := hc 0 _ rfl
        have c1 : wr.cell? ⟨b, o + k * 16 + 1, none⟩ = some (.int .i64 d.cn.reg.top) := hc 1 _ rfl
        have c2 : wr.cell? ⟨b, o + k * 16 + 2, none⟩ = some (.slice ae d.cn.reg.es.length pe) := hc 2 _ rfl
        have c3 : wr.cell? ⟨b, o + k * 16 + 3, none⟩ = some (.int .i64 d.cn.inr) := hc 3 _ rfl
        have c4 : wr.cell? ⟨b, o + k * 16 + 4, none⟩ = some (.slice ai d.cn.inT.length pi) := hc 4 _ rfl
        have c5 : wr.cell? ⟨b, o + k * 16 + 5, none⟩ = some (.int .i64 d.cn.outr) := hc 5 _ rfl
        have c6 : wr.cell? ⟨b, o + k * 16 + 6, none⟩ = some (.slice ao d.cn.outT.length po) := hc 6 _ rfl
        have c7 : wr.cell? ⟨b, o + k * 16 + 7, none⟩ = some (.int .i64 d.cn.get) := hc 7 _ rfl
        have c8 : wr.cell? ⟨b, o + k * 16 + 8, none⟩ = some (.int .i64 d.cn.give) := hc 8 _ rfl
        have c9 : wr.cell? ⟨b, o + k * 16 + 9, none⟩ = some (.int .i64 d.cn.first) := hc 9 _ rfl
        have c10 : wr.cell? ⟨b, o + k * 16 + 10, none⟩ = some (.slice af d.cn.flows.length pf) := hc 10 _ rfl
        have c11 : wr.cell? ⟨b, o + k * 16 + 11, none⟩ = some (.bool d.cn.away) := hc 11 _ rfl
        have c12 : wr.cell? ⟨b, o + k * 16 + 12, none⟩ = some (.bool d.cn.dead) := hc 12 _ rfl
        have c13 : wr.cell? ⟨b, o + k * 16 + 13, none⟩ = some (.string d.rest) := hc 13 _ rfl
        have c14 : wr.cell? ⟨b, o + k * 16 + 14, none⟩ = some (.string d.out) := hc 14 _ rfl
        have c15 : wr.cell? ⟨b, o + k * 16 + 15, none⟩ = some (.bool d.bad) := hc 15 _ rfl
        clear hc
        generalize hq : sumLs szSeat (List.take k L) = q at *
        generalize hq' : sumLs szSeat (List.take (k + 1) L) = q' at *
        have HQ := hide hq'
        have HSN := hide hsn
        clear hq hq' hsn
        go_wp2_with fail
        refine (szSeat1 d _ _ _ _ _ _ HV.out hf0 hf1 (by omega) (by omega)).mono ?_
        rintro x w1 ⟨rfl | ⟨rfl, hp⟩, hb1⟩
        · go_wp2_with fail
          go_ret
          exact ⟨.inl rfl, bchain hb hb1⟩
        · have hp' : ¬ left - L.length - q - szSeat d < 0 := by omega
          generalize hX : left - L.length - q - szSeat d = X at *
          have HX := hide hX
          clear hX
          go_wp2_with fail
          go_roundw
          case rel => exact ⟨k + 1, by go_num, by omega, int_eq (by have := HX.out; have := HQ.out; have := HSN.out; omega), by have := HX.out; have := HQ.out; have := HSN.out; omega, bchain hb hb1⟩
          case measure => simp [intOf]; omega
      · obtain rfl : k = L.length := by omega
        rw [List.take_length] at *
        obtain ⟨X, hX⟩ : ∃ X, left - L.length - sumLs szSeat L = X := ⟨_, rfl⟩
        rw [hX] at hk0 ⊢
        have HX := hide hX
        clear hX
        go_wp2_with fail
        go_ret
        have e : left - (L.length + sumLs szSeat L) = X := by have := HX.out; omega
        rw [e]
        exact ⟨.inr ⟨rfl, hk0⟩, hb⟩
open Go.ChangeShapes Go.WideShapes Go.ChangeAt Go.Joins in
theorem trod_conn {H : Type} {enc : TypeId × Value → H} {W : World} {base : Nat} {spare : Nat → Bool} {held : Bool} {fuel : Nat} {cs : List Value} {x : DataW H × List MemPlace} (h : DataW.trod enc Tryz.prog W base spare held fuel 110 cs = some x) :
    ∃ (d : CnD) (ve vi vo vf : Value), cs = cncs d ve vi vo vf ∧ CnRd W d ve vi vo vf := by
  obtain ⟨m, hl, hf⟩ := trod_part Tryz.underlying110 h
  have hc : Tryz.prog.cellsOf 110 = 13 := by kernel_rfl
  obtain ⟨c0, c1, c2, c3, c4, c5, c6, c7, c8, c9, c10, c11, c12, rfl⟩ := list13 (hl.trans hc)
  simp only [List.forall_mem_cons, List.not_mem_nil, false_imp_iff, implies_true, and_true] at hf
  obtain ⟨⟨y0, h0⟩, ⟨y1, h1⟩, ⟨y2, h2⟩, ⟨y3, h3⟩, ⟨y4, h4⟩, ⟨y5, h5⟩, ⟨y6, h6⟩, ⟨y7, h7⟩, ⟨y8, h8⟩⟩ := hf
  have k0 : Tryz.prog.cellsOf 2 = 1 := by kernel_rfl
  have k1 : Tryz.prog.cellsOf 104 = 3 := by kernel_rfl
  have k2 : Tryz.prog.cellsOf 107 = 2 := by kernel_rfl
  have k3 : Tryz.prog.cellsOf 4 = 1 := by kernel_rfl
  have k4 : Tryz.prog.cellsOf 108 = 1 := by kernel_rfl
  have k5 : Tryz.prog.cellsOf 102 = 1 := by kernel_rfl
  have k6 : Tryz.prog.cellsOf 105 = 1 := by kernel_rfl
  simp only [Value.cells, k0, k1, k2, k3, k4, List.drop_zero, List.drop_succ_cons, List.take_succ_cons, List.take_zero] at h0 h1 h2 h3 h4 h5 h6 h7 h8
  obtain ⟨m0, _, g0⟩ := trod_part Tryz.underlying104 h0
  simp only [List.forall_mem_cons, List.not_mem_nil, false_imp_iff, implies_true, and_true] at g0
  obtain ⟨⟨z0, j0⟩, ⟨z1, j1⟩, ⟨z2, j2⟩⟩ := g0
  simp only [k0, k5, List.drop_zero, List.drop_succ_cons, List.take_succ_cons, List.take_zero] at j0 j1 j2
  obtain ⟨a0, e0, _⟩ := DataW.trod_int Tryz.underlying2 j0
  obtain ⟨a1, e1, _⟩ := DataW.trod_int Tryz.underlying2 j1
  obtain ⟨Le, hLe⟩ := open_shape (E := entryS) ⟨0, 0⟩ Tryz.underlying102 (by kernel_rfl) (fun cs n y hy => open_cellsEntry hy) j2
  obtain ⟨m1, _, g1⟩ := trod_part Tryz.underlying107 h1
  simp only [List.forall_mem_cons, List.not_mem_nil, false_imp_iff, implies_true, and_true] at g1
  obtain ⟨⟨z3, j3⟩, ⟨z4, j4⟩⟩ := g1
  simp only [k0, k6, List.drop_zero, List.drop_succ_cons, List.take_succ_cons, List.take_zero] at j3 j4
  obtain ⟨a3, e3, _⟩ := DataW.trod_int Tryz.underlying2 j3
  obtain ⟨Li, hLi⟩ := open_shape (E := fieldS) ⟨⟨#[]⟩, ⟨#[]⟩⟩ Tryz.underlying105 (by kernel_rfl) (fun cs n y hy => open_cellsField hy) j4
  obtain ⟨m2, _, g2⟩ := trod_part Tryz.underlying107 h2
  simp only [List.forall_mem_cons, List.not_mem_nil, false_imp_iff, implies_true, and_true] at g2
  obtain ⟨⟨z5, j5⟩, ⟨z6, j6⟩⟩ := g2
  simp only [k0, k6, List.drop_zero, List.drop_succ_cons, List.take_succ_cons, List.take_zero] at j5 j6
  obtain ⟨a5, e5, _⟩ := DataW.trod_int Tryz.underlying2 j5
  obtain ⟨Lo, hLo⟩ := open_shape (E := fieldS) ⟨⟨#[]⟩, ⟨#[]⟩⟩ Tryz.underlying105 (by kernel_rfl) (fun cs n y hy => open_cellsField hy) j6
  obtain ⟨a7, e7, _⟩ := DataW.trod_int Tryz.underlying2 h3
  obtain ⟨a8, e8, _⟩ := DataW.trod_int Tryz.underlying2 h4
  obtain ⟨a9, e9, _⟩ := DataW.trod_int Tryz.underlying2 h5
  obtain ⟨Lf, hLf⟩ := open_shape (E := flowS) ⟨0, 0, 0, [], zTu, false⟩ Tryz.underlying108 (by kernel_rfl) (fun cs n y hy => open_cellsFlow hy) h6
  obtain ⟨b11, e11, _⟩ := DataW.trod_bool Tryz.underlying4 h7
  obtain ⟨b12, e12, _⟩ := DataW.trod_bool Tryz.underlying4 h8
  simp only [List.cons.injEq, and_true] at e0 e1 e3 e5 e7 e8 e9 e11 e12
  subst e0 e1 e3 e5 e7 e8 e9 e11 e12
  exact ⟨⟨⟨a0, a1, Le⟩, a3, Li, a5, Lo, a7, a8, a9, Lf, b11, b12⟩, c2, c4, c6, c10, rfl, hLe, hLi, hLo, hLf⟩
open Go.ChangeShapes Go.WideShapes Go.ChangeAt Go.Joins in
theorem open_cellsSeat {H : Type} {enc : TypeId × Value → H} {W : World} {base : Nat} {spare : Nat → Bool} {held : Bool} {fuel : Nat} {cs : List Value} {x : DataW H × List MemPlace} (h : DataW.trod enc Tryz.prog W base spare held fuel 112 cs = some x) : ∃ d : StD, seatS.rd W cs d := by
  obtain ⟨m, hl, hf⟩ := trod_part Tryz.underlying112 h
  have hc : Tryz.prog.cellsOf 112 = 16 := by kernel_rfl
  have hlen := hl.trans hc
  match cs, hlen with
  | [c0, c1, c2, c3, c4, c5, c6, c7, c8, c9, c10, c11, c12, c13, c14, c15], _ =>
  simp only [List.forall_mem_cons, List.not_mem_nil, false_imp_iff, implies_true, and_true] at hf
  obtain ⟨⟨y0, h0⟩, ⟨y1, h1⟩, ⟨y2, h2⟩, ⟨y3, h3⟩⟩ := hf
  have k0 : Tryz.prog.cellsOf 110 = 13 := by kernel_rfl
  have k1 : Tryz.prog.cellsOf 9 = 1 := by kernel_rfl
  have k2 : Tryz.prog.cellsOf 4 = 1 := by kernel_rfl
  simp only [k0, k1, k2, List.drop_zero, List.drop_succ_cons, List.take_succ_cons, List.take_zero] at h0 h1 h2 h3
  obtain ⟨d, ve, vi, vo, vf, e0, hcn⟩ := trod_conn h0
  obtain ⟨r, e1, _, wr⟩ := DataW.trod_string Tryz.underlying9 h1
  obtain ⟨o, e2, _, wo⟩ := DataW.trod_string Tryz.underlying9 h2
  obtain ⟨b, e3, _⟩ := DataW.trod_bool Tryz.underlying4 h3
  simp only [List.cons.injEq, and_true] at e0 e1 e2 e3
  obtain ⟨rfl, rfl, rfl, rfl, rfl, rfl, rfl, rfl, rfl, rfl, rfl, rfl, rfl⟩ := e0
  subst e1 e2 e3
  exact ⟨⟨d, r, o, b⟩, _, _, _, _, rfl, by unfold maxLen at wr; simp only; omega, by unfold maxLen at wo; simp only; omega, hcn⟩
end Go.Proofs.YtkhclhnejnpkeaaGreat
/- The program's Conn: which is right; a new one. -/
namespace Go.Proofs.YtkhclhnejnpkeaaGreat
open Go.RowKit
set_option maxRecDepth 100000
set_option linter.unusedSimpArgs false
set_option linter.unusedVariables false
theorem okFs_def (l : List Fd) : okFs l = (l.all okF && decide (l.length ≤ 20)) := by unfold okFs; first | rfl | simp [Bool.and_comm]
set_option maxHeartbeats 4000000 in
theorem implRightOf (f : FlD) (e : EntryD) (v : Value) (w : World) (hr : RdR fieldS w v f.fds) (h1 : f.tun.up.b.size ≤ maxLen) (h2 : f.tun.dn.b.size ≤ maxLen) :
    Calls Tryz.prog 114 #[.agg #[.int .i64 f.id, .int .i64 f.get, .int .i64 f.give, v, .int .i64 f.tun.up.r, .string f.tun.up.b, .bool f.tun.up.e, .bool f.tun.up.k, .int .i64 f.tun.dn.r, .string f.tun.dn.b, .bool f.tun.dn.e, .bool f.tun.dn.k, .int .i64 f.tun.went, .int .i64 f.tun.came, .bool f.ended], .agg #[.int .i64 e.id, .int .i64 e.state]] w fun x w' => x = .returned (.bool (okFl f e)) ∧ Below w.heap.size w w' := by
  obtain ⟨ad, cap, rfl, q1, q2⟩ := hr.form
  have HR := hide hr
  clear hr
  by_cases c0 : f.id = e.id
  rotate_left
  · have c0' : (f.id != e.id) = true := by simpa using c0
    have HN := hide (okFl_no (f := f) (e := e) (fun h => c0 h.1))
    clear c0
    go_enter Tryz.func114, Tryz.ntmps114
    go_wp2_with fail
    go_ret
    exact ⟨by rw [HN.out]; rfl, (by repeat' (first | (with_reducible exact Below.refl _ _) | (with_reducible refine Below.drew ?_) | (with_reducible refine bo_drewN _ ?_) | (with_reducible refine bo_alloc ?_ _) | (refine bchain ?_ (by with_reducible assumption)) | (with_reducible refine Below.setCell ?_ ?_ _) | go_size))⟩
  have c0' : (f.id != e.id) = false := by simpa using c0
  have HC0 := hide c0
  clear c0
  cases m0 : winB f.get
  · have HN := hide (okFl_no (f := f) (e := e) (fun h => by rw [m0] at h; simp at h))
    go_enter Tryz.func114, Tryz.ntmps114
    go_wp2_with fail
    refine (implWin f.get _).mono ?_; rw [m0]; rintro e v0 ⟨rfl, hsame⟩; obtain rfl := hsame.symm; clear hsame
    go_wp2_with fail
    go_ret
    exact ⟨by rw [HN.out]; rfl, (by repeat' (first | (with_reducible exact Below.refl _ _) | (with_reducible refine Below.drew ?_) | (with_reducible refine bo_drewN _ ?_) | (with_reducible refine bo_alloc ?_ _) | (refine bchain ?_ (by with_reducible assumption)) | (with_reducible refine Below.setCell ?_ ?_ _) | go_size))⟩
  cases m1 : winB f.give
  · have HN := hide (okFl_no (f := f) (e := e) (fun h => by rw [m1] at h; simp at h))
    go_enter Tryz.func114, Tryz.ntmps114
    go_wp2_with fail
    refine (implWin f.get _).mono ?_; rw [m0]; rintro e v0 ⟨rfl, hsame⟩; obtain rfl := hsame.symm; clear hsame
    go_wp2_with fail
    refine (implWin f.give _).mono ?_; rw [m1]; rintro e v1 ⟨rfl, hsame⟩; obtain rfl := hsame.symm; clear hsame
    go_wp2_with fail
    go_ret
    exact ⟨by rw [HN.out]; rfl, (by repeat' (first | (with_reducible exact Below.refl _ _) | (with_reducible refine Below.drew ?_) | (with_reducible refine bo_drewN _ ?_) | (with_reducible refine bo_alloc ?_ _) | (refine bchain ?_ (by with_reducible assumption)) | (with_reducible refine Below.setCell ?_ ?_ _) | go_size))⟩
  by_cases m2 : f.fds.length ≤ 20
  rotate_left
  · have HN := hide (okFl_no (f := f) (e := e) (fun h => m2 (by have := h.2.2.2.1; rw [okFs_def] at this; simp only [Bool.and_eq_true, decide_eq_true_eq] at this; exact this.2)))
    have m2' : ¬ (f.fds.length : Int) ≤ 20 := by omega
    clear m2
    go_enter Tryz.func114, Tryz.ntmps114
    go_wp2_with fail
    refine (implWin f.get _).mono ?_; rw [m0]; rintro e v0 ⟨rfl, hsame⟩; obtain rfl := hsame.symm; clear hsame
    go_wp2_with fail
    refine (implWin f.give _).mono ?_; rw [m1]; rintro e v1 ⟨rfl, hsame⟩; obtain rfl := hsame.symm; clear hsame
    go_wp2_with fail
    go_ret
    exact ⟨by rw [HN.out]; rfl, (by repeat' (first | (with_reducible exact Below.refl _ _) | (with_reducible refine Below.drew ?_) | (with_reducible refine bo_drewN _ ?_) | (with_reducible refine bo_alloc ?_ _) | (refine bchain ?_ (by with_reducible assumption)) | (with_reducible refine Below.setCell ?_ ?_ _) | go_size))⟩
  have m2' : (f.fds.length : Int) ≤ 20 := by omega
  cases m3 : f.fds.all okF
  · have HN := hide (okFl_no (f := f) (e := e) (fun h => by have := h.2.2.2.1; rw [okFs_def, m3] at this; simp at this))
    clear m2
    go_enter Tryz.func114, Tryz.ntmps114
    go_wp2_with fail
    refine (implWin f.get _).mono ?_; rw [m0]; rintro e v0 ⟨rfl, hsame⟩; obtain rfl := hsame.symm; clear hsame
    go_wp2_with fail
    refine (implWin f.give _).mono ?_; rw [m1]; rintro e v1 ⟨rfl, hsame⟩; obtain rfl := hsame.symm; clear hsame
    go_wp2_with fail
    refine (implRights f.fds _ _ (rd_fv (HR.out.new (by repeat' (first | (with_reducible exact Below.refl _ _) | (with_reducible refine Below.drew ?_) | (with_reducible refine bo_drewN _ ?_) | (with_reducible refine bo_alloc ?_ _) | (refine bchain ?_ (by with_reducible assumption)) | (with_reducible refine Below.setCell ?_ ?_ _) | go_size)))) (rd_fine (HR.out.new (by repeat' (first | (with_reducible exact Below.refl _ _) | (with_reducible refine Below.drew ?_) | (with_reducible refine bo_drewN _ ?_) | (with_reducible refine bo_alloc ?_ _) | (refine bchain ?_ (by with_reducible assumption)) | (with_reducible refine Below.setCell ?_ ?_ _) | go_size))))).mono ?_; rw [m3]; rintro x w3 ⟨rfl, hb3⟩
    have R3 := ((rowIs_new w 125 [.int .i64 f.id, .int .i64 f.get, .int .i64 f.give, .slice ad f.fds.length cap, .int .i64 f.tun.up.r, .string f.tun.up.b, .bool f.tun.up.e, .bool f.tun.up.k, .int .i64 f.tun.dn.r, .string f.tun.dn.b, .bool f.tun.dn.e, .bool f.tun.dn.k, .int .i64 f.tun.went, .int .i64 f.tun.came, .bool f.ended]).alloc (.cells #[.int .i64 e.id, .int .i64 e.state] 127)).new hb3
    have c4 := RowIs.cell (j := 4) R3 rfl
    have c5 := RowIs.cell (j := 5) R3 rfl
    have c6 := RowIs.cell (j := 6) R3 rfl
    have c7 := RowIs.cell (j := 7) R3 rfl
    have c8 := RowIs.cell (j := 8) R3 rfl
    have c9 := RowIs.cell (j := 9) R3 rfl
    have c10 := RowIs.cell (j := 10) R3 rfl
    have c11 := RowIs.cell (j := 11) R3 rfl
    have c12 := RowIs.cell (j := 12) R3 rfl
    have c13 := RowIs.cell (j := 13) R3 rfl
    clear R3
    go_wp2_with fail
    go_ret
    exact ⟨by rw [HN.out]; rfl, bchain (by repeat' (first | (with_reducible exact Below.refl _ _) | (with_reducible refine Below.drew ?_) | (with_reducible refine bo_drewN _ ?_) | (with_reducible refine bo_alloc ?_ _) | (refine bchain ?_ (by with_reducible assumption)) | (with_reducible refine Below.setCell ?_ ?_ _) | go_size)) hb3⟩
  have HS := hide (show okFs f.fds = true by rw [okFs_def, m3, decide_eq_true m2]; rfl)
  clear m2
  cases m4 : okTu f.tun
  · have HN := hide (okFl_no (f := f) (e := e) (fun h => by rw [m4] at h; simp at h))
    go_enter Tryz.func114, Tryz.ntmps114
    go_wp2_with fail
    refine (implWin f.get _).mono ?_; rw [m0]; rintro e v0 ⟨rfl, hsame⟩; obtain rfl := hsame.symm; clear hsame
    go_wp2_with fail
    refine (implWin f.give _).mono ?_; rw [m1]; rintro e v1 ⟨rfl, hsame⟩; obtain rfl := hsame.symm; clear hsame
    go_wp2_with fail
    refine (implRights f.fds _ _ (rd_fv (HR.out.new (by repeat' (first | (with_reducible exact Below.refl _ _) | (with_reducible refine Below.drew ?_) | (with_reducible refine bo_drewN _ ?_) | (with_reducible refine bo_alloc ?_ _) | (refine bchain ?_ (by with_reducible assumption)) | (with_reducible refine Below.setCell ?_ ?_ _) | go_size)))) (rd_fine (HR.out.new (by repeat' (first | (with_reducible exact Below.refl _ _) | (with_reducible refine Below.drew ?_) | (with_reducible refine bo_drewN _ ?_) | (with_reducible refine bo_alloc ?_ _) | (refine bchain ?_ (by with_reducible assumption)) | (with_reducible refine Below.setCell ?_ ?_ _) | go_size))))).mono ?_; rw [m3]; rintro x w3 ⟨rfl, hb3⟩
    have R3 := ((rowIs_new w 125 [.int .i64 f.id, .int .i64 f.get, .int .i64 f.give, .slice ad f.fds.length cap, .int .i64 f.tun.up.r, .string f.tun.up.b, .bool f.tun.up.e, .bool f.tun.up.k, .int .i64 f.tun.dn.r, .string f.tun.dn.b, .bool f.tun.dn.e, .bool f.tun.dn.k, .int .i64 f.tun.went, .int .i64 f.tun.came, .bool f.ended]).alloc (.cells #[.int .i64 e.id, .int .i64 e.state] 127)).new hb3
    have c4 := RowIs.cell (j := 4) R3 rfl
    have c5 := RowIs.cell (j := 5) R3 rfl
    have c6 := RowIs.cell (j := 6) R3 rfl
    have c7 := RowIs.cell (j := 7) R3 rfl
    have c8 := RowIs.cell (j := 8) R3 rfl
    have c9 := RowIs.cell (j := 9) R3 rfl
    have c10 := RowIs.cell (j := 10) R3 rfl
    have c11 := RowIs.cell (j := 11) R3 rfl
    have c12 := RowIs.cell (j := 12) R3 rfl
    have c13 := RowIs.cell (j := 13) R3 rfl
    clear R3
    go_wp2_with fail
    refine (implTunnelOk f.tun _ h1 h2).mono ?_; rw [m4]; rintro x w4 ⟨rfl, hb4⟩
    go_wp2_with fail
    go_ret
    exact ⟨by rw [HN.out]; rfl, bchain (bchain (by repeat' (first | (with_reducible exact Below.refl _ _) | (with_reducible refine Below.drew ?_) | (with_reducible refine bo_drewN _ ?_) | (with_reducible refine bo_alloc ?_ _) | (refine bchain ?_ (by with_reducible assumption)) | (with_reducible refine Below.setCell ?_ ?_ _) | go_size)) hb3) hb4⟩
  have HY := hide (okFl_yes HC0.out m0 m1 HS.out m4)
  go_enter Tryz.func114, Tryz.ntmps114
  go_wp2_with fail
  refine (implWin f.get _).mono ?_; rw [m0]; rintro e v0 ⟨rfl, hsame⟩; obtain rfl := hsame.symm; clear hsame
  go_wp2_with fail
  refine (implWin f.give _).mono ?_; rw [m1]; rintro e v1 ⟨rfl, hsame⟩; obtain rfl := hsame.symm; clear hsame
  go_wp2_with fail
  refine (implRights f.fds _ _ (rd_fv (HR.out.new (by repeat' (first | (with_reducible exact Below.refl _ _) | (with_reducible refine Below.drew ?_) | (with_reducible refine bo_drewN _ ?_) | (with_reducible refine bo_alloc ?_ _) | (refine bchain ?_ (by with_reducible assumption)) | (with_reducible refine Below.setCell ?_ ?_ _) | go_size)))) (rd_fine (HR.out.new (by repeat' (first | (with_reducible exact Below.refl _ _) | (with_reducible refine Below.drew ?_) | (with_reducible refine bo_drewN _ ?_) | (with_reducible refine bo_alloc ?_ _) | (refine bchain ?_ (by with_reducible assumption)) | (with_reducible refine Below.setCell ?_ ?_ _) | go_size))))).mono ?_; rw [m3]; rintro x w3 ⟨rfl, hb3⟩
  have R3 := ((rowIs_new w 125 [.int .i64 f.id, .int .i64 f.get, .int .i64 f.give, .slice ad f.fds.length cap, .int .i64 f.tun.up.r, .string f.tun.up.b, .bool f.tun.up.e, .bool f.tun.up.k, .int .i64 f.tun.dn.r, .string f.tun.dn.b, .bool f.tun.dn.e, .bool f.tun.dn.k, .int .i64 f.tun.went, .int .i64 f.tun.came, .bool f.ended]).alloc (.cells #[.int .i64 e.id, .int .i64 e.state] 127)).new hb3
  have c4 := RowIs.cell (j := 4) R3 rfl
  have c5 := RowIs.cell (j := 5) R3 rfl
  have c6 := RowIs.cell (j := 6) R3 rfl
  have c7 := RowIs.cell (j := 7) R3 rfl
  have c8 := RowIs.cell (j := 8) R3 rfl
  have c9 := RowIs.cell (j := 9) R3 rfl
  have c10 := RowIs.cell (j := 10) R3 rfl
  have c11 := RowIs.cell (j := 11) R3 rfl
  have c12 := RowIs.cell (j := 12) R3 rfl
  have c13 := RowIs.cell (j := 13) R3 rfl
  clear R3
  go_wp2_with fail
  refine (implTunnelOk f.tun _ h1 h2).mono ?_; rw [m4]; rintro x w4 ⟨rfl, hb4⟩
  go_wp2_with fail
  go_ret
  exact ⟨by rw [HY.out]; rfl, bchain (bchain (by repeat' (first | (with_reducible exact Below.refl _ _) | (with_reducible refine Below.drew ?_) | (with_reducible refine bo_drewN _ ?_) | (with_reducible refine bo_alloc ?_ _) | (refine bchain ?_ (by with_reducible assumption)) | (with_reducible refine Below.setCell ?_ ?_ _) | go_size)) hb3) hb4⟩
set_option maxHeartbeats 4000000 in
theorem implEqualF (F : List FlD) (E : List EntryD) (vf ve : Value) (w : World) (hf : RdR flowS w vf F) (he : RdR entryS w ve E) :
    Calls Tryz.prog 113 #[vf, ve, .func (.func 114) #[] #[]] w fun x w' => x = .returned (.bool (okFls F E)) ∧ Below w.heap.size w w' := by
  obtain ⟨af, cf, rfl, f1, f2⟩ := hf.form
  obtain ⟨ae, ce, rfl, e1, e2⟩ := he.form
  have HF := hide hf; have HE := hide he
  clear hf he
  obtain ⟨A, hA⟩ : ∃ A, okFls F E = A := ⟨_, rfl⟩
  rw [hA]
  by_cases hl : F.length = E.length
  rotate_left
  · have hl' : ((F.length : Int) != E.length) = true := by simpa using fun c : (F.length : Int) = E.length => hl (by omega)
    have HN : Hid (A = false) := by
      show A = false
      rw [← hA]
      cases q : okFls F E
      · rfl
      · exact absurd (okFls_len q) hl
    clear hl hA
    go_enter Tryz.func113, Tryz.ntmps113
    go_wp2_with fail
    go_ret
    exact ⟨by rw [HN.out]; rfl, (by repeat' (first | (with_reducible exact Below.refl _ _) | (with_reducible refine Below.drew ?_) | (with_reducible refine bo_drewN _ ?_) | (with_reducible refine bo_alloc ?_ _) | (refine bchain ?_ (by with_reducible assumption)) | (with_reducible refine Below.setCell ?_ ?_ _) | go_size))⟩
  have hl' : ((F.length : Int) != E.length) = false := by simpa using (show (F.length : Int) = E.length by omega)
  have HL := hide hl
  have hle : F.length ≤ E.length := by omega
  have HA := hide hA
  clear hl hA
  go_enter Tryz.func113, Tryz.ntmps113
  go_wp2_with fail
  go_loopw [17] (fun i wr => ∃ (k : Nat), i = .int .i64 k ∧ k ≤ F.length ∧ Hid (∀ j (h : j < F.length) (h' : j < E.length), j < k → okFl F[j] E[j] = true) ∧ Hid (Below w.heap.size w wr)) (fun i _ => F.length - (intOf i).toNat)
  case atStart => exact ⟨0, rfl, Nat.zero_le _, fun j _ _ hj => absurd hj (Nat.not_lt_zero _), Below.refl _ _⟩
  case round =>
    obtain ⟨k, rfl, hk, HN, HB⟩ := hrel
    by_cases hlt : k < F.length
    · have hlte : k < E.length := by omega
      obtain ⟨b, o, cs, rfl, hbw, hrd, hc⟩ := (HF.out.new HB.out).at k hlt
      obtain ⟨be, oe, cse, rfl, hbe, hre, hce⟩ := (HE.out.new HB.out).at k hlte
      have HQN : Hid (okFl F[k] E[k] = false → A = false) := fun h => HA.out.symm.trans (okFls_no hlt hlte h)
      have HQY : Hid (okFl F[k] E[k] = true → ∀ j (h : j < F.length) (h' : j < E.length), j < k + 1 → okFl F[j] E[j] = true) := fun h j h1 h2 hj => by
        by_cases e : j = k
        · subst e; exact h
        · exact HN.out j h1 h2 (by omega)
      obtain ⟨f, hff⟩ : ∃ f, F[k] = f := ⟨_, rfl⟩
      obtain ⟨e, hee⟩ : ∃ e, E[k] = e := ⟨_, rfl⟩
      rw [hff, hee] at HQN HQY
      rw [hff] at hrd
      rw [hee] at hre
      clear hff hee HN
      obtain ⟨vq, rfl, s0, s1, hfd⟩ := hrd
      obtain ⟨aq, pq, rfl, _⟩ := hfd.form
      obtain rfl := hre
      have HFD := hide hfd
      clear hfd
      have ce0 : wr.cell? ⟨be, oe + k * 2, none⟩ = some (.int .i64 e.id) := hce 0 _ rfl
      have ce1 : wr.cell? ⟨be, oe + k * 2 + 1, none⟩ = some (.int .i64 e.state) := hce 1 _ rfl
      have c0 : wr.cell? ⟨b, o + k * 15, none⟩ = some (.int .i64 f.id) := hc 0 _ rfl
      have c1 : wr.cell? ⟨b, o + k * 15 + 1, none⟩ = some (.int .i64 f.get) := hc 1 _ rfl
      have c2 : wr.cell? ⟨b, o + k * 15 + 2, none⟩ = some (.int .i64 f.give) := hc 2 _ rfl
      have c3 : wr.cell? ⟨b, o + k * 15 + 3, none⟩ = some (.slice aq f.fds.length pq) := hc 3 _ rfl
      have c4 : wr.cell? ⟨b, o + k * 15 + 4, none⟩ = some (.int .i64 f.tun.up.r) := hc 4 _ rfl
      have c5 : wr.cell? ⟨b, o + k * 15 + 5, none⟩ = some (.string f.tun.up.b) := hc 5 _ rfl
      have c6 : wr.cell? ⟨b, o + k * 15 + 6, none⟩ = some (.bool f.tun.up.e) := hc 6 _ rfl
      have c7 : wr.cell? ⟨b, o + k * 15 + 7, none⟩ = some (.bool f.tun.up.k) := hc 7 _ rfl
      have c8 : wr.cell? ⟨b, o + k * 15 + 8, none⟩ = some (.int .i64 f.tun.dn.r) := hc 8 _ rfl
      have c9 : wr.cell? ⟨b, o + k * 15 + 9, none⟩ = some (.string f.tun.dn.b) := hc 9 _ rfl
      have c10 : wr.cell? ⟨b, o + k * 15 + 10, none⟩ = some (.bool f.tun.dn.e) := hc 10 _ rfl
      have c11 : wr.cell? ⟨b, o + k * 15 + 11, none⟩ = some (.bool f.tun.dn.k) := hc 11 _ rfl
      have c12 : wr.cell? ⟨b, o + k * 15 + 12, none⟩ = some (.int .i64 f.tun.went) := hc 12 _ rfl
      have c13 : wr.cell? ⟨b, o + k * 15 + 13, none⟩ = some (.int .i64 f.tun.came) := hc 13 _ rfl
      have c14 : wr.cell? ⟨b, o + k * 15 + 14, none⟩ = some (.bool f.ended) := hc 14 _ rfl
      clear hc hce
      have hkI : (k : Int) < E.length := by omega
      have hX : Below wr.heap.size wr ((wr.alloc (.cells #[.int .i64 0, .int .i64 0, .int .i64 0, .slice none 0 0, .int .i64 0, .string ⟨#[]⟩, .bool false, .bool false, .int .i64 0, .string ⟨#[]⟩, .bool false, .bool false, .int .i64 0, .int .i64 0, .bool false] 125)).setRow wr.heap.size #[.int .i64 f.id, .int .i64 f.get, .int .i64 f.give, .slice aq f.fds.length pq, .int .i64 f.tun.up.r, .string f.tun.up.b, .bool f.tun.up.e, .bool f.tun.up.k, .int .i64 f.tun.dn.r, .string f.tun.dn.b, .bool f.tun.dn.e, .bool f.tun.dn.k, .int .i64 f.tun.went, .int .i64 f.tun.came, .bool f.ended]) := below_setRow ((Below.refl _ _).alloc (Nat.le_refl _) _) (Nat.le_refl _) #[.int .i64 f.id, .int .i64 f.get, .int .i64 f.give, .slice aq f.fds.length pq, .int .i64 f.tun.up.r, .string f.tun.up.b, .bool f.tun.up.e, .bool f.tun.up.k, .int .i64 f.tun.dn.r, .string f.tun.dn.b, .bool f.tun.dn.e, .bool f.tun.dn.k, .int .i64 f.tun.went, .int .i64 f.tun.came, .bool f.ended]
      have RX : RowIs ((wr.alloc (.cells #[.int .i64 0, .int .i64 0, .int .i64 0, .slice none 0 0, .int .i64 0, .string ⟨#[]⟩, .bool false, .bool false, .int .i64 0, .string ⟨#[]⟩, .bool false, .bool false, .int .i64 0, .int .i64 0, .bool false] 125)).setRow wr.heap.size #[.int .i64 f.id, .int .i64 f.get, .int .i64 f.give, .slice aq f.fds.length pq, .int .i64 f.tun.up.r, .string f.tun.up.b, .bool f.tun.up.e, .bool f.tun.up.k, .int .i64 f.tun.dn.r, .string f.tun.dn.b, .bool f.tun.dn.e, .bool f.tun.dn.k, .int .i64 f.tun.went, .int .i64 f.tun.came, .bool f.ended]) wr.heap.size 125 [.int .i64 f.id, .int .i64 f.get, .int .i64 f.give, .slice aq f.fds.length pq, .int .i64 f.tun.up.r, .string f.tun.up.b, .bool f.tun.up.e, .bool f.tun.up.k, .int .i64 f.tun.dn.r, .string f.tun.dn.b, .bool f.tun.dn.e, .bool f.tun.dn.k, .int .i64 f.tun.went, .int .i64 f.tun.came, .bool f.ended] := rowIs_setRow (rowIs_new wr 125 [.int .i64 0, .int .i64 0, .int .i64 0, .slice none 0 0, .int .i64 0, .string ⟨#[]⟩, .bool false, .bool false, .int .i64 0, .string ⟨#[]⟩, .bool false, .bool false, .int .i64 0, .int .i64 0, .bool false])
      have ceX := (hX.cell (p := ⟨be, oe + k * 2, none⟩) hbe).trans ce0
      have ceY := (hX.cell (p := ⟨be, oe + k * 2 + 1, none⟩) hbe).trans ce1
      have hbeX : be < ((wr.alloc (.cells #[.int .i64 0, .int .i64 0, .int .i64 0, .slice none 0 0, .int .i64 0, .string ⟨#[]⟩, .bool false, .bool false, .int .i64 0, .string ⟨#[]⟩, .bool false, .bool false, .int .i64 0, .int .i64 0, .bool false] 125)).setRow wr.heap.size #[.int .i64 f.id, .int .i64 f.get, .int .i64 f.give, .slice aq f.fds.length pq, .int .i64 f.tun.up.r, .string f.tun.up.b, .bool f.tun.up.e, .bool f.tun.up.k, .int .i64 f.tun.dn.r, .string f.tun.dn.b, .bool f.tun.dn.e, .bool f.tun.dn.k, .int .i64 f.tun.went, .int .i64 f.tun.came, .bool f.ended]).heap.size := Nat.lt_of_lt_of_le hbe hX.size
      go_upto_region 6 with (refine wpList_store_row (by rfl) 125 _ _ (by rfl) wr.heap.size [.int .i64 f.id, .int .i64 f.get, .int .i64 f.give, .slice aq f.fds.length pq, .int .i64 f.tun.up.r, .string f.tun.up.b, .bool f.tun.up.e, .bool f.tun.up.k, .int .i64 f.tun.dn.r, .string f.tun.dn.b, .bool f.tun.dn.e, .bool f.tun.dn.k, .int .i64 f.tun.went, .int .i64 f.tun.came, .bool f.ended] (by rfl) (by rfl) 125 [.int .i64 0, .int .i64 0, .int .i64 0, .slice none 0 0, .int .i64 0, .string ⟨#[]⟩, .bool false, .bool false, .int .i64 0, .string ⟨#[]⟩, .bool false, .bool false, .int .i64 0, .int .i64 0, .bool false] (rowIs_new wr 125 [.int .i64 0, .int .i64 0, .int .i64 0, .slice none 0 0, .int .i64 0, .string ⟨#[]⟩, .bool false, .bool false, .int .i64 0, .string ⟨#[]⟩, .bool false, .bool false, .int .i64 0, .int .i64 0, .bool false]) (by kernel_rfl) rfl (by intro u hu; simp at hu; rcases hu with rfl | rfl | rfl | rfl | rfl | rfl | rfl | rfl | rfl | rfl | rfl | rfl | rfl | rfl | rfl <;> rfl) ?_)
      replace HFD := hide (HFD.out.new hX)
      replace HB := hide (bchain HB.out hX)
      clear hX ce0 ce1 c0 c1 c2 c3 c4 c5 c6 c7 c8 c9 c10 c11 c12 c13 c14
      generalize (wr.alloc (.cells #[.int .i64 0, .int .i64 0, .int .i64 0, .slice none 0 0, .int .i64 0, .string ⟨#[]⟩, .bool false, .bool false, .int .i64 0, .string ⟨#[]⟩, .bool false, .bool false, .int .i64 0, .int .i64 0, .bool false] 125)).setRow wr.heap.size #[.int .i64 f.id, .int .i64 f.get, .int .i64 f.give, .slice aq f.fds.length pq, .int .i64 f.tun.up.r, .string f.tun.up.b, .bool f.tun.up.e, .bool f.tun.up.k, .int .i64 f.tun.dn.r, .string f.tun.dn.b, .bool f.tun.dn.e, .bool f.tun.dn.k, .int .i64 f.tun.went, .int .i64 f.tun.came, .bool f.ended] = V at *
      generalize wr.heap.size = gy at *
      try simp only [Act.put, List.getElem_toArray, List.getElem_cons_succ, List.getElem_cons_zero, List.setIfInBounds_toArray, List.set_cons_zero, List.set_cons_succ]
      have hbA : Below V.heap.size V (V.alloc (.cells #[.int .i64 e.id, .int .i64 e.state] 127)) := (Below.refl _ _).alloc (Nat.le_refl _) _
      have HRX := hide (RX.new hbA)
      replace HFD := hide (HFD.out.new hbA)
      replace HB := hide (bchain HB.out hbA)
      have re0 := RowIs.cell (j := 0) (rowIs_new V 127 [.int .i64 e.id, .int .i64 e.state]) rfl
      have re1 := RowIs.cell (j := 1) (rowIs_new V 127 [.int .i64 e.id, .int .i64 e.state]) rfl
      clear RX hbA
      go_upto_region 7 with fail
      clear ceX ceY hbeX
      generalize V.alloc (.cells #[.int .i64 e.id, .int .i64 e.state] 127) = X at *
      generalize V.heap.size = gz at *
      go_wp2_with (refine wpList_load_row (by rfl) 125 _ (by rfl) gy (by rfl) [.int .i64 f.id, .int .i64 f.get, .int .i64 f.give, .slice aq f.fds.length pq, .int .i64 f.tun.up.r, .string f.tun.up.b, .bool f.tun.up.e, .bool f.tun.up.k, .int .i64 f.tun.dn.r, .string f.tun.dn.b, .bool f.tun.dn.e, .bool f.tun.dn.k, .int .i64 f.tun.went, .int .i64 f.tun.came, .bool f.ended] _ 125 HRX.out Tryz.underlying125 rfl (by kernel_rfl) ?_)
      refine (implRightOf f e _ _ HFD.out s0 s1).mono ?_; rintro z w5 ⟨rfl, hb5⟩
      replace HB := hide (bchain HB.out hb5)
      clear hb5 HRX HFD re0 re1
      cases hq : okFl f e
      · have HF0 := hide (HQN.out hq)
        clear hq HQN HQY
        go_wp2_with fail
        go_ret
        exact ⟨by rw [HF0.out]; rfl, HB.out⟩
      · have HN := hide (HQY.out hq)
        clear hq HQN HQY
        go_wp2_with fail
        go_roundw
        case rel => exact ⟨k + 1, by go_num, by omega, HN, HB⟩
        case measure => simp [intOf]; omega
    · have HFF : Hid (A = true) := HA.out.symm.trans (okFls_of HL.out fun j h h' => HN.out j h h' (by omega))
      have hge : ¬ (k : Int) < F.length := by omega
      go_wp2_with fail
      go_ret
      exact ⟨by rw [HFF.out]; rfl, HB.out⟩
set_option maxHeartbeats 8000000 in
theorem implConnRight (d : CnD) (ve vi vo vf : Value) (w : World) (hv : CnRd w d ve vi vo vf) : Calls Tryz.prog 85 #[cnv d ve vi vo vf] w fun x w' => x = .returned (.bool (okCn d)) ∧ Below w.heap.size w w' := by
  dsimp only [cnv] at *
  have HV := hide hv
  clear hv
  obtain ⟨ae, pe, rfl, _⟩ := HV.out.e.form
  obtain ⟨ai, pi, rfl, _⟩ := HV.out.i.form
  obtain ⟨ao, po, rfl, _⟩ := HV.out.o.form
  obtain ⟨af, pf, rfl, _⟩ := HV.out.f.form
  have hin : inB d.first 0 16777215 = (winB d.first && !decide (d.first < 0)) := by
    rw [Bool.eq_iff_iff]
    unfold winB inB
    simp
    omega
  obtain ⟨V, hV⟩ : ∃ V, w.alloc (.cells #[.int .i64 d.reg.lim, .int .i64 d.reg.top, .slice ae d.reg.es.length pe, .int .i64 d.inr, .slice ai d.inT.length pi, .int .i64 d.outr, .slice ao d.outT.length po, .int .i64 d.get, .int .i64 d.give, .int .i64 d.first, .slice af d.flows.length pf, .bool d.away, .bool d.dead] 63) = V := ⟨_, rfl⟩
  have HB : Below w.heap.size w V := by rw [← hV]; exact (Below.refl _ _).alloc (Nat.le_refl _) _
  have RX : RowIs V w.heap.size 63 [.int .i64 d.reg.lim, .int .i64 d.reg.top, .slice ae d.reg.es.length pe, .int .i64 d.inr, .slice ai d.inT.length pi, .int .i64 d.outr, .slice ao d.outT.length po, .int .i64 d.get, .int .i64 d.give, .int .i64 d.first, .slice af d.flows.length pf, .bool d.away, .bool d.dead] := by rw [← hV]; exact rowIs_new w 63 _
  have HRX := hide RX
  have x7 := RowIs.cell (j := 7) RX rfl
  have x8 := RowIs.cell (j := 8) RX rfl
  have x9 := RowIs.cell (j := 9) RX rfl
  clear RX
  go_enter Tryz.func85, Tryz.ntmps85
  go_wp2_with fail
  try rw [hV]
  clear hV
  refine (implWin d.get _).mono ?_; rintro e v3 ⟨rfl, hsame⟩; obtain rfl := hsame.symm; clear hsame
  cases k4 : winB d.get
  · have HN := hide (okCn_no (c := d) (fun h => by rw [k4] at h; simp at h))
    go_wp2_with fail
    go_ret
    exact ⟨by rw [HN.out]; rfl, HB⟩
  go_wp2_with fail
  refine (implWin d.give _).mono ?_; rintro e v4 ⟨rfl, hsame⟩; obtain rfl := hsame.symm; clear hsame
  cases k5 : winB d.give
  · have HN := hide (okCn_no (c := d) (fun h => by rw [k5] at h; simp at h))
    go_wp2_with fail
    go_ret
    exact ⟨by rw [HN.out]; rfl, HB⟩
  go_wp2_with fail
  refine (implWin d.first _).mono ?_; rintro e v5 ⟨rfl, hsame⟩; obtain rfl := hsame.symm; clear hsame
  cases k6 : winB d.first
  · have HN := hide (okCn_no (c := d) (fun h => by rw [hin, k6] at h; simp at h))
    go_wp2_with fail
    go_ret
    exact ⟨by rw [HN.out]; rfl, HB⟩
  by_cases k7 : d.first < 0
  · have HN := hide (okCn_no (c := d) (fun h => by rw [hin, decide_eq_true k7] at h; simp at h))
    go_wp2_with fail
    go_ret
    exact ⟨by rw [HN.out]; rfl, HB⟩
  have HIN := hide (show inB d.first 0 16777215 = true by rw [hin, k6, decide_eq_false k7]; rfl)
  have x0 := RowIs.cell (j := 0) HRX.out rfl
  have x1 := RowIs.cell (j := 1) HRX.out rfl
  have x2 := RowIs.cell (j := 2) HRX.out rfl
  go_wp2_with fail
  refine (implRegistryOk d.reg _ _ (HV.out.e.new HB)).mono ?_; rintro x u0 ⟨rfl, hb⟩
  replace HRX := hide (HRX.out.new hb)
  replace HB := bchain HB hb
  clear hb x0 x1 x2 x7 x8 x9
  cases k1 : okRg d.reg
  · have HN := hide (okCn_no (c := d) (fun h => by rw [k1] at h; simp at h))
    go_wp2_with fail
    go_ret
    exact ⟨by rw [HN.out]; rfl, HB⟩
  have x3 := RowIs.cell (j := 3) HRX.out rfl
  have x4 := RowIs.cell (j := 4) HRX.out rfl
  go_wp2_with fail
  refine (implTOk d.inT d.inr _ _ (rd_fv (HV.out.i.new HB)) (rd_fine (HV.out.i.new HB))).mono ?_; rintro x u1 ⟨rfl, hb⟩
  replace HRX := hide (HRX.out.new hb)
  replace HB := bchain HB hb
  clear hb x3 x4
  cases k2 : okT d.inr d.inT
  · have HN := hide (okCn_no (c := d) (fun h => by rw [k2] at h; simp at h))
    go_wp2_with fail
    go_ret
    exact ⟨by rw [HN.out]; rfl, HB⟩
  have x5 := RowIs.cell (j := 5) HRX.out rfl
  have x6 := RowIs.cell (j := 6) HRX.out rfl
  go_wp2_with fail
  refine (implTOk d.outT d.outr _ _ (rd_fv (HV.out.o.new HB)) (rd_fine (HV.out.o.new HB))).mono ?_; rintro x u2 ⟨rfl, hb⟩
  replace HRX := hide (HRX.out.new hb)
  replace HB := bchain HB hb
  clear hb x5 x6
  cases k3 : okT d.outr d.outT
  · have HN := hide (okCn_no (c := d) (fun h => by rw [k3] at h; simp at h))
    go_wp2_with fail
    go_ret
    exact ⟨by rw [HN.out]; rfl, HB⟩
  have HC : Hid (okCn d = okFls d.flows d.reg.es) := by
    show okCn d = _
    unfold okCn
    rw [k1, k2, k3, k4, k5, HIN.out]; rfl
  have x10 := RowIs.cell (j := 10) HRX.out rfl
  have x2 := RowIs.cell (j := 2) HRX.out rfl
  clear k1 k2 k3 k4 k5 k6 k7 hin
  go_wp2_with fail
  refine (implEqualF d.flows d.reg.es _ _ _ (HV.out.f.new HB) (HV.out.e.new HB)).mono ?_; rintro x u3 ⟨rfl, hb⟩
  have HB2 := hide (bchain HB hb)
  clear hb
  go_wp2_with fail
  go_ret
  exact ⟨by rw [HC.out]; rfl, HB2.out⟩
theorem implConnOk (d : CnD) (ve vi vo vf : Value) (w : World) (hv : CnRd w d ve vi vo vf) : Calls Tryz.prog 103 #[cnv d ve vi vo vf] w fun x w' => x = .returned (.bool (okCn d)) ∧ Below w.heap.size w w' := by
  dsimp only [cnv] at *
  have HV := hide hv
  clear hv
  obtain ⟨ae, pe, rfl, _⟩ := HV.out.e.form
  obtain ⟨ai, pi, rfl, _⟩ := HV.out.i.form
  obtain ⟨ao, po, rfl, _⟩ := HV.out.o.form
  obtain ⟨af, pf, rfl, _⟩ := HV.out.f.form
  go_enter Tryz.func103, Tryz.ntmps103
  go_wp2_with fail
  refine (implConnRight d _ _ _ _ _ (HV.out.new (by repeat' (first | (with_reducible exact Below.refl _ _) | (with_reducible refine Below.drew ?_) | (with_reducible refine bo_drewN _ ?_) | (with_reducible refine bo_alloc ?_ _) | (refine bchain ?_ (by with_reducible assumption)) | (with_reducible refine Below.setCell ?_ ?_ _) | go_size)))).mono ?_; rintro x w1 ⟨rfl, hb⟩
  go_wp2_with fail
  go_ret
  exact ⟨rfl, bchain (by repeat' (first | (with_reducible exact Below.refl _ _) | (with_reducible refine Below.drew ?_) | (with_reducible refine bo_drewN _ ?_) | (with_reducible refine bo_alloc ?_ _) | (refine bchain ?_ (by with_reducible assumption)) | (with_reducible refine Below.setCell ?_ ?_ _) | go_size)) hb⟩
end Go.Proofs.YtkhclhnejnpkeaaGreat
