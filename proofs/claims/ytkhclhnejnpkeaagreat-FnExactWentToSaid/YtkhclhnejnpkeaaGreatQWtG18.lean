/- Several small texts of one level, one behind the other. -/
import Derived.Test.YtkhclhnejnpkeaaGreatQWtShConn
import Derived.Lib.SmallJoins
import Derived.OpenShut
import Derived.ChangeOld
import Derived.Test.YtkhclhnejnpkeaaGreatQWtG8
import Derived.Test.YtkhclhnejnpkeaaGreatQWtSB
import Derived.Test.YtkhclhnejnpkeaaGreatQWtG6
import Derived.Test.YtkhclhnejnpkeaaGreatQWtG4
import Derived.Test.YtkhclhnejnpkeaaGreatQWtG2
/- A Conn of the laws that came in: what its lists read as. -/
namespace Go.Proofs.YtkhclhnejnpkeaaGreat
open Go.RowKit
set_option maxRecDepth 100000
set_option linter.unusedSimpArgs false
set_option linter.unusedVariables false
section
open Go.ChangeShapes Go.WideShapes Go.ChangeAt Go.Joins
variable {H : Type} {enc : TypeId × Value → H} {W : World} {base : Nat} {spare : Nat → Bool} {held : Bool}
theorem trod_part {t : TypeId} {fs : Array Field} {fuel : Nat} {cs : List Value} {x : DataW H × List MemPlace} (ht : Tryz.prog.underlying t = some (.struct fs)) (h : DataW.trod enc Tryz.prog W base spare held fuel t cs = some x) :
    ∃ n, cs.length = Tryz.prog.cellsOf t ∧ ∀ f ∈ fs.toList, ∃ y, DataW.trod enc Tryz.prog W base spare held n f.type ((cs.drop f.offset).take (Tryz.prog.cellsOf f.type)) = some y := by
  obtain ⟨xs, n, _, _, hl, hlen, hf⟩ := DataW.trod_struct ht h
  refine ⟨n, hl, fun f hm => ?_⟩
  obtain ⟨i, hi'⟩ := List.getElem?_of_mem hm
  have hi : fs[i]? = some f := by rw [← Array.getElem?_toList]; exact hi'
  have hi2 : i < xs.length := by rw [hlen]; exact (Array.getElem?_eq_some_iff.1 hi).1
  exact ⟨xs[i], by rw [hf i f hi]; simp [hi2]⟩
theorem list13 {α : Type} {cs : List α} (h : cs.length = 13) : ∃ c0 c1 c2 c3 c4 c5 c6 c7 c8 c9 c10 c11 c12, cs = [c0, c1, c2, c3, c4, c5, c6, c7, c8, c9, c10, c11, c12] := by
  match cs, h with
  | [c0, c1, c2, c3, c4, c5, c6, c7, c8, c9, c10, c11, c12], _ => exact ⟨c0, c1, c2, c3, c4, c5, c6, c7, c8, c9, c10, c11, c12, rfl⟩
theorem list15 {α : Type} {cs : List α} (h : cs.length = 15) : ∃ c0 c1 c2 c3 c4 c5 c6 c7 c8 c9 c10 c11 c12 c13 c14, cs = [c0, c1, c2, c3, c4, c5, c6, c7, c8, c9, c10, c11, c12, c13, c14] := by
  match cs, h with
  | [c0, c1, c2, c3, c4, c5, c6, c7, c8, c9, c10, c11, c12, c13, c14], _ => exact ⟨c0, c1, c2, c3, c4, c5, c6, c7, c8, c9, c10, c11, c12, c13, c14, rfl⟩
theorem trod_pipeG {n : Nat} {c0 c1 c2 c3 : Value} {y : DataW H × List MemPlace} (h : DataW.trod enc Tryz.prog W base spare held n 199 [c0, c1, c2, c3] = some y) :
    ∃ p : PpD, p.b.size ≤ 9223372036854775807 ∧ c0 = .int .i64 p.r ∧ c1 = .string p.b ∧ c2 = .bool p.e ∧ c3 = .bool p.k := by
  obtain ⟨m, _, hf⟩ := trod_part Tryz.underlying199 h
  simp only [List.forall_mem_cons, List.not_mem_nil, false_imp_iff, implies_true, and_true] at hf
  obtain ⟨⟨y0, h0⟩, ⟨y1, h1⟩, ⟨y2, h2⟩, ⟨y3, h3⟩⟩ := hf
  have k0 : Tryz.prog.cellsOf 2 = 1 := by kernel_rfl
  have k1 : Tryz.prog.cellsOf 9 = 1 := by kernel_rfl
  have k2 : Tryz.prog.cellsOf 4 = 1 := by kernel_rfl
  simp only [k0, k1, k2, List.drop_zero, List.drop_succ_cons, List.take_succ_cons, List.take_zero] at h0 h1 h2 h3
  obtain ⟨a, e0, _, wa⟩ := DataW.trod_int Tryz.underlying2 h0
  obtain ⟨s, e1, _, ws⟩ := DataW.trod_string Tryz.underlying9 h1
  obtain ⟨x, e2, _⟩ := DataW.trod_bool Tryz.underlying4 h2
  obtain ⟨z, e3, _⟩ := DataW.trod_bool Tryz.underlying4 h3
  simp at e0 e1 e2 e3
  exact ⟨⟨a, s, x, z⟩, by unfold maxLen at ws; simp only; omega, e0, e1, e2, e3⟩
theorem trod_tunG {n : Nat} {c0 c1 c2 c3 c4 c5 c6 c7 c8 c9 : Value} {y : DataW H × List MemPlace} (h : DataW.trod enc Tryz.prog W base spare held n 201 [c0, c1, c2, c3, c4, c5, c6, c7, c8, c9] = some y) :
    ∃ t : TuD, t.up.b.size ≤ 9223372036854775807 ∧ t.dn.b.size ≤ 9223372036854775807 ∧ [c0, c1, c2, c3, c4, c5, c6, c7, c8, c9] = tucs t := by
  obtain ⟨m, _, hf⟩ := trod_part Tryz.underlying201 h
  simp only [List.forall_mem_cons, List.not_mem_nil, false_imp_iff, implies_true, and_true] at hf
  obtain ⟨⟨y0, h0⟩, ⟨y1, h1⟩, ⟨y2, h2⟩, ⟨y3, h3⟩⟩ := hf
  have k0 : Tryz.prog.cellsOf 2 = 1 := by kernel_rfl
  have k1 : Tryz.prog.cellsOf 199 = 4 := by kernel_rfl
  simp only [k0, k1, List.drop_zero, List.drop_succ_cons, List.take_succ_cons, List.take_zero] at h0 h1 h2 h3
  obtain ⟨p1, q1, rfl, rfl, rfl, rfl⟩ := trod_pipeG h0
  obtain ⟨p2, q2, rfl, rfl, rfl, rfl⟩ := trod_pipeG h1
  obtain ⟨a, e0, _, wa⟩ := DataW.trod_int Tryz.underlying2 h2
  obtain ⟨a', e1, _, wa'⟩ := DataW.trod_int Tryz.underlying2 h3
  simp at e0 e1
  subst e0 e1
  exact ⟨⟨p1, p2, a, a'⟩, q1, q2, rfl⟩
theorem open_cellsFlow {fuel : Nat} {cs : List Value} {x : DataW H × List MemPlace} (h : DataW.trod enc Tryz.prog W base spare held fuel 203 cs = some x) : ∃ d : FlD, flowS.rd W cs d := by
  obtain ⟨m, hl, hf⟩ := trod_part Tryz.underlying203 h
  have hc : Tryz.prog.cellsOf 203 = 15 := by kernel_rfl
  obtain ⟨c0, c1, c2, c3, c4, c5, c6, c7, c8, c9, c10, c11, c12, c13, c14, rfl⟩ := list15 (hl.trans hc)
  simp only [List.forall_mem_cons, List.not_mem_nil, false_imp_iff, implies_true, and_true] at hf
  obtain ⟨⟨y0, h0⟩, ⟨y1, h1⟩, ⟨y2, h2⟩, ⟨y3, h3⟩, ⟨y4, h4⟩, ⟨y5, h5⟩⟩ := hf
  have k0 : Tryz.prog.cellsOf 2 = 1 := by kernel_rfl
  have k1 : Tryz.prog.cellsOf 105 = 1 := by kernel_rfl
  have k2 : Tryz.prog.cellsOf 201 = 10 := by kernel_rfl
  have k3 : Tryz.prog.cellsOf 4 = 1 := by kernel_rfl
  simp only [k0, k1, k2, k3, List.drop_zero, List.drop_succ_cons, List.take_succ_cons, List.take_zero] at h0 h1 h2 h3 h4 h5
  obtain ⟨i0, e0, _⟩ := DataW.trod_int Tryz.underlying2 h0
  obtain ⟨i1, e1, _⟩ := DataW.trod_int Tryz.underlying2 h1
  obtain ⟨i2, e2, _⟩ := DataW.trod_int Tryz.underlying2 h2
  obtain ⟨L3, hL3⟩ := open_shape (E := fieldS) ⟨⟨#[]⟩, ⟨#[]⟩⟩ Tryz.underlying105 (by kernel_rfl) (fun cs n y hy => open_cellsField hy) h3
  obtain ⟨t, t1, t2, et⟩ := trod_tunG h4
  obtain ⟨i5, e5, _⟩ := DataW.trod_bool Tryz.underlying4 h5
  simp only [List.cons.injEq, and_true] at e0 e1 e2 e5 et
  obtain ⟨rfl, rfl, rfl, rfl, rfl, rfl, rfl, rfl, rfl, rfl⟩ := et
  subst e0 e1 e2 e5
  exact ⟨⟨i0, i1, i2, L3, t, i5⟩, c3, rfl, t1, t2, hL3⟩
end
end Go.Proofs.YtkhclhnejnpkeaaGreat
/- Chapter 17's model: which Conn is right; a new one (by gen_connspec.py). -/
namespace Go.Proofs.YtkhclhnejnpkeaaGreat
open Go.RowKit
set_option maxRecDepth 100000
set_option linter.unusedSimpArgs false
set_option linter.unusedVariables false
theorem okCn_no {c : CnD} (h : ¬ (okRg c.reg = true ∧ okT c.inr c.inT = true ∧ okT c.outr c.outT = true ∧ winB c.get = true ∧ winB c.give = true ∧ inB c.first 0 16777215 = true ∧ okFls c.flows c.reg.es = true)) : okCn c = false := by
  cases e : okCn c
  · rfl
  · unfold okCn at e
    simp only [Bool.and_eq_true] at e
    obtain ⟨⟨⟨⟨⟨⟨a, b⟩, c⟩, d⟩, e⟩, f⟩, g⟩ := e
    exact absurd ⟨a, b, c, d, e, f, g⟩ h
theorem okCn_yes {c : CnD} (h1 : okRg c.reg = true) (h2 : okT c.inr c.inT = true) (h3 : okT c.outr c.outT = true) (h4 : winB c.get = true) (h5 : winB c.give = true) (h6 : inB c.first 0 16777215 = true) (h7 : okFls c.flows c.reg.es = true) : okCn c = true := by
  unfold okCn; rw [h1, h2, h3, h4, h5, h6, h7]; rfl
theorem okFls_no {fs : List FlD} {es : List EntryD} {i : Nat} (h : i < fs.length) (h' : i < es.length) (hn : okFl fs[i] es[i] = false) : okFls fs es = false := by
  cases e : okFls fs es
  · rfl
  · rw [okFls_get e i h h'] at hn; cases hn
theorem okFl_no {f : FlD} {e : EntryD} (h : ¬ (f.id = e.id ∧ winB f.get = true ∧ winB f.give = true ∧ okFs f.fds = true ∧ okTu f.tun = true)) : okFl f e = false := by
  cases q : okFl f e
  · rfl
  · unfold okFl at q
    simp only [Bool.and_eq_true, decide_eq_true_eq] at q
    obtain ⟨⟨⟨⟨a, b⟩, c⟩, d⟩, e⟩ := q
    exact absurd ⟨a, b, c, d, e⟩ h
theorem okFl_yes {f : FlD} {e : EntryD} (h1 : f.id = e.id) (h2 : winB f.get = true) (h3 : winB f.give = true) (h4 : okFs f.fds = true) (h5 : okTu f.tun = true) : okFl f e = true := by
  unfold okFl; rw [decide_eq_true h1, h2, h3, h4, h5]; rfl
set_option maxHeartbeats 8000000 in
theorem specConnOk (d : CnD) (ve vi vo vf : Value) (w : World) (hv : CnRd w d ve vi vo vf) : Calls Tryz.prog 26 #[cnv d ve vi vo vf] w fun x w' => x = .returned (.bool (okCn d)) ∧ Below w.heap.size w w' := by
  dsimp only [cnv] at *
  have HV := hide hv
  clear hv
  obtain ⟨ae, pe, rfl, _⟩ := HV.out.e.form
  obtain ⟨ai, pi, rfl, _⟩ := HV.out.i.form
  obtain ⟨ao, po, rfl, _⟩ := HV.out.o.form
  obtain ⟨af, pf, rfl, _⟩ := HV.out.f.form
  have RX := rowIs_new w 63 [.int .i64 d.reg.lim, .int .i64 d.reg.top, .slice ae d.reg.es.length pe, .int .i64 d.inr, .slice ai d.inT.length pi, .int .i64 d.outr, .slice ao d.outT.length po, .int .i64 d.get, .int .i64 d.give, .int .i64 d.first, .slice af d.flows.length pf, .bool d.away, .bool d.dead]
  have HB : Below w.heap.size w (w.alloc (.cells #[.int .i64 d.reg.lim, .int .i64 d.reg.top, .slice ae d.reg.es.length pe, .int .i64 d.inr, .slice ai d.inT.length pi, .int .i64 d.outr, .slice ao d.outT.length po, .int .i64 d.get, .int .i64 d.give, .int .i64 d.first, .slice af d.flows.length pf, .bool d.away, .bool d.dead] 63)) := (Below.refl _ _).alloc (Nat.le_refl _) _
  obtain ⟨lf, hlf⟩ : ∃ n, n = d.flows.length := ⟨_, rfl⟩
  obtain ⟨le, hle⟩ : ∃ n, n = d.reg.es.length := ⟨_, rfl⟩
  have HLF := hide hlf; have HLE := hide hle
  cases k1 : okRg d.reg
  · go_enter Tryz.func26, Tryz.ntmps26
    go_wp2_with fail
    refine (specRegistryOk d.reg _ _ (HV.out.e.new HB)).mono ?_; rw [k1]; rintro x u0 ⟨rfl, hb⟩
    replace RX := RX.new hb
    replace HB := bchain HB hb
    clear hb
    have x0 := RowIs.cell (j := 0) RX rfl
    have x1 := RowIs.cell (j := 1) RX rfl
    have x2 := RowIs.cell (j := 2) RX rfl
    have x3 := RowIs.cell (j := 3) RX rfl
    have x4 := RowIs.cell (j := 4) RX rfl
    have x5 := RowIs.cell (j := 5) RX rfl
    have x6 := RowIs.cell (j := 6) RX rfl
    have x7 := RowIs.cell (j := 7) RX rfl
    have x8 := RowIs.cell (j := 8) RX rfl
    have x9 := RowIs.cell (j := 9) RX rfl
    have x10 := RowIs.cell (j := 10) RX rfl
    have x11 := RowIs.cell (j := 11) RX rfl
    have x12 := RowIs.cell (j := 12) RX rfl
    go_wp2_with fail
    go_ret
    exact ⟨by rw [okCn_no (fun h => by rw [k1] at h; simp at h)]; rfl, HB⟩
  cases k2 : okT d.inr d.inT
  · go_enter Tryz.func26, Tryz.ntmps26
    go_wp2_with fail
    refine (specRegistryOk d.reg _ _ (HV.out.e.new HB)).mono ?_; rw [k1]; rintro x u0 ⟨rfl, hb⟩
    replace RX := RX.new hb
    replace HB := bchain HB hb
    clear hb
    have x0 := RowIs.cell (j := 0) RX rfl
    have x1 := RowIs.cell (j := 1) RX rfl
    have x2 := RowIs.cell (j := 2) RX rfl
    have x3 := RowIs.cell (j := 3) RX rfl
    have x4 := RowIs.cell (j := 4) RX rfl
    have x5 := RowIs.cell (j := 5) RX rfl
    have x6 := RowIs.cell (j := 6) RX rfl
    have x7 := RowIs.cell (j := 7) RX rfl
    have x8 := RowIs.cell (j := 8) RX rfl
    have x9 := RowIs.cell (j := 9) RX rfl
    have x10 := RowIs.cell (j := 10) RX rfl
    have x11 := RowIs.cell (j := 11) RX rfl
    have x12 := RowIs.cell (j := 12) RX rfl
    go_wp2_with fail
    refine (specTOk d.inT d.inr _ _ (rd_fv (HV.out.i.new HB)) (rd_fine (HV.out.i.new HB))).mono ?_; rw [k2]; rintro x u1 ⟨rfl, hb⟩
    replace RX := RX.new hb
    replace HB := bchain HB hb
    clear hb
    clear x0 x1 x2 x3 x4 x5 x6 x7 x8 x9 x10 x11 x12
    have x0 := RowIs.cell (j := 0) RX rfl
    have x1 := RowIs.cell (j := 1) RX rfl
    have x2 := RowIs.cell (j := 2) RX rfl
    have x3 := RowIs.cell (j := 3) RX rfl
    have x4 := RowIs.cell (j := 4) RX rfl
    have x5 := RowIs.cell (j := 5) RX rfl
    have x6 := RowIs.cell (j := 6) RX rfl
    have x7 := RowIs.cell (j := 7) RX rfl
    have x8 := RowIs.cell (j := 8) RX rfl
    have x9 := RowIs.cell (j := 9) RX rfl
    have x10 := RowIs.cell (j := 10) RX rfl
    have x11 := RowIs.cell (j := 11) RX rfl
    have x12 := RowIs.cell (j := 12) RX rfl
    go_wp2_with fail
    go_ret
    exact ⟨by rw [okCn_no (fun h => by rw [k2] at h; simp at h)]; rfl, HB⟩
  cases k3 : okT d.outr d.outT
  · go_enter Tryz.func26, Tryz.ntmps26
    go_wp2_with fail
    refine (specRegistryOk d.reg _ _ (HV.out.e.new HB)).mono ?_; rw [k1]; rintro x u0 ⟨rfl, hb⟩
    replace RX := RX.new hb
    replace HB := bchain HB hb
    clear hb
    have x0 := RowIs.cell (j := 0) RX rfl
    have x1 := RowIs.cell (j := 1) RX rfl
    have x2 := RowIs.cell (j := 2) RX rfl
    have x3 := RowIs.cell (j := 3) RX rfl
    have x4 := RowIs.cell (j := 4) RX rfl
    have x5 := RowIs.cell (j := 5) RX rfl
    have x6 := RowIs.cell (j := 6) RX rfl
    have x7 := RowIs.cell (j := 7) RX rfl
    have x8 := RowIs.cell (j := 8) RX rfl
    have x9 := RowIs.cell (j := 9) RX rfl
    have x10 := RowIs.cell (j := 10) RX rfl
    have x11 := RowIs.cell (j := 11) RX rfl
    have x12 := RowIs.cell (j := 12) RX rfl
    go_wp2_with fail
    refine (specTOk d.inT d.inr _ _ (rd_fv (HV.out.i.new HB)) (rd_fine (HV.out.i.new HB))).mono ?_; rw [k2]; rintro x u1 ⟨rfl, hb⟩
    replace RX := RX.new hb
    replace HB := bchain HB hb
    clear hb
    clear x0 x1 x2 x3 x4 x5 x6 x7 x8 x9 x10 x11 x12
    have x0 := RowIs.cell (j := 0) RX rfl
    have x1 := RowIs.cell (j := 1) RX rfl
    have x2 := RowIs.cell (j := 2) RX rfl
    have x3 := RowIs.cell (j := 3) RX rfl
    have x4 := RowIs.cell (j := 4) RX rfl
    have x5 := RowIs.cell (j := 5) RX rfl
    have x6 := RowIs.cell (j := 6) RX rfl
    have x7 := RowIs.cell (j := 7) RX rfl
    have x8 := RowIs.cell (j := 8) RX rfl
    have x9 := RowIs.cell (j := 9) RX rfl
    have x10 := RowIs.cell (j := 10) RX rfl
    have x11 := RowIs.cell (j := 11) RX rfl
    have x12 := RowIs.cell (j := 12) RX rfl
    go_wp2_with fail
    refine (specTOk d.outT d.outr _ _ (rd_fv (HV.out.o.new HB)) (rd_fine (HV.out.o.new HB))).mono ?_; rw [k3]; rintro x u2 ⟨rfl, hb⟩
    replace RX := RX.new hb
    replace HB := bchain HB hb
    clear hb
    clear x0 x1 x2 x3 x4 x5 x6 x7 x8 x9 x10 x11 x12
    have x0 := RowIs.cell (j := 0) RX rfl
    have x1 := RowIs.cell (j := 1) RX rfl
    have x2 := RowIs.cell (j := 2) RX rfl
    have x3 := RowIs.cell (j := 3) RX rfl
    have x4 := RowIs.cell (j := 4) RX rfl
    have x5 := RowIs.cell (j := 5) RX rfl
    have x6 := RowIs.cell (j := 6) RX rfl
    have x7 := RowIs.cell (j := 7) RX rfl
    have x8 := RowIs.cell (j := 8) RX rfl
    have x9 := RowIs.cell (j := 9) RX rfl
    have x10 := RowIs.cell (j := 10) RX rfl
    have x11 := RowIs.cell (j := 11) RX rfl
    have x12 := RowIs.cell (j := 12) RX rfl
    go_wp2_with fail
    go_ret
    exact ⟨by rw [okCn_no (fun h => by rw [k3] at h; simp at h)]; rfl, HB⟩
  cases k4 : winB d.get
  · go_enter Tryz.func26, Tryz.ntmps26
    go_wp2_with fail
    refine (specRegistryOk d.reg _ _ (HV.out.e.new HB)).mono ?_; rw [k1]; rintro x u0 ⟨rfl, hb⟩
    replace RX := RX.new hb
    replace HB := bchain HB hb
    clear hb
    have x0 := RowIs.cell (j := 0) RX rfl
    have x1 := RowIs.cell (j := 1) RX rfl
    have x2 := RowIs.cell (j := 2) RX rfl
    have x3 := RowIs.cell (j := 3) RX rfl
    have x4 := RowIs.cell (j := 4) RX rfl
    have x5 := RowIs.cell (j := 5) RX rfl
    have x6 := RowIs.cell (j := 6) RX rfl
    have x7 := RowIs.cell (j := 7) RX rfl
    have x8 := RowIs.cell (j := 8) RX rfl
    have x9 := RowIs.cell (j := 9) RX rfl
    have x10 := RowIs.cell (j := 10) RX rfl
    have x11 := RowIs.cell (j := 11) RX rfl
    have x12 := RowIs.cell (j := 12) RX rfl
    go_wp2_with fail
    refine (specTOk d.inT d.inr _ _ (rd_fv (HV.out.i.new HB)) (rd_fine (HV.out.i.new HB))).mono ?_; rw [k2]; rintro x u1 ⟨rfl, hb⟩
    replace RX := RX.new hb
    replace HB := bchain HB hb
    clear hb
    clear x0 x1 x2 x3 x4 x5 x6 x7 x8 x9 x10 x11 x12
    have x0 := RowIs.cell (j := 0) RX rfl
    have x1 := RowIs.cell (j := 1) RX rfl
    have x2 := RowIs.cell (j := 2) RX rfl
    have x3 := RowIs.cell (j := 3) RX rfl
    have x4 := RowIs.cell (j := 4) RX rfl
    have x5 := RowIs.cell (j := 5) RX rfl
    have x6 := RowIs.cell (j := 6) RX rfl
    have x7 := RowIs.cell (j := 7) RX rfl
    have x8 := RowIs.cell (j := 8) RX rfl
    have x9 := RowIs.cell (j := 9) RX rfl
    have x10 := RowIs.cell (j := 10) RX rfl
    have x11 := RowIs.cell (j := 11) RX rfl
    have x12 := RowIs.cell (j := 12) RX rfl
    go_wp2_with fail
    refine (specTOk d.outT d.outr _ _ (rd_fv (HV.out.o.new HB)) (rd_fine (HV.out.o.new HB))).mono ?_; rw [k3]; rintro x u2 ⟨rfl, hb⟩
    replace RX := RX.new hb
    replace HB := bchain HB hb
    clear hb
    clear x0 x1 x2 x3 x4 x5 x6 x7 x8 x9 x10 x11 x12
    have x0 := RowIs.cell (j := 0) RX rfl
    have x1 := RowIs.cell (j := 1) RX rfl
    have x2 := RowIs.cell (j := 2) RX rfl
    have x3 := RowIs.cell (j := 3) RX rfl
    have x4 := RowIs.cell (j := 4) RX rfl
    have x5 := RowIs.cell (j := 5) RX rfl
    have x6 := RowIs.cell (j := 6) RX rfl
    have x7 := RowIs.cell (j := 7) RX rfl
    have x8 := RowIs.cell (j := 8) RX rfl
    have x9 := RowIs.cell (j := 9) RX rfl
    have x10 := RowIs.cell (j := 10) RX rfl
    have x11 := RowIs.cell (j := 11) RX rfl
    have x12 := RowIs.cell (j := 12) RX rfl
    go_wp2_with fail
    refine (specWin d.get _).mono ?_; rw [k4]; rintro e v3 ⟨rfl, hsame⟩; obtain rfl := hsame.symm; clear hsame
    go_wp2_with fail
    go_ret
    exact ⟨by rw [okCn_no (fun h => by rw [k4] at h; simp at h)]; rfl, HB⟩
  cases k5 : winB d.give
  · go_enter Tryz.func26, Tryz.ntmps26
    go_wp2_with fail
    refine (specRegistryOk d.reg _ _ (HV.out.e.new HB)).mono ?_; rw [k1]; rintro x u0 ⟨rfl, hb⟩
    replace RX := RX.new hb
    replace HB := bchain HB hb
    clear hb
    have x0 := RowIs.cell (j := 0) RX rfl
    have x1 := RowIs.cell (j := 1) RX rfl
    have x2 := RowIs.cell (j := 2) RX rfl
    have x3 := RowIs.cell (j := 3) RX rfl
    have x4 := RowIs.cell (j := 4) RX rfl
    have x5 := RowIs.cell (j := 5) RX rfl
    have x6 := RowIs.cell (j := 6) RX rfl
    have x7 := RowIs.cell (j := 7) RX rfl
    have x8 := RowIs.cell (j := 8) RX rfl
    have x9 := RowIs.cell (j := 9) RX rfl
    have x10 := RowIs.cell (j := 10) RX rfl
    have x11 := RowIs.cell (j := 11) RX rfl
    have x12 := RowIs.cell (j := 12) RX rfl
    go_wp2_with fail
    refine (specTOk d.inT d.inr _ _ (rd_fv (HV.out.i.new HB)) (rd_fine (HV.out.i.new HB))).mono ?_; rw [k2]; rintro x u1 ⟨rfl, hb⟩
    replace RX := RX.new hb
    replace HB := bchain HB hb
    clear hb
    clear x0 x1 x2 x3 x4 x5 x6 x7 x8 x9 x10 x11 x12
    have x0 := RowIs.cell (j := 0) RX rfl
    have x1 := RowIs.cell (j := 1) RX rfl
    have x2 := RowIs.cell (j := 2) RX rfl
    have x3 := RowIs.cell (j := 3) RX rfl
    have x4 := RowIs.cell (j := 4) RX rfl
    have x5 := RowIs.cell (j := 5) RX rfl
    have x6 := RowIs.cell (j := 6) RX rfl
    have x7 := RowIs.cell (j := 7) RX rfl
    have x8 := RowIs.cell (j := 8) RX rfl
    have x9 := RowIs.cell (j := 9) RX rfl
    have x10 := RowIs.cell (j := 10) RX rfl
    have x11 := RowIs.cell (j := 11) RX rfl
    have x12 := RowIs.cell (j := 12) RX rfl
    go_wp2_with fail
    refine (specTOk d.outT d.outr _ _ (rd_fv (HV.out.o.new HB)) (rd_fine (HV.out.o.new HB))).mono ?_; rw [k3]; rintro x u2 ⟨rfl, hb⟩
    replace RX := RX.new hb
    replace HB := bchain HB hb
    clear hb
    clear x0 x1 x2 x3 x4 x5 x6 x7 x8 x9 x10 x11 x12
    have x0 := RowIs.cell (j := 0) RX rfl
    have x1 := RowIs.cell (j := 1) RX rfl
    have x2 := RowIs.cell (j := 2) RX rfl
    have x3 := RowIs.cell (j := 3) RX rfl
    have x4 := RowIs.cell (j := 4) RX rfl
    have x5 := RowIs.cell (j := 5) RX rfl
    have x6 := RowIs.cell (j := 6) RX rfl
    have x7 := RowIs.cell (j := 7) RX rfl
    have x8 := RowIs.cell (j := 8) RX rfl
    have x9 := RowIs.cell (j := 9) RX rfl
    have x10 := RowIs.cell (j := 10) RX rfl
    have x11 := RowIs.cell (j := 11) RX rfl
    have x12 := RowIs.cell (j := 12) RX rfl
    go_wp2_with fail
    refine (specWin d.get _).mono ?_; rw [k4]; rintro e v3 ⟨rfl, hsame⟩; obtain rfl := hsame.symm; clear hsame
    go_wp2_with fail
    refine (specWin d.give _).mono ?_; rw [k5]; rintro e v4 ⟨rfl, hsame⟩; obtain rfl := hsame.symm; clear hsame
    go_wp2_with fail
    go_ret
    exact ⟨by rw [okCn_no (fun h => by rw [k5] at h; simp at h)]; rfl, HB⟩
  cases k6 : inB d.first 0 16777215
  · go_enter Tryz.func26, Tryz.ntmps26
    go_wp2_with fail
    refine (specRegistryOk d.reg _ _ (HV.out.e.new HB)).mono ?_; rw [k1]; rintro x u0 ⟨rfl, hb⟩
    replace RX := RX.new hb
    replace HB := bchain HB hb
    clear hb
    have x0 := RowIs.cell (j := 0) RX rfl
    have x1 := RowIs.cell (j := 1) RX rfl
    have x2 := RowIs.cell (j := 2) RX rfl
    have x3 := RowIs.cell (j := 3) RX rfl
    have x4 := RowIs.cell (j := 4) RX rfl
    have x5 := RowIs.cell (j := 5) RX rfl
    have x6 := RowIs.cell (j := 6) RX rfl
    have x7 := RowIs.cell (j := 7) RX rfl
    have x8 := RowIs.cell (j := 8) RX rfl
    have x9 := RowIs.cell (j := 9) RX rfl
    have x10 := RowIs.cell (j := 10) RX rfl
    have x11 := RowIs.cell (j := 11) RX rfl
    have x12 := RowIs.cell (j := 12) RX rfl
    go_wp2_with fail
    refine (specTOk d.inT d.inr _ _ (rd_fv (HV.out.i.new HB)) (rd_fine (HV.out.i.new HB))).mono ?_; rw [k2]; rintro x u1 ⟨rfl, hb⟩
    replace RX := RX.new hb
    replace HB := bchain HB hb
    clear hb
    clear x0 x1 x2 x3 x4 x5 x6 x7 x8 x9 x10 x11 x12
    have x0 := RowIs.cell (j := 0) RX rfl
    have x1 := RowIs.cell (j := 1) RX rfl
    have x2 := RowIs.cell (j := 2) RX rfl
    have x3 := RowIs.cell (j := 3) RX rfl
    have x4 := RowIs.cell (j := 4) RX rfl
    have x5 := RowIs.cell (j := 5) RX rfl
    have x6 := RowIs.cell (j := 6) RX rfl
    have x7 := RowIs.cell (j := 7) RX rfl
    have x8 := RowIs.cell (j := 8) RX rfl
    have x9 := RowIs.cell (j := 9) RX rfl
    have x10 := RowIs.cell (j := 10) RX rfl
    have x11 := RowIs.cell (j := 11) RX rfl
    have x12 := RowIs.cell (j := 12) RX rfl
    go_wp2_with fail
    refine (specTOk d.outT d.outr _ _ (rd_fv (HV.out.o.new HB)) (rd_fine (HV.out.o.new HB))).mono ?_; rw [k3]; rintro x u2 ⟨rfl, hb⟩
    replace RX := RX.new hb
    replace HB := bchain HB hb
    clear hb
    clear x0 x1 x2 x3 x4 x5 x6 x7 x8 x9 x10 x11 x12
    have x0 := RowIs.cell (j := 0) RX rfl
    have x1 := RowIs.cell (j := 1) RX rfl
    have x2 := RowIs.cell (j := 2) RX rfl
    have x3 := RowIs.cell (j := 3) RX rfl
    have x4 := RowIs.cell (j := 4) RX rfl
    have x5 := RowIs.cell (j := 5) RX rfl
    have x6 := RowIs.cell (j := 6) RX rfl
    have x7 := RowIs.cell (j := 7) RX rfl
    have x8 := RowIs.cell (j := 8) RX rfl
    have x9 := RowIs.cell (j := 9) RX rfl
    have x10 := RowIs.cell (j := 10) RX rfl
    have x11 := RowIs.cell (j := 11) RX rfl
    have x12 := RowIs.cell (j := 12) RX rfl
    go_wp2_with fail
    refine (specWin d.get _).mono ?_; rw [k4]; rintro e v3 ⟨rfl, hsame⟩; obtain rfl := hsame.symm; clear hsame
    go_wp2_with fail
    refine (specWin d.give _).mono ?_; rw [k5]; rintro e v4 ⟨rfl, hsame⟩; obtain rfl := hsame.symm; clear hsame
    go_wp2_with fail
    refine (specIn d.first 0 16777215 _).mono ?_; rw [k6]; rintro e v5 ⟨rfl, hsame⟩; obtain rfl := hsame.symm; clear hsame
    go_wp2_with fail
    go_ret
    exact ⟨by rw [okCn_no (fun h => by rw [k6] at h; simp at h)]; rfl, HB⟩
  by_cases k7 : d.flows.length = d.reg.es.length
  rotate_left
  · have k7' : ((d.flows.length : Int) != d.reg.es.length) = true := by simpa using fun c : (d.flows.length : Int) = d.reg.es.length => k7 (by omega)
    have HK7 := hide k7
    clear k7
    go_enter Tryz.func26, Tryz.ntmps26
    go_wp2_with fail
    refine (specRegistryOk d.reg _ _ (HV.out.e.new HB)).mono ?_; rw [k1]; rintro x u0 ⟨rfl, hb⟩
    replace RX := RX.new hb
    replace HB := bchain HB hb
    clear hb
    have x0 := RowIs.cell (j := 0) RX rfl
    have x1 := RowIs.cell (j := 1) RX rfl
    have x2 := RowIs.cell (j := 2) RX rfl
    have x3 := RowIs.cell (j := 3) RX rfl
    have x4 := RowIs.cell (j := 4) RX rfl
    have x5 := RowIs.cell (j := 5) RX rfl
    have x6 := RowIs.cell (j := 6) RX rfl
    have x7 := RowIs.cell (j := 7) RX rfl
    have x8 := RowIs.cell (j := 8) RX rfl
    have x9 := RowIs.cell (j := 9) RX rfl
    have x10 := RowIs.cell (j := 10) RX rfl
    have x11 := RowIs.cell (j := 11) RX rfl
    have x12 := RowIs.cell (j := 12) RX rfl
    go_wp2_with fail
    refine (specTOk d.inT d.inr _ _ (rd_fv (HV.out.i.new HB)) (rd_fine (HV.out.i.new HB))).mono ?_; rw [k2]; rintro x u1 ⟨rfl, hb⟩
    replace RX := RX.new hb
    replace HB := bchain HB hb
    clear hb
    clear x0 x1 x2 x3 x4 x5 x6 x7 x8 x9 x10 x11 x12
    have x0 := RowIs.cell (j := 0) RX rfl
    have x1 := RowIs.cell (j := 1) RX rfl
    have x2 := RowIs.cell (j := 2) RX rfl
    have x3 := RowIs.cell (j := 3) RX rfl
    have x4 := RowIs.cell (j := 4) RX rfl
    have x5 := RowIs.cell (j := 5) RX rfl
    have x6 := RowIs.cell (j := 6) RX rfl
    have x7 := RowIs.cell (j := 7) RX rfl
    have x8 := RowIs.cell (j := 8) RX rfl
    have x9 := RowIs.cell (j := 9) RX rfl
    have x10 := RowIs.cell (j := 10) RX rfl
    have x11 := RowIs.cell (j := 11) RX rfl
    have x12 := RowIs.cell (j := 12) RX rfl
    go_wp2_with fail
    refine (specTOk d.outT d.outr _ _ (rd_fv (HV.out.o.new HB)) (rd_fine (HV.out.o.new HB))).mono ?_; rw [k3]; rintro x u2 ⟨rfl, hb⟩
    replace RX := RX.new hb
    replace HB := bchain HB hb
    clear hb
    clear x0 x1 x2 x3 x4 x5 x6 x7 x8 x9 x10 x11 x12
    have x0 := RowIs.cell (j := 0) RX rfl
    have x1 := RowIs.cell (j := 1) RX rfl
    have x2 := RowIs.cell (j := 2) RX rfl
    have x3 := RowIs.cell (j := 3) RX rfl
    have x4 := RowIs.cell (j := 4) RX rfl
    have x5 := RowIs.cell (j := 5) RX rfl
    have x6 := RowIs.cell (j := 6) RX rfl
    have x7 := RowIs.cell (j := 7) RX rfl
    have x8 := RowIs.cell (j := 8) RX rfl
    have x9 := RowIs.cell (j := 9) RX rfl
    have x10 := RowIs.cell (j := 10) RX rfl
    have x11 := RowIs.cell (j := 11) RX rfl
    have x12 := RowIs.cell (j := 12) RX rfl
    go_wp2_with fail
    refine (specWin d.get _).mono ?_; rw [k4]; rintro e v3 ⟨rfl, hsame⟩; obtain rfl := hsame.symm; clear hsame
    go_wp2_with fail
    refine (specWin d.give _).mono ?_; rw [k5]; rintro e v4 ⟨rfl, hsame⟩; obtain rfl := hsame.symm; clear hsame
    go_wp2_with fail
    refine (specIn d.first 0 16777215 _).mono ?_; rw [k6]; rintro e v5 ⟨rfl, hsame⟩; obtain rfl := hsame.symm; clear hsame
    go_wp2_with fail
    go_ret
    exact ⟨by rw [okCn_no (fun h => HK7.out (okFls_len h.2.2.2.2.2.2))]; rfl, HB⟩
  have k7' : ((d.flows.length : Int) != d.reg.es.length) = false := by simpa using (show (d.flows.length : Int) = d.reg.es.length by omega)
  have HK7 := hide k7
  have hle1 : d.flows.length ≤ d.reg.es.length := by omega
  clear k7
  have HYES : Hid (okFls d.flows d.reg.es = true → okCn d = true) := fun h => okCn_yes k1 k2 k3 k4 k5 k6 h
  have HNO : Hid (okFls d.flows d.reg.es = false → okCn d = false) := fun h => okCn_no (fun c => by rw [h] at c; simp at c)
  go_enter Tryz.func26, Tryz.ntmps26
  go_wp2_with fail
  refine (specRegistryOk d.reg _ _ (HV.out.e.new HB)).mono ?_; rw [k1]; rintro x u0 ⟨rfl, hb⟩
  replace RX := RX.new hb
  replace HB := bchain HB hb
  clear hb
  have x0 := RowIs.cell (j := 0) RX rfl
  have x1 := RowIs.cell (j := 1) RX rfl
  have x2 := RowIs.cell (j := 2) RX rfl
  have x3 := RowIs.cell (j := 3) RX rfl
  have x4 := RowIs.cell (j := 4) RX rfl
  have x5 := RowIs.cell (j := 5) RX rfl
  have x6 := RowIs.cell (j := 6) RX rfl
  have x7 := RowIs.cell (j := 7) RX rfl
  have x8 := RowIs.cell (j := 8) RX rfl
  have x9 := RowIs.cell (j := 9) RX rfl
  have x10 := RowIs.cell (j := 10) RX rfl
  have x11 := RowIs.cell (j := 11) RX rfl
  have x12 := RowIs.cell (j := 12) RX rfl
  go_wp2_with fail
  refine (specTOk d.inT d.inr _ _ (rd_fv (HV.out.i.new HB)) (rd_fine (HV.out.i.new HB))).mono ?_; rw [k2]; rintro x u1 ⟨rfl, hb⟩
  replace RX := RX.new hb
  replace HB := bchain HB hb
  clear hb
  clear x0 x1 x2 x3 x4 x5 x6 x7 x8 x9 x10 x11 x12
  have x0 := RowIs.cell (j := 0) RX rfl
  have x1 := RowIs.cell (j := 1) RX rfl
  have x2 := RowIs.cell (j := 2) RX rfl
  have x3 := RowIs.cell (j := 3) RX rfl
  have x4 := RowIs.cell (j := 4) RX rfl
  have x5 := RowIs.cell (j := 5) RX rfl
  have x6 := RowIs.cell (j := 6) RX rfl
  have x7 := RowIs.cell (j := 7) RX rfl
  have x8 := RowIs.cell (j := 8) RX rfl
  have x9 := RowIs.cell (j := 9) RX rfl
  have x10 := RowIs.cell (j := 10) RX rfl
  have x11 := RowIs.cell (j := 11) RX rfl
  have x12 := RowIs.cell (j := 12) RX rfl
  go_wp2_with fail
  refine (specTOk d.outT d.outr _ _ (rd_fv (HV.out.o.new HB)) (rd_fine (HV.out.o.new HB))).mono ?_; rw [k3]; rintro x u2 ⟨rfl, hb⟩
  replace RX := RX.new hb
  replace HB := bchain HB hb
  clear hb
  clear x0 x1 x2 x3 x4 x5 x6 x7 x8 x9 x10 x11 x12
  have x0 := RowIs.cell (j := 0) RX rfl
  have x1 := RowIs.cell (j := 1) RX rfl
  have x2 := RowIs.cell (j := 2) RX rfl
  have x3 := RowIs.cell (j := 3) RX rfl
  have x4 := RowIs.cell (j := 4) RX rfl
  have x5 := RowIs.cell (j := 5) RX rfl
  have x6 := RowIs.cell (j := 6) RX rfl
  have x7 := RowIs.cell (j := 7) RX rfl
  have x8 := RowIs.cell (j := 8) RX rfl
  have x9 := RowIs.cell (j := 9) RX rfl
  have x10 := RowIs.cell (j := 10) RX rfl
  have x11 := RowIs.cell (j := 11) RX rfl
  have x12 := RowIs.cell (j := 12) RX rfl
  go_wp2_with fail
  refine (specWin d.get _).mono ?_; rw [k4]; rintro e v3 ⟨rfl, hsame⟩; obtain rfl := hsame.symm; clear hsame
  go_wp2_with fail
  refine (specWin d.give _).mono ?_; rw [k5]; rintro e v4 ⟨rfl, hsame⟩; obtain rfl := hsame.symm; clear hsame
  go_wp2_with fail
  refine (specIn d.first 0 16777215 _).mono ?_; rw [k6]; rintro e v5 ⟨rfl, hsame⟩; obtain rfl := hsame.symm; clear hsame
  go_wp2_with fail
  have HRX := hide RX; have HBW := hide HB
  clear x0 x1 x2 x3 x4 x5 x6 x7 x8 x9 x10 x11 x12 RX HB k1 k2 k3 k4 k5 k6
  go_loopw [3] (fun i wr => ∃ k : Nat, i = .int .i64 k ∧ k ≤ d.flows.length ∧ Hid (∀ j (h : j < d.flows.length) (h' : j < d.reg.es.length), j < k → okFl d.flows[j] d.reg.es[j] = true) ∧ Hid (RowIs wr w.heap.size 63 [.int .i64 d.reg.lim, .int .i64 d.reg.top, .slice ae d.reg.es.length pe, .int .i64 d.inr, .slice ai d.inT.length pi, .int .i64 d.outr, .slice ao d.outT.length po, .int .i64 d.get, .int .i64 d.give, .int .i64 d.first, .slice af d.flows.length pf, .bool d.away, .bool d.dead]) ∧ Hid (Below w.heap.size w wr)) (fun i _ => d.flows.length - (intOf i).toNat)
  case atStart => exact ⟨0, rfl, Nat.zero_le _, fun j _ _ h => absurd h (Nat.not_lt_zero _), HRX, HBW⟩
  case round =>
    clear HRX HBW
    obtain ⟨i, rfl, hi, HI, HRX, HBW⟩ := hrel
    have RX := HRX.out
    have x10 := RowIs.cell (j := 10) RX rfl
    by_cases hlt : i < d.flows.length
    rotate_left
    · have HT : Hid (okCn d = true) := HYES.out (okFls_of HK7.out (fun j h h' => HI.out j h h' (by omega)))
      clear RX
      go_wp2_with fail
      go_ret
      exact ⟨by rw [HT.out]; rfl, HBW.out⟩
    have hlte : i < d.reg.es.length := by omega
    obtain ⟨b, o, cs, rfl, hbw, hrd, hc⟩ := (HV.out.f.new HBW.out).at i hlt
    obtain ⟨be, oe, ce, rfl, hbe, hre, hce⟩ := (HV.out.e.new HBW.out).at i hlte
    have HF := hide (rfl : d.flows[i] = d.flows[i])
    obtain ⟨f, hf⟩ : ∃ f, d.flows[i] = f := ⟨_, rfl⟩
    obtain ⟨e, he⟩ : ∃ e, d.reg.es[i] = e := ⟨_, rfl⟩
    have HNOi : Hid (okFl f e = false → okCn d = false) := fun h => HNO.out (okFls_no hlt hlte (by rw [hf, he]; exact h))
    have HYi : Hid (okFl f e = true → ∀ j (h : j < d.flows.length) (h' : j < d.reg.es.length), j < i + 1 → okFl d.flows[j] d.reg.es[j] = true) := fun hq j h h' hj => by
      by_cases hji : j = i
      · subst hji; rw [hf, he]; exact hq
      · exact HI.out j h h' (by omega)
    rw [hf] at hrd
    rw [he] at hre
    clear hf he HF
    obtain ⟨vf, rfl, hf0, hf1, hfd⟩ := hrd
    obtain ⟨aff, pff, rfl, _⟩ := hfd.form
    have HFD := hide hfd
    clear hfd
    obtain rfl := hre
    have ce0 : wr.cell? ⟨be, oe + i * 2, none⟩ = some (.int .i64 e.id) := hce 0 _ rfl
    have c0 : wr.cell? ⟨b, o + i * 15, none⟩ = some (.int .i64 f.id) := hc 0 _ rfl
    have c1 : wr.cell? ⟨b, o + i * 15 + 1, none⟩ = some (.int .i64 f.get) := hc 1 _ rfl
    have c2 : wr.cell? ⟨b, o + i * 15 + 2, none⟩ = some (.int .i64 f.give) := hc 2 _ rfl
    have c3 : wr.cell? ⟨b, o + i * 15 + 3, none⟩ = some (.slice aff f.fds.length pff) := hc 3 _ rfl
    have c4 : wr.cell? ⟨b, o + i * 15 + 4, none⟩ = some (.int .i64 f.tun.up.r) := hc 4 _ rfl
    have c5 : wr.cell? ⟨b, o + i * 15 + 5, none⟩ = some (.string f.tun.up.b) := hc 5 _ rfl
    have c6 : wr.cell? ⟨b, o + i * 15 + 6, none⟩ = some (.bool f.tun.up.e) := hc 6 _ rfl
    have c7 : wr.cell? ⟨b, o + i * 15 + 7, none⟩ = some (.bool f.tun.up.k) := hc 7 _ rfl
    have c8 : wr.cell? ⟨b, o + i * 15 + 8, none⟩ = some (.int .i64 f.tun.dn.r) := hc 8 _ rfl
    have c9 : wr.cell? ⟨b, o + i * 15 + 9, none⟩ = some (.string f.tun.dn.b) := hc 9 _ rfl
    have c10 : wr.cell? ⟨b, o + i * 15 + 10, none⟩ = some (.bool f.tun.dn.e) := hc 10 _ rfl
    have c11 : wr.cell? ⟨b, o + i * 15 + 11, none⟩ = some (.bool f.tun.dn.k) := hc 11 _ rfl
    have c12 : wr.cell? ⟨b, o + i * 15 + 12, none⟩ = some (.int .i64 f.tun.went) := hc 12 _ rfl
    have c13 : wr.cell? ⟨b, o + i * 15 + 13, none⟩ = some (.int .i64 f.tun.came) := hc 13 _ rfl
    have c14 : wr.cell? ⟨b, o + i * 15 + 14, none⟩ = some (.bool f.ended) := hc 14 _ rfl
    clear hc hce
    go_upto_region 7 with (refine wpList_store_row (by rfl) 125 _ _ (by rfl) wr.heap.size [.int .i64 f.id, .int .i64 f.get, .int .i64 f.give, .slice aff f.fds.length pff, .int .i64 f.tun.up.r, .string f.tun.up.b, .bool f.tun.up.e, .bool f.tun.up.k, .int .i64 f.tun.dn.r, .string f.tun.dn.b, .bool f.tun.dn.e, .bool f.tun.dn.k, .int .i64 f.tun.went, .int .i64 f.tun.came, .bool f.ended] (by rfl) (by rfl) 125 [.int .i64 0, .int .i64 0, .int .i64 0, .slice none 0 0, .int .i64 0, .string ⟨#[]⟩, .bool false, .bool false, .int .i64 0, .string ⟨#[]⟩, .bool false, .bool false, .int .i64 0, .int .i64 0, .bool false] (rowIs_new wr 125 [.int .i64 0, .int .i64 0, .int .i64 0, .slice none 0 0, .int .i64 0, .string ⟨#[]⟩, .bool false, .bool false, .int .i64 0, .string ⟨#[]⟩, .bool false, .bool false, .int .i64 0, .int .i64 0, .bool false]) (by kernel_rfl) rfl (by intro u hu; simp at hu; rcases hu with rfl | rfl | rfl | rfl | rfl | rfl | rfl | rfl | rfl | rfl | rfl | rfl | rfl | rfl | rfl <;> rfl) ?_)
    have hbV : Below wr.heap.size wr ((wr.alloc (.cells #[.int .i64 0, .int .i64 0, .int .i64 0, .slice none 0 0, .int .i64 0, .string ⟨#[]⟩, .bool false, .bool false, .int .i64 0, .string ⟨#[]⟩, .bool false, .bool false, .int .i64 0, .int .i64 0, .bool false] 125)).setRow wr.heap.size #[.int .i64 f.id, .int .i64 f.get, .int .i64 f.give, .slice aff f.fds.length pff, .int .i64 f.tun.up.r, .string f.tun.up.b, .bool f.tun.up.e, .bool f.tun.up.k, .int .i64 f.tun.dn.r, .string f.tun.dn.b, .bool f.tun.dn.e, .bool f.tun.dn.k, .int .i64 f.tun.went, .int .i64 f.tun.came, .bool f.ended]) := below_setRow ((Below.refl _ _).alloc (Nat.le_refl _) _) (Nat.le_refl _) #[.int .i64 f.id, .int .i64 f.get, .int .i64 f.give, .slice aff f.fds.length pff, .int .i64 f.tun.up.r, .string f.tun.up.b, .bool f.tun.up.e, .bool f.tun.up.k, .int .i64 f.tun.dn.r, .string f.tun.dn.b, .bool f.tun.dn.e, .bool f.tun.dn.k, .int .i64 f.tun.went, .int .i64 f.tun.came, .bool f.ended]
    have RY : RowIs ((wr.alloc (.cells #[.int .i64 0, .int .i64 0, .int .i64 0, .slice none 0 0, .int .i64 0, .string ⟨#[]⟩, .bool false, .bool false, .int .i64 0, .string ⟨#[]⟩, .bool false, .bool false, .int .i64 0, .int .i64 0, .bool false] 125)).setRow wr.heap.size #[.int .i64 f.id, .int .i64 f.get, .int .i64 f.give, .slice aff f.fds.length pff, .int .i64 f.tun.up.r, .string f.tun.up.b, .bool f.tun.up.e, .bool f.tun.up.k, .int .i64 f.tun.dn.r, .string f.tun.dn.b, .bool f.tun.dn.e, .bool f.tun.dn.k, .int .i64 f.tun.went, .int .i64 f.tun.came, .bool f.ended]) wr.heap.size 125 [.int .i64 f.id, .int .i64 f.get, .int .i64 f.give, .slice aff f.fds.length pff, .int .i64 f.tun.up.r, .string f.tun.up.b, .bool f.tun.up.e, .bool f.tun.up.k, .int .i64 f.tun.dn.r, .string f.tun.dn.b, .bool f.tun.dn.e, .bool f.tun.dn.k, .int .i64 f.tun.went, .int .i64 f.tun.came, .bool f.ended] := rowIs_setRow (cs' := [.int .i64 f.id, .int .i64 f.get, .int .i64 f.give, .slice aff f.fds.length pff, .int .i64 f.tun.up.r, .string f.tun.up.b, .bool f.tun.up.e, .bool f.tun.up.k, .int .i64 f.tun.dn.r, .string f.tun.dn.b, .bool f.tun.dn.e, .bool f.tun.dn.k, .int .i64 f.tun.went, .int .i64 f.tun.came, .bool f.ended]) (rowIs_new wr 125 [.int .i64 0, .int .i64 0, .int .i64 0, .slice none 0 0, .int .i64 0, .string ⟨#[]⟩, .bool false, .bool false, .int .i64 0, .string ⟨#[]⟩, .bool false, .bool false, .int .i64 0, .int .i64 0, .bool false])
    have RXV := RX.new hbV
    have ceV := (hbV.cell (p := ⟨be, oe + i * 2, none⟩) hbe).trans ce0
    have hbeV : be < ((wr.alloc (.cells #[.int .i64 0, .int .i64 0, .int .i64 0, .slice none 0 0, .int .i64 0, .string ⟨#[]⟩, .bool false, .bool false, .int .i64 0, .string ⟨#[]⟩, .bool false, .bool false, .int .i64 0, .int .i64 0, .bool false] 125)).setRow wr.heap.size #[.int .i64 f.id, .int .i64 f.get, .int .i64 f.give, .slice aff f.fds.length pff, .int .i64 f.tun.up.r, .string f.tun.up.b, .bool f.tun.up.e, .bool f.tun.up.k, .int .i64 f.tun.dn.r, .string f.tun.dn.b, .bool f.tun.dn.e, .bool f.tun.dn.k, .int .i64 f.tun.went, .int .i64 f.tun.came, .bool f.ended]).heap.size := Nat.lt_of_lt_of_le hbe hbV.size
    replace HFD := hide (HFD.out.new hbV)
    replace HBW := hide (bchain HBW.out hbV)
    generalize (wr.alloc (.cells #[.int .i64 0, .int .i64 0, .int .i64 0, .slice none 0 0, .int .i64 0, .string ⟨#[]⟩, .bool false, .bool false, .int .i64 0, .string ⟨#[]⟩, .bool false, .bool false, .int .i64 0, .int .i64 0, .bool false] 125)).setRow wr.heap.size #[.int .i64 f.id, .int .i64 f.get, .int .i64 f.give, .slice aff f.fds.length pff, .int .i64 f.tun.up.r, .string f.tun.up.b, .bool f.tun.up.e, .bool f.tun.up.k, .int .i64 f.tun.dn.r, .string f.tun.dn.b, .bool f.tun.dn.e, .bool f.tun.dn.k, .int .i64 f.tun.went, .int .i64 f.tun.came, .bool f.ended] = V at *
    generalize wr.heap.size = gy at *
    clear hbV RX ce0 x10 c0 c1 c2 c3 c4 c5 c6 c7 c8 c9 c10 c11 c12 c13 c14 HRX
    have x2 := RowIs.cell (j := 2) RXV rfl
    have hlx := RXV.lt
    have hly := RY.lt
    have q2 : ∀ y : Later V, y.w.cell? ⟨w.heap.size, 2, none⟩ = some (.slice (some ⟨be, oe, none⟩) d.reg.es.length pe) := fun y => (y.b.cell (p := ⟨w.heap.size, 2, none⟩) hlx).trans x2
    have qe : ∀ y : Later V, y.w.cell? ⟨be, oe + i * 2, none⟩ = some (.int .i64 e.id) := fun y => (y.b.cell (p := ⟨be, oe + i * 2, none⟩) hbeV).trans ceV
    have y0 := RowIs.cell (j := 0) RY rfl
    have r0 : ∀ y : Later V, y.w.cell? ⟨gy, 0, none⟩ = some (.int .i64 f.id) := fun y => (y.b.cell (p := ⟨gy, 0, none⟩) hly).trans y0
    have y1 := RowIs.cell (j := 1) RY rfl
    have r1 : ∀ y : Later V, y.w.cell? ⟨gy, 1, none⟩ = some (.int .i64 f.get) := fun y => (y.b.cell (p := ⟨gy, 1, none⟩) hly).trans y1
    have y2 := RowIs.cell (j := 2) RY rfl
    have r2 : ∀ y : Later V, y.w.cell? ⟨gy, 2, none⟩ = some (.int .i64 f.give) := fun y => (y.b.cell (p := ⟨gy, 2, none⟩) hly).trans y2
    have y3 := RowIs.cell (j := 3) RY rfl
    have r3 : ∀ y : Later V, y.w.cell? ⟨gy, 3, none⟩ = some (.slice aff f.fds.length pff) := fun y => (y.b.cell (p := ⟨gy, 3, none⟩) hly).trans y3
    have y4 := RowIs.cell (j := 4) RY rfl
    have r4 : ∀ y : Later V, y.w.cell? ⟨gy, 4, none⟩ = some (.int .i64 f.tun.up.r) := fun y => (y.b.cell (p := ⟨gy, 4, none⟩) hly).trans y4
    have y5 := RowIs.cell (j := 5) RY rfl
    have r5 : ∀ y : Later V, y.w.cell? ⟨gy, 5, none⟩ = some (.string f.tun.up.b) := fun y => (y.b.cell (p := ⟨gy, 5, none⟩) hly).trans y5
    have y6 := RowIs.cell (j := 6) RY rfl
    have r6 : ∀ y : Later V, y.w.cell? ⟨gy, 6, none⟩ = some (.bool f.tun.up.e) := fun y => (y.b.cell (p := ⟨gy, 6, none⟩) hly).trans y6
    have y7 := RowIs.cell (j := 7) RY rfl
    have r7 : ∀ y : Later V, y.w.cell? ⟨gy, 7, none⟩ = some (.bool f.tun.up.k) := fun y => (y.b.cell (p := ⟨gy, 7, none⟩) hly).trans y7
    have y8 := RowIs.cell (j := 8) RY rfl
    have r8 : ∀ y : Later V, y.w.cell? ⟨gy, 8, none⟩ = some (.int .i64 f.tun.dn.r) := fun y => (y.b.cell (p := ⟨gy, 8, none⟩) hly).trans y8
    have y9 := RowIs.cell (j := 9) RY rfl
    have r9 : ∀ y : Later V, y.w.cell? ⟨gy, 9, none⟩ = some (.string f.tun.dn.b) := fun y => (y.b.cell (p := ⟨gy, 9, none⟩) hly).trans y9
    have y10 := RowIs.cell (j := 10) RY rfl
    have r10 : ∀ y : Later V, y.w.cell? ⟨gy, 10, none⟩ = some (.bool f.tun.dn.e) := fun y => (y.b.cell (p := ⟨gy, 10, none⟩) hly).trans y10
    have y11 := RowIs.cell (j := 11) RY rfl
    have r11 : ∀ y : Later V, y.w.cell? ⟨gy, 11, none⟩ = some (.bool f.tun.dn.k) := fun y => (y.b.cell (p := ⟨gy, 11, none⟩) hly).trans y11
    have y12 := RowIs.cell (j := 12) RY rfl
    have r12 : ∀ y : Later V, y.w.cell? ⟨gy, 12, none⟩ = some (.int .i64 f.tun.went) := fun y => (y.b.cell (p := ⟨gy, 12, none⟩) hly).trans y12
    have y13 := RowIs.cell (j := 13) RY rfl
    have r13 : ∀ y : Later V, y.w.cell? ⟨gy, 13, none⟩ = some (.int .i64 f.tun.came) := fun y => (y.b.cell (p := ⟨gy, 13, none⟩) hly).trans y13
    have y14 := RowIs.cell (j := 14) RY rfl
    have r14 : ∀ y : Later V, y.w.cell? ⟨gy, 14, none⟩ = some (.bool f.ended) := fun y => (y.b.cell (p := ⟨gy, 14, none⟩) hly).trans y14
    clear x2 ceV y0 y1 y2 y3 y4 y5 y6 y7 y8 y9 y10 y11 y12 y13 y14 RY
    have HRX := hide RXV
    clear RXV
    have hlteI : (i : Int) < d.reg.es.length := by omega
    try simp only [Act.put, List.getElem_toArray, List.getElem_cons_succ, List.getElem_cons_zero, List.setIfInBounds_toArray, List.set_cons_zero, List.set_cons_succ]
    by_cases c0 : f.id = e.id
    rotate_left
    · have c0' : (f.id != e.id) = true := by simpa using c0
      have HN := hide (HNOi.out (okFl_no (fun h => c0 h.1)))
      clear c0
      have hne : Nonempty (Later V) := ⟨⟨V, Below.refl _ _⟩⟩; refine region_later (by kernel_rfl) (by kernel_rfl) ?_
      repeat (go_big_quiet_step (fail))
      refine wpQuiet_nil ?_; intro _ hw'; obtain ⟨y, hw''⟩ := hw'; subst hw''; have hby := y.b
      go_wp2_with fail
      go_ret
      exact ⟨by rw [HN.out]; rfl, bchain HBW.out hby⟩
    have c0' : (f.id != e.id) = false := by simpa using c0
    have HC0 := hide c0
    clear c0
    cases m0 : winB f.get
    · have HN := hide (HNOi.out (okFl_no (fun h => by rw [m0] at h; simp at h)))
      have hne : Nonempty (Later V) := ⟨⟨V, Below.refl _ _⟩⟩; refine region_later (by kernel_rfl) (by kernel_rfl) ?_
      repeat (go_big_quiet_step (fail))
      go_big_quiet_want; go_big_quiet_op
      refine ⟨.bool false, fun y => later_same (x := y) (by have := specWin f.get y.w; rw [m0] at this; exact this), ?_⟩
      go_big_quiet_on
      repeat (go_big_quiet_step (fail))
      refine wpQuiet_nil ?_; intro _ hw'; obtain ⟨y, hw''⟩ := hw'; subst hw''; have hby := y.b
      go_wp2_with fail
      go_ret
      exact ⟨by rw [HN.out]; rfl, bchain HBW.out hby⟩
    cases m1 : winB f.give
    · have HN := hide (HNOi.out (okFl_no (fun h => by rw [m1] at h; simp at h)))
      have hne : Nonempty (Later V) := ⟨⟨V, Below.refl _ _⟩⟩; refine region_later (by kernel_rfl) (by kernel_rfl) ?_
      repeat (go_big_quiet_step (fail))
      go_big_quiet_want; go_big_quiet_op
      refine ⟨.bool true, fun y => later_same (x := y) (by have := specWin f.get y.w; rw [m0] at this; exact this), ?_⟩
      go_big_quiet_on
      repeat (go_big_quiet_step (fail))
      go_big_quiet_want; go_big_quiet_op
      refine ⟨.bool false, fun y => later_same (x := y) (by have := specWin f.give y.w; rw [m1] at this; exact this), ?_⟩
      go_big_quiet_on
      repeat (go_big_quiet_step (fail))
      refine wpQuiet_nil ?_; intro _ hw'; obtain ⟨y, hw''⟩ := hw'; subst hw''; have hby := y.b
      go_wp2_with fail
      go_ret
      exact ⟨by rw [HN.out]; rfl, bchain HBW.out hby⟩
    cases m2 : okFs f.fds
    · have HN := hide (HNOi.out (okFl_no (fun h => by rw [m2] at h; simp at h)))
      have hne : Nonempty (Later V) := ⟨⟨V, Below.refl _ _⟩⟩; refine region_later (by kernel_rfl) (by kernel_rfl) ?_
      repeat (go_big_quiet_step (fail))
      go_big_quiet_want; go_big_quiet_op
      refine ⟨.bool true, fun y => later_same (x := y) (by have := specWin f.get y.w; rw [m0] at this; exact this), ?_⟩
      go_big_quiet_on
      repeat (go_big_quiet_step (fail))
      go_big_quiet_want; go_big_quiet_op
      refine ⟨.bool true, fun y => later_same (x := y) (by have := specWin f.give y.w; rw [m1] at this; exact this), ?_⟩
      go_big_quiet_on
      repeat (go_big_quiet_step (fail))
      go_big_quiet_want; go_big_quiet_op
      refine ⟨.bool false, fun y => later_calls (x := y) (by have := specFields f.fds _ y.w (rd_fv (HFD.out.new y.b)) (rd_fine (HFD.out.new y.b)); rw [m2] at this; exact this), ?_⟩
      go_big_quiet_on
      repeat (go_big_quiet_step (fail))
      refine wpQuiet_nil ?_; intro _ hw'; obtain ⟨y, hw''⟩ := hw'; subst hw''; have hby := y.b
      go_wp2_with fail
      go_ret
      exact ⟨by rw [HN.out]; rfl, bchain HBW.out hby⟩
    cases m3 : okTu f.tun
    · have HN := hide (HNOi.out (okFl_no (fun h => by rw [m3] at h; simp at h)))
      have hne : Nonempty (Later V) := ⟨⟨V, Below.refl _ _⟩⟩; refine region_later (by kernel_rfl) (by kernel_rfl) ?_
      repeat (go_big_quiet_step (fail))
      go_big_quiet_want; go_big_quiet_op
      refine ⟨.bool true, fun y => later_same (x := y) (by have := specWin f.get y.w; rw [m0] at this; exact this), ?_⟩
      go_big_quiet_on
      repeat (go_big_quiet_step (fail))
      go_big_quiet_want; go_big_quiet_op
      refine ⟨.bool true, fun y => later_same (x := y) (by have := specWin f.give y.w; rw [m1] at this; exact this), ?_⟩
      go_big_quiet_on
      repeat (go_big_quiet_step (fail))
      go_big_quiet_want; go_big_quiet_op
      refine ⟨.bool true, fun y => later_calls (x := y) (by have := specFields f.fds _ y.w (rd_fv (HFD.out.new y.b)) (rd_fine (HFD.out.new y.b)); rw [m2] at this; exact this), ?_⟩
      go_big_quiet_on
      repeat (go_big_quiet_step (fail))
      go_big_quiet_want; go_big_quiet_op
      refine ⟨.bool false, fun y => later_calls (x := y) (by have := specTunnelOk f.tun y.w (by unfold maxLen; omega) (by unfold maxLen; omega); rw [m3] at this; exact this), ?_⟩
      go_big_quiet_on
      repeat (go_big_quiet_step (fail))
      refine wpQuiet_nil ?_; intro _ hw'; obtain ⟨y, hw''⟩ := hw'; subst hw''; have hby := y.b
      go_wp2_with fail
      go_ret
      exact ⟨by rw [HN.out]; rfl, bchain HBW.out hby⟩
    have HY := hide (HYi.out (okFl_yes HC0.out m0 m1 m2 m3))
    have hne : Nonempty (Later V) := ⟨⟨V, Below.refl _ _⟩⟩; refine region_later (by kernel_rfl) (by kernel_rfl) ?_
    repeat (go_big_quiet_step (fail))
    go_big_quiet_want; go_big_quiet_op
    refine ⟨.bool true, fun y => later_same (x := y) (by have := specWin f.get y.w; rw [m0] at this; exact this), ?_⟩
    go_big_quiet_on
    repeat (go_big_quiet_step (fail))
    go_big_quiet_want; go_big_quiet_op
    refine ⟨.bool true, fun y => later_same (x := y) (by have := specWin f.give y.w; rw [m1] at this; exact this), ?_⟩
    go_big_quiet_on
    repeat (go_big_quiet_step (fail))
    go_big_quiet_want; go_big_quiet_op
    refine ⟨.bool true, fun y => later_calls (x := y) (by have := specFields f.fds _ y.w (rd_fv (HFD.out.new y.b)) (rd_fine (HFD.out.new y.b)); rw [m2] at this; exact this), ?_⟩
    go_big_quiet_on
    repeat (go_big_quiet_step (fail))
    go_big_quiet_want; go_big_quiet_op
    refine ⟨.bool true, fun y => later_calls (x := y) (by have := specTunnelOk f.tun y.w (by unfold maxLen; omega) (by unfold maxLen; omega); rw [m3] at this; exact this), ?_⟩
    go_big_quiet_on
    repeat (go_big_quiet_step (fail))
    refine wpQuiet_nil ?_; intro _ hw'; obtain ⟨y, hw''⟩ := hw'; subst hw''; have hby := y.b
    replace HRX := hide (HRX.out.new hby)
    replace HBW := hide (bchain HBW.out hby)
    generalize y.w = V2 at *
    clear hby hne q2 qe r0 r1 r2 r3 r4 r5 r6 r7 r8 r9 r10 r11 r12 r13 r14
    have x10 := RowIs.cell (j := 10) HRX.out rfl
    go_wp2_with fail
    go_roundw
    case rel => exact ⟨i + 1, by go_num, by omega, HY, HRX, HBW⟩
    case measure => simp [intOf]; omega
end Go.Proofs.YtkhclhnejnpkeaaGreat
