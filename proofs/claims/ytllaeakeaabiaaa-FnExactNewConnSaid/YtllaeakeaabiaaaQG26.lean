/- Several small texts of one level, one behind the other. -/
import Derived.Test.YtllaeakeaabiaaaQG25
import Derived.Lib.SmallJoins
import Derived.OpenShut
import Derived.ChangeOld
/- A Conn of the laws that came in: what its lists read as. -/
namespace Go.Proofs.Ytllaeakeaabiaaa
open Go.RowKit
set_option maxRecDepth 100000
set_option linter.unusedSimpArgs false
set_option linter.unusedVariables false
section
open Go.ChangeShapes Go.WideShapes Go.ChangeAt Go.Joins
variable {H : Type} {enc : TypeId × Value → H} {W : World} {base : Nat} {spare : Nat → Bool} {held : Bool}
theorem trod_part {t : TypeId} {fs : Array Field} {fuel : Nat} {cs : List Value} {x : DataW H × List MemPlace} (ht : Try.prog.underlying t = some (.struct fs)) (h : DataW.trod enc Try.prog W base spare held fuel t cs = some x) :
    ∃ n, cs.length = Try.prog.cellsOf t ∧ ∀ f ∈ fs.toList, ∃ y, DataW.trod enc Try.prog W base spare held n f.type ((cs.drop f.offset).take (Try.prog.cellsOf f.type)) = some y := by
  obtain ⟨xs, n, _, _, hl, hlen, hf⟩ := DataW.trod_struct ht h
  refine ⟨n, hl, fun f hm => ?_⟩
  obtain ⟨i, hi'⟩ := List.getElem?_of_mem hm
  have hi : fs[i]? = some f := by rw [← Array.getElem?_toList]; exact hi'
  have hi2 : i < xs.length := by rw [hlen]; exact (Array.getElem?_eq_some_iff.1 hi).1
  exact ⟨xs[i], by rw [hf i f hi]; simp [hi2]⟩
theorem list3 {α : Type} {cs : List α} (h : cs.length = 3) : ∃ c0 c1 c2, cs = [c0, c1, c2] := by
  match cs, h with
  | [c0, c1, c2], _ => exact ⟨c0, c1, c2, rfl⟩
theorem list2 {α : Type} {cs : List α} (h : cs.length = 2) : ∃ c0 c1, cs = [c0, c1] := by
  match cs, h with
  | [c0, c1], _ => exact ⟨c0, c1, rfl⟩
theorem list13 {α : Type} {cs : List α} (h : cs.length = 13) : ∃ c0 c1 c2 c3 c4 c5 c6 c7 c8 c9 c10 c11 c12, cs = [c0, c1, c2, c3, c4, c5, c6, c7, c8, c9, c10, c11, c12] := by
  match cs, h with
  | [c0, c1, c2, c3, c4, c5, c6, c7, c8, c9, c10, c11, c12], _ => exact ⟨c0, c1, c2, c3, c4, c5, c6, c7, c8, c9, c10, c11, c12, rfl⟩
theorem list15 {α : Type} {cs : List α} (h : cs.length = 15) : ∃ c0 c1 c2 c3 c4 c5 c6 c7 c8 c9 c10 c11 c12 c13 c14, cs = [c0, c1, c2, c3, c4, c5, c6, c7, c8, c9, c10, c11, c12, c13, c14] := by
  match cs, h with
  | [c0, c1, c2, c3, c4, c5, c6, c7, c8, c9, c10, c11, c12, c13, c14], _ => exact ⟨c0, c1, c2, c3, c4, c5, c6, c7, c8, c9, c10, c11, c12, c13, c14, rfl⟩
theorem trod_pipeG {n : Nat} {c0 c1 c2 c3 : Value} {y : DataW H × List MemPlace} (h : DataW.trod enc Try.prog W base spare held n 78 [c0, c1, c2, c3] = some y) :
    ∃ p : PpD, p.b.size ≤ 9223372036854775807 ∧ c0 = .int .i64 p.r ∧ c1 = .string p.b ∧ c2 = .bool p.e ∧ c3 = .bool p.k := by
  obtain ⟨m, _, hf⟩ := trod_part Try.underlying78 h
  simp only [List.forall_mem_cons, List.not_mem_nil, false_imp_iff, implies_true, and_true] at hf
  obtain ⟨⟨y0, h0⟩, ⟨y1, h1⟩, ⟨y2, h2⟩, ⟨y3, h3⟩⟩ := hf
  have k0 : Try.prog.cellsOf 2 = 1 := by kernel_rfl
  have k1 : Try.prog.cellsOf 9 = 1 := by kernel_rfl
  have k2 : Try.prog.cellsOf 4 = 1 := by kernel_rfl
  simp only [k0, k1, k2, List.drop_zero, List.drop_succ_cons, List.take_succ_cons, List.take_zero] at h0 h1 h2 h3
  obtain ⟨a, e0, _, wa⟩ := DataW.trod_int Try.underlying2 h0
  obtain ⟨s, e1, _, ws⟩ := DataW.trod_string Try.underlying9 h1
  obtain ⟨x, e2, _⟩ := DataW.trod_bool Try.underlying4 h2
  obtain ⟨z, e3, _⟩ := DataW.trod_bool Try.underlying4 h3
  simp at e0 e1 e2 e3
  exact ⟨⟨a, s, x, z⟩, by unfold maxLen at ws; simp only; omega, e0, e1, e2, e3⟩
theorem trod_tunG {n : Nat} {c0 c1 c2 c3 c4 c5 c6 c7 c8 c9 : Value} {y : DataW H × List MemPlace} (h : DataW.trod enc Try.prog W base spare held n 80 [c0, c1, c2, c3, c4, c5, c6, c7, c8, c9] = some y) :
    ∃ t : TuD, t.up.b.size ≤ 9223372036854775807 ∧ t.dn.b.size ≤ 9223372036854775807 ∧ [c0, c1, c2, c3, c4, c5, c6, c7, c8, c9] = tucs t := by
  obtain ⟨m, _, hf⟩ := trod_part Try.underlying80 h
  simp only [List.forall_mem_cons, List.not_mem_nil, false_imp_iff, implies_true, and_true] at hf
  obtain ⟨⟨y0, h0⟩, ⟨y1, h1⟩, ⟨y2, h2⟩, ⟨y3, h3⟩⟩ := hf
  have k0 : Try.prog.cellsOf 2 = 1 := by kernel_rfl
  have k1 : Try.prog.cellsOf 78 = 4 := by kernel_rfl
  simp only [k0, k1, List.drop_zero, List.drop_succ_cons, List.take_succ_cons, List.take_zero] at h0 h1 h2 h3
  obtain ⟨p1, q1, rfl, rfl, rfl, rfl⟩ := trod_pipeG h0
  obtain ⟨p2, q2, rfl, rfl, rfl, rfl⟩ := trod_pipeG h1
  obtain ⟨a, e0, _, wa⟩ := DataW.trod_int Try.underlying2 h2
  obtain ⟨a', e1, _, wa'⟩ := DataW.trod_int Try.underlying2 h3
  simp at e0 e1
  subst e0 e1
  exact ⟨⟨p1, p2, a, a'⟩, q1, q2, rfl⟩
theorem open_cellsFlow {fuel : Nat} {cs : List Value} {x : DataW H × List MemPlace} (h : DataW.trod enc Try.prog W base spare held fuel 82 cs = some x) : ∃ d : FlD, flowS.rd W cs d := by
  obtain ⟨m, hl, hf⟩ := trod_part Try.underlying82 h
  have hc : Try.prog.cellsOf 82 = 15 := by kernel_rfl
  obtain ⟨c0, c1, c2, c3, c4, c5, c6, c7, c8, c9, c10, c11, c12, c13, c14, rfl⟩ := list15 (hl.trans hc)
  simp only [List.forall_mem_cons, List.not_mem_nil, false_imp_iff, implies_true, and_true] at hf
  obtain ⟨⟨y0, h0⟩, ⟨y1, h1⟩, ⟨y2, h2⟩, ⟨y3, h3⟩, ⟨y4, h4⟩, ⟨y5, h5⟩⟩ := hf
  have k0 : Try.prog.cellsOf 2 = 1 := by kernel_rfl
  have k1 : Try.prog.cellsOf 25 = 1 := by kernel_rfl
  have k2 : Try.prog.cellsOf 80 = 10 := by kernel_rfl
  have k3 : Try.prog.cellsOf 4 = 1 := by kernel_rfl
  simp only [k0, k1, k2, k3, List.drop_zero, List.drop_succ_cons, List.take_succ_cons, List.take_zero] at h0 h1 h2 h3 h4 h5
  obtain ⟨i0, e0, _⟩ := DataW.trod_int Try.underlying2 h0
  obtain ⟨i1, e1, _⟩ := DataW.trod_int Try.underlying2 h1
  obtain ⟨i2, e2, _⟩ := DataW.trod_int Try.underlying2 h2
  obtain ⟨L3, hL3⟩ := open_shape (E := fieldS) ⟨⟨#[]⟩, ⟨#[]⟩⟩ Try.underlying25 (by kernel_rfl) (fun cs n y hy => open_cellsField hy) h3
  obtain ⟨t, t1, t2, et⟩ := trod_tunG h4
  obtain ⟨i5, e5, _⟩ := DataW.trod_bool Try.underlying4 h5
  simp only [List.cons.injEq, and_true] at e0 e1 e2 e5 et
  obtain ⟨rfl, rfl, rfl, rfl, rfl, rfl, rfl, rfl, rfl, rfl⟩ := et
  subst e0 e1 e2 e5
  exact ⟨⟨i0, i1, i2, L3, t, i5⟩, c3, rfl, t1, t2, hL3⟩
theorem open_Conn {v : Value} {d : DataW H} {p : List MemPlace} (hv : Value.okWide Try.prog W .any base 30 v)
    (h : DataW.Trod enc Try.prog W 0 (fun _ => true) true 30 v d p) : ∃ (d : CnD) (ve vi vo vf : Value), v = cnv d ve vi vo vf ∧ CnRd W d ve vi vo vf := by
  obtain ⟨cs, rfl, hsz⟩ := okWide_struct Try.underlying30 hv
  have hc : Try.prog.cellsOf 30 = 13 := by kernel_rfl
  obtain ⟨fuel, hfu⟩ := h
  obtain ⟨l⟩ := cs
  obtain ⟨c0, c1, c2, c3, c4, c5, c6, c7, c8, c9, c10, c11, c12, rfl⟩ := list13 (show l.length = 13 from hsz.trans hc)
  obtain ⟨m, hl, hf⟩ := trod_part Try.underlying30 hfu
  simp only [List.forall_mem_cons, List.not_mem_nil, false_imp_iff, implies_true, and_true] at hf
  obtain ⟨⟨y0, h0⟩, ⟨y1, h1⟩, ⟨y2, h2⟩, ⟨y3, h3⟩, ⟨y4, h4⟩, ⟨y5, h5⟩, ⟨y6, h6⟩, ⟨y7, h7⟩, ⟨y8, h8⟩⟩ := hf
  have k0 : Try.prog.cellsOf 2 = 1 := by kernel_rfl
  have k1 : Try.prog.cellsOf 24 = 3 := by kernel_rfl
  have k2 : Try.prog.cellsOf 27 = 2 := by kernel_rfl
  have k3 : Try.prog.cellsOf 4 = 1 := by kernel_rfl
  have k4 : Try.prog.cellsOf 28 = 1 := by kernel_rfl
  have k5 : Try.prog.cellsOf 22 = 1 := by kernel_rfl
  have k6 : Try.prog.cellsOf 25 = 1 := by kernel_rfl
  simp only [Value.cells, k0, k1, k2, k3, k4, List.drop_zero, List.drop_succ_cons, List.take_succ_cons, List.take_zero] at h0 h1 h2 h3 h4 h5 h6 h7 h8
  obtain ⟨m0, _, g0⟩ := trod_part Try.underlying24 h0
  simp only [List.forall_mem_cons, List.not_mem_nil, false_imp_iff, implies_true, and_true] at g0
  obtain ⟨⟨z0, j0⟩, ⟨z1, j1⟩, ⟨z2, j2⟩⟩ := g0
  simp only [k0, k5, List.drop_zero, List.drop_succ_cons, List.take_succ_cons, List.take_zero] at j0 j1 j2
  obtain ⟨a0, e0, _⟩ := DataW.trod_int Try.underlying2 j0
  obtain ⟨a1, e1, _⟩ := DataW.trod_int Try.underlying2 j1
  obtain ⟨Le, hLe⟩ := open_shape (E := entryS) ⟨0, 0⟩ Try.underlying22 (by kernel_rfl) (fun cs n y hy => open_cellsEntry hy) j2
  obtain ⟨m1, _, g1⟩ := trod_part Try.underlying27 h1
  simp only [List.forall_mem_cons, List.not_mem_nil, false_imp_iff, implies_true, and_true] at g1
  obtain ⟨⟨z3, j3⟩, ⟨z4, j4⟩⟩ := g1
  simp only [k0, k6, List.drop_zero, List.drop_succ_cons, List.take_succ_cons, List.take_zero] at j3 j4
  obtain ⟨a3, e3, _⟩ := DataW.trod_int Try.underlying2 j3
  obtain ⟨Li, hLi⟩ := open_shape (E := fieldS) ⟨⟨#[]⟩, ⟨#[]⟩⟩ Try.underlying25 (by kernel_rfl) (fun cs n y hy => open_cellsField hy) j4
  obtain ⟨m2, _, g2⟩ := trod_part Try.underlying27 h2
  simp only [List.forall_mem_cons, List.not_mem_nil, false_imp_iff, implies_true, and_true] at g2
  obtain ⟨⟨z5, j5⟩, ⟨z6, j6⟩⟩ := g2
  simp only [k0, k6, List.drop_zero, List.drop_succ_cons, List.take_succ_cons, List.take_zero] at j5 j6
  obtain ⟨a5, e5, _⟩ := DataW.trod_int Try.underlying2 j5
  obtain ⟨Lo, hLo⟩ := open_shape (E := fieldS) ⟨⟨#[]⟩, ⟨#[]⟩⟩ Try.underlying25 (by kernel_rfl) (fun cs n y hy => open_cellsField hy) j6
  obtain ⟨a7, e7, _⟩ := DataW.trod_int Try.underlying2 h3
  obtain ⟨a8, e8, _⟩ := DataW.trod_int Try.underlying2 h4
  obtain ⟨a9, e9, _⟩ := DataW.trod_int Try.underlying2 h5
  obtain ⟨Lf, hLf⟩ := open_shape (E := flowS) ⟨0, 0, 0, [], zTu, false⟩ Try.underlying28 (by kernel_rfl) (fun cs n y hy => open_cellsFlow hy) h6
  obtain ⟨b11, e11, _⟩ := DataW.trod_bool Try.underlying4 h7
  obtain ⟨b12, e12, _⟩ := DataW.trod_bool Try.underlying4 h8
  simp only [List.cons.injEq, and_true] at e0 e1 e3 e5 e7 e8 e9 e11 e12
  subst e0 e1 e3 e5 e7 e8 e9 e11 e12
  exact ⟨⟨⟨a0, a1, Le⟩, a3, Li, a5, Lo, a7, a8, a9, Lf, b11, b12⟩, c2, c4, c6, c10, rfl, hLe, hLi, hLo, hLf⟩
end
end Go.Proofs.Ytllaeakeaabiaaa
/- A Conn in memory: marked, read again (by gen_shconn.py). -/
namespace Go.Proofs.Ytllaeakeaabiaaa
open Go.RowKit
set_option maxRecDepth 100000
set_option linter.unusedSimpArgs false
set_option linter.unusedVariables false
theorem OwR.apart {D : Type} {E : Shp D} {w w' : World} {v : Value} {L : List D} {bs bs' : List Nat} (h : OwR E w v L bs) (ht : TurnB bs' w w') (ha : ∀ x ∈ bs, x ∉ bs') : OwR E w' v L bs := h.keep ht.size (fun b hb => ht.block b (h.lt b hb) (ha b hb))
set_option maxHeartbeats 4000000 in
theorem markConn1 (d : CnD) (ve vi vo vf : Value) (k : Nat) (bs : List Nat) (w : World) (ho : CnOw w bs d ve vi vo vf) (hk1 : k + cntConn d ≤ 1000000000) :
    Calls Try.prog 12 #[cnv d ve vi vo vf, .int .i64 k] w fun x w' => x = .returned (.int .i64 ((k + cntConn d : Nat) : Int)) ∧ CnOw w' bs (mkConn d k) ve vi vo vf ∧ TurnB bs w w' := by
  dsimp only [cnv] at *
  obtain ⟨⟨be, bi, bo, bf, h1, h2, h3, h4, rfl⟩, hn⟩ := ho
  obtain ⟨ae, pe, rfl, _⟩ := h1.rd.form
  obtain ⟨ai, pi, rfl, _⟩ := h2.rd.form
  obtain ⟨ao, po, rfl, _⟩ := h3.rd.form
  obtain ⟨af, pf, rfl, _⟩ := h4.rd.form
  have hd : (∀ x ∈ be, x ∉ bi ∧ x ∉ bo ∧ x ∉ bf) ∧ (∀ x ∈ bi, x ∉ be ∧ x ∉ bo ∧ x ∉ bf) ∧ (∀ x ∈ bo, x ∉ be ∧ x ∉ bi ∧ x ∉ bf) ∧ (∀ x ∈ bf, x ∉ be ∧ x ∉ bi ∧ x ∉ bo) := by
    simp only [List.nodup_append, List.mem_append] at hn
    obtain ⟨⟨⟨n1, n2, n3⟩, n4, n5⟩, n6, n7⟩ := hn
    exact ⟨fun x hx => ⟨fun h => n3 x hx x h rfl, fun h => n5 x (.inl hx) x h rfl, fun h => n7 x (.inl (.inl hx)) x h rfl⟩, fun x hx => ⟨fun h => n3 x h x hx rfl, fun h => n5 x (.inr hx) x h rfl, fun h => n7 x (.inl (.inr hx)) x h rfl⟩,
      fun x hx => ⟨fun h => n5 x (.inl h) x hx rfl, fun h => n5 x (.inr h) x hx rfl, fun h => n7 x (.inr hx) x h rfl⟩, fun x hx => ⟨fun h => n7 x (.inl (.inl h)) x hx rfl, fun h => n7 x (.inl (.inr h)) x hx rfl, fun h => n7 x (.inr h) x hx rfl⟩⟩
  have hnn : be.Nodup ∧ bi.Nodup ∧ bo.Nodup ∧ bf.Nodup := by
    simp only [List.nodup_append] at hn
    obtain ⟨⟨⟨n1, n2, n3⟩, n4, n5⟩, n6, n7⟩ := hn
    exact ⟨n1, n2, n4, n6⟩
  obtain ⟨d1, d2, d3, d4⟩ := hd
  have HD1 := hide d1; have HD2 := hide d2; have HD3 := hide d3; have HD4 := hide d4; have HN := hide hn
  obtain ⟨m1, m2, m3, m4⟩ := hnn
  have HM1 := hide m1; have HM4 := hide m4
  clear d1 d2 d3 d4 hn m1 m2 m3 m4
  have hlt : ∀ b, b = w.heap.size → b ∉ be ∧ b ∉ bi ∧ b ∉ bo ∧ b ∉ bf := fun b e => ⟨fun h => by have := h1.lt b h; omega, fun h => by have := h2.lt b h; omega, fun h => by have := h3.lt b h; omega, fun h => by have := h4.lt b h; omega⟩
  obtain ⟨l1, l2, l3, l4⟩ := hlt _ rfl
  have HL := hide (And.intro l1 (And.intro l2 (And.intro l3 l4)))
  clear l1 l2 l3 l4 hlt
  have RX := rowIs_new w 41 [.int .i64 d.reg.lim, .int .i64 d.reg.top, .slice ae d.reg.es.length pe, .int .i64 d.inr, .slice ai d.inT.length pi, .int .i64 d.outr, .slice ao d.outT.length po, .int .i64 d.get, .int .i64 d.give, .int .i64 d.first, .slice af d.flows.length pf, .bool d.away, .bool d.dead]
  have hbx : Below w.heap.size w (w.alloc (.cells #[.int .i64 d.reg.lim, .int .i64 d.reg.top, .slice ae d.reg.es.length pe, .int .i64 d.inr, .slice ai d.inT.length pi, .int .i64 d.outr, .slice ao d.outT.length po, .int .i64 d.get, .int .i64 d.give, .int .i64 d.first, .slice af d.flows.length pf, .bool d.away, .bool d.dead] 41)) := (Below.refl _ _).alloc (Nat.le_refl _) _
  replace h1 := hide (h1.keep hbx.size (fun b hb => hbx.block b (h1.lt b hb)))
  replace h2 := hide (h2.keep hbx.size (fun b hb => hbx.block b (h2.lt b hb)))
  replace h3 := hide (h3.keep hbx.size (fun b hb => hbx.block b (h3.lt b hb)))
  replace h4 := hide (h4.keep hbx.size (fun b hb => hbx.block b (h4.lt b hb)))
  have HT : Hid (TurnB (be ++ bi ++ bo ++ bf) w (w.alloc (.cells #[.int .i64 d.reg.lim, .int .i64 d.reg.top, .slice ae d.reg.es.length pe, .int .i64 d.inr, .slice ai d.inT.length pi, .int .i64 d.outr, .slice ao d.outT.length po, .int .i64 d.get, .int .i64 d.give, .int .i64 d.first, .slice af d.flows.length pf, .bool d.away, .bool d.dead] 41))) := TurnB.new hbx
  clear hbx
  unfold cntConn at hk1 ⊢
  obtain ⟨K1, hK1⟩ : ∃ K1, k + cntEntryS d.reg.es = K1 := ⟨_, rfl⟩
  obtain ⟨K2, hK2⟩ : ∃ K2, K1 + cntFieldS d.inT = K2 := ⟨_, rfl⟩
  obtain ⟨K3, hK3⟩ : ∃ K3, K2 + cntFieldS d.outT = K3 := ⟨_, rfl⟩
  obtain ⟨K4, hK4⟩ : ∃ K4, K3 + cntFlowS d.flows = K4 := ⟨_, rfl⟩
  rw [show k + (cntEntryS d.reg.es + cntFieldS d.inT + cntFieldS d.outT + cntFlowS d.flows) = K4 by omega]
  have HK : Hid (mkConn d k = ⟨⟨d.reg.lim, d.reg.top, mkEntryS d.reg.es k⟩, d.inr, mkFieldS d.inT K1, d.outr, mkFieldS d.outT K2, d.get, d.give, d.first, mkFlowS d.flows K3, d.away, d.dead⟩) := by show _ = _; unfold mkConn; rw [hK1, hK2, hK3]
  go_enter Try.func12, Try.ntmps12
  have x0 := RowIs.cell (j := 0) RX rfl
  have x1 := RowIs.cell (j := 1) RX rfl
  have x2 := RowIs.cell (j := 2) RX rfl
  go_wp2_with fail
  clear x0 x1 x2
  have hcl := markRegistry1 d.reg _ k be _ h1.out HM1.out (by omega)
  rw [hK1] at hcl
  refine hcl.mono ?_; clear hcl
  rintro x u0 ⟨rfl, ho, ht⟩
  replace h2 := hide (h2.out.apart ht (fun x hx => (HD2.out x hx).1))
  replace h3 := hide (h3.out.apart ht (fun x hx => (HD3.out x hx).1))
  replace h4 := hide (h4.out.apart ht (fun x hx => (HD4.out x hx).1))
  replace h1 := hide ho
  replace RX := RX.kept (ht.block _ RX.lt HL.out.1)
  replace HT := hide (HT.out.trans (ht.wide (fun x hx => by simp [hx])))
  clear ho ht
  have x3 := RowIs.cell (j := 3) RX rfl
  have x4 := RowIs.cell (j := 4) RX rfl
  go_wp2_with fail
  clear x3 x4
  have hcl := markTable2 d.inT d.inr K1 _ bi _ h2.out (by omega)
  rw [hK2] at hcl
  refine hcl.mono ?_; clear hcl
  rintro x u1 ⟨rfl, ho, ht⟩
  replace h1 := hide (h1.out.apart ht (fun x hx => (HD1.out x hx).1))
  replace h3 := hide (h3.out.apart ht (fun x hx => (HD3.out x hx).2.1))
  replace h4 := hide (h4.out.apart ht (fun x hx => (HD4.out x hx).2.1))
  replace h2 := hide ho
  replace RX := RX.kept (ht.block _ RX.lt HL.out.2.1)
  replace HT := hide (HT.out.trans (ht.wide (fun x hx => by simp [hx])))
  clear ho ht
  have x5 := RowIs.cell (j := 5) RX rfl
  have x6 := RowIs.cell (j := 6) RX rfl
  go_wp2_with fail
  clear x5 x6
  have hcl := markTable2 d.outT d.outr K2 _ bo _ h3.out (by omega)
  rw [hK3] at hcl
  refine hcl.mono ?_; clear hcl
  rintro x u2 ⟨rfl, ho, ht⟩
  replace h1 := hide (h1.out.apart ht (fun x hx => (HD1.out x hx).2.1))
  replace h2 := hide (h2.out.apart ht (fun x hx => (HD2.out x hx).2.1))
  replace h4 := hide (h4.out.apart ht (fun x hx => (HD4.out x hx).2.2))
  replace h3 := hide ho
  replace RX := RX.kept (ht.block _ RX.lt HL.out.2.2.1)
  replace HT := hide (HT.out.trans (ht.wide (fun x hx => by simp [hx])))
  clear ho ht
  have x10 := RowIs.cell (j := 10) RX rfl
  go_wp2_with fail
  clear x10
  have hcl := markFlowS d.flows K3 _ bf _ h4.out HM4.out (by omega)
  rw [hK4] at hcl
  refine hcl.mono ?_; clear hcl
  rintro x u3 ⟨rfl, ho, ht⟩
  replace h1 := hide (h1.out.apart ht (fun x hx => (HD1.out x hx).2.2))
  replace h2 := hide (h2.out.apart ht (fun x hx => (HD2.out x hx).2.2))
  replace h3 := hide (h3.out.apart ht (fun x hx => (HD3.out x hx).2.2))
  replace h4 := hide ho
  replace RX := RX.kept (ht.block _ RX.lt HL.out.2.2.2)
  replace HT := hide (HT.out.trans (ht.wide (fun x hx => by simp [hx])))
  clear ho ht
  go_wp2_with fail
  go_ret
  rw [HK.out]
  exact ⟨rfl, ⟨⟨be, bi, bo, bf, h1.out, h2.out, h3.out, h4.out, rfl⟩, HN.out⟩, HT.out⟩
set_option maxHeartbeats 4000000 in
theorem heldConn1 (d q : CnD) (ve vi vo vf : Value) (k : Nat) (w : World) (hr : CnRd w (mkConn q k) ve vi vo vf) (hk1 : k + cntConn q ≤ 1000000000) :
    Calls Try.prog 13 #[cnv d ve vi vo vf, .int .i64 k] w fun x w' => x = .returned (.int .i64 ((k + cntConn q : Nat) : Int)) ∧ Below w.heap.size w w' := by
  dsimp only [cnv] at *
  unfold cntConn at hk1 ⊢
  obtain ⟨K1, hK1⟩ : ∃ K1, k + cntEntryS q.reg.es = K1 := ⟨_, rfl⟩
  obtain ⟨K2, hK2⟩ : ∃ K2, K1 + cntFieldS q.inT = K2 := ⟨_, rfl⟩
  obtain ⟨K3, hK3⟩ : ∃ K3, K2 + cntFieldS q.outT = K3 := ⟨_, rfl⟩
  obtain ⟨K4, hK4⟩ : ∃ K4, K3 + cntFlowS q.flows = K4 := ⟨_, rfl⟩
  rw [show k + (cntEntryS q.reg.es + cntFieldS q.inT + cntFieldS q.outT + cntFlowS q.flows) = K4 by omega]
  have he := hide hr.e
  have hi := hide hr.i
  have ho := hide hr.o
  have hf := hide hr.f
  clear hr
  unfold mkConn at he hi ho hf
  dsimp only at he hi ho hf
  rw [hK1] at hi
  rw [hK1, hK2] at ho
  rw [hK1, hK2, hK3] at hf
  obtain ⟨ae, pe, rfl, _⟩ := he.out.form
  obtain ⟨ai, pi, rfl, _⟩ := hi.out.form
  obtain ⟨ao, po, rfl, _⟩ := ho.out.form
  obtain ⟨af, pf, rfl, _⟩ := hf.out.form
  obtain ⟨ne, hne⟩ : ∃ n, n = (mkEntryS q.reg.es k).length := ⟨_, rfl⟩
  rw [← hne] at he ⊢
  clear hne
  obtain ⟨ni, hni⟩ : ∃ n, n = (mkFieldS q.inT K1).length := ⟨_, rfl⟩
  rw [← hni] at hi ⊢
  clear hni
  obtain ⟨no, hno⟩ : ∃ n, n = (mkFieldS q.outT K2).length := ⟨_, rfl⟩
  rw [← hno] at ho ⊢
  clear hno
  obtain ⟨nf, hnf⟩ : ∃ n, n = (mkFlowS q.flows K3).length := ⟨_, rfl⟩
  rw [← hnf] at hf ⊢
  clear hnf
  have HK1 := hide hK1; have HK2 := hide hK2; have HK3 := hide hK3; have HK4 := hide hK4
  have b1 : K1 ≤ 1000000000 := by omega
  have b2 : K2 ≤ 1000000000 := by omega
  have b3 : K3 ≤ 1000000000 := by omega
  have b4 : K4 ≤ 1000000000 := by omega
  clear hK1 hK2 hK3 hK4 hk1
  have RX := rowIs_new w 41 [.int .i64 d.reg.lim, .int .i64 d.reg.top, .slice ae ne pe, .int .i64 d.inr, .slice ai ni pi, .int .i64 d.outr, .slice ao no po, .int .i64 d.get, .int .i64 d.give, .int .i64 d.first, .slice af nf pf, .bool d.away, .bool d.dead]
  have HB : Below w.heap.size w (w.alloc (.cells #[.int .i64 d.reg.lim, .int .i64 d.reg.top, .slice ae ne pe, .int .i64 d.inr, .slice ai ni pi, .int .i64 d.outr, .slice ao no po, .int .i64 d.get, .int .i64 d.give, .int .i64 d.first, .slice af nf pf, .bool d.away, .bool d.dead] 41)) := (Below.refl _ _).alloc (Nat.le_refl _) _
  go_enter Try.func13, Try.ntmps13
  have x0 := RowIs.cell (j := 0) RX rfl
  have x1 := RowIs.cell (j := 1) RX rfl
  have x2 := RowIs.cell (j := 2) RX rfl
  have xf := fun j => RowIs.frozen RX j
  have xl := RX.lt
  go_wp2_with fail
  clear x0 x1 x2 xf xl
  have hcl := heldRegistry1 ⟨d.reg.lim, d.reg.top, []⟩ _ k _ q.reg.es (he.out.new HB) (by rw [HK1.out]; exact b1)
  rw [HK1.out] at hcl
  refine hcl.mono ?_; clear hcl
  rintro x u0 ⟨rfl, hb⟩
  have hp0 : ¬ ((K1 : Nat) : Int) < 0 := by omega
  replace RX := RX.new hb
  replace HB := bchain HB hb
  clear hb
  have x3 := RowIs.cell (j := 3) RX rfl
  have x4 := RowIs.cell (j := 4) RX rfl
  have xf := fun j => RowIs.frozen RX j
  have xl := RX.lt
  go_wp2_with fail
  clear x3 x4 xf xl
  have hcl := heldTable2 q.inT d.inr K1 _ _ (hi.out.new HB) (by rw [HK2.out]; exact b2)
  rw [HK2.out] at hcl
  refine hcl.mono ?_; clear hcl
  rintro x u1 ⟨rfl, hb⟩
  have hp1 : ¬ ((K2 : Nat) : Int) < 0 := by omega
  replace RX := RX.new hb
  replace HB := bchain HB hb
  clear hb
  have x5 := RowIs.cell (j := 5) RX rfl
  have x6 := RowIs.cell (j := 6) RX rfl
  have xf := fun j => RowIs.frozen RX j
  have xl := RX.lt
  go_wp2_with fail
  clear x5 x6 xf xl
  have hcl := heldTable2 q.outT d.outr K2 _ _ (ho.out.new HB) (by rw [HK3.out]; exact b3)
  rw [HK3.out] at hcl
  refine hcl.mono ?_; clear hcl
  rintro x u2 ⟨rfl, hb⟩
  have hp2 : ¬ ((K3 : Nat) : Int) < 0 := by omega
  replace RX := RX.new hb
  replace HB := bchain HB hb
  clear hb
  have x10 := RowIs.cell (j := 10) RX rfl
  have xf := fun j => RowIs.frozen RX j
  have xl := RX.lt
  go_wp2_with fail
  clear x10 xf xl
  have hcl := heldFlowS q.flows K3 _ _ (hf.out.new HB) (by rw [HK4.out]; exact b4)
  rw [HK4.out] at hcl
  refine hcl.mono ?_; clear hcl
  rintro x u3 ⟨rfl, hb⟩
  have hp3 : ¬ ((K4 : Nat) : Int) < 0 := by omega
  replace RX := RX.new hb
  replace HB := bchain HB hb
  clear hb
  go_wp2_with fail
  go_ret
  exact ⟨rfl, HB⟩
end Go.Proofs.Ytllaeakeaabiaaa
