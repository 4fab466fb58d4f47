/- What the listed variables hold when the call begins, and what follows of it for the walk: the program's two errors and the handle of the type error. -/
import Derived.Test.YtelcnojmfkoboaaDoorFrRead
import Derived.ChangeSame
import Derived.ChangeVars
import Derived.JoinedOf
import Derived.RowKit
import Derived.RowKitTokens
import Derived.LaidLaws
import Derived.LaidHandle
import Derived.Stop.ErrReads
import Derived.Stop.Joined
namespace Go.Proofs.YtelcnojmfkoboaaDoor
open Go.RowKit
set_option maxRecDepth 100000
set_option linter.unusedSimpArgs false
set_option linter.unusedVariables false

theorem gl0 : Tryd.prog.globalNamed "loop.example/g00296/impl.errNoFrame" = some 0 := by kernel_rfl
theorem gl1 : Tryd.prog.globalNamed "errors.errorType" = some 1 := by kernel_rfl
theorem gl2 : Tryd.prog.globalNamed "loop.example/g00296/impl.errNotYet" = some 2 := by kernel_rfl
theorem gt0 : (Tryd.prog.globals[0]?).map (·.type) = some 48 := by kernel_rfl
theorem gt2 : (Tryd.prog.globals[2]?).map (·.type) = some 48 := by kernel_rfl
theorem esCells : Tryd.prog.cellsOf 126 = 1 := by kernel_rfl
theorem strCells1 : Tryd.prog.cellsOf 9 = 1 := by kernel_rfl
theorem esStar : "*" ++ "errors.errorString" = "*errors.errorString" := by decide
theorem esRow (u : TypeId) (h : Tryd.prog.typeName? 3 u = some "*errors.errorString") : u = 105 :=
  typeName_ptr_named (nm := "errors.errorString") (by rw [esStar]; kernel_rfl) (by kernel_rfl) (by decide) u (by rw [esStar]; exact h)
theorem rtRow : (Tryd.prog.cutTypes.find? (·.1 == "internal/reflectlite.rtype")).map (·.2) = some 89 := by kernel_rfl
theorem ntypes : Tryd.prog.types.size = 138 := by kernel_rfl
theorem errOne : ((List.range 138).filter fun t => Tryd.prog.rowNamed t [101, 114, 114, 111, 114]) = [48] := by kernel_rfl

theorem handle_of {W : World} (h : handlesMet Tryd.prog [("errors.errorType", Rows.laid_errors_errorType)] W) : W.cell? ⟨1, 0, none⟩ = some (.iface 89 (.agg #[.pointer (some ⟨3, 48, none⟩)])) := by
  obtain ⟨name, u, ty, e1, e2, e3, e4, e5⟩ := h _ (List.mem_singleton.2 rfl)
  have en : name = [101, 114, 114, 111, 114] := (Option.some.inj e1).symm
  subst en
  obtain rfl := Option.some.inj (rtRow.symm.trans e2)
  have hm : ty ∈ (List.range 138).filter fun t => Tryd.prog.rowNamed t [101, 114, 114, 111, 114] := List.mem_filter.2 ⟨List.mem_range.2 (by rw [← ntypes]; exact e3), e4⟩
  rw [errOne] at hm
  obtain rfl := List.mem_singleton.1 hm
  have hh : typeHandle Tryd.prog 48 = .pointer (some ⟨3, 48, none⟩) := by kernel_rfl
  rw [hh] at e5
  simpa using World.var?_cell gl1 e5 0

theorem errs_of_laid {W : World} (h : laidMetH Tryd.prog [("errors.errorType", Rows.laid_errors_errorType), ("loop.example/g00296/impl.errNoFrame", Rows.laid_loop_example_g00296_impl_errNoFrame), ("loop.example/g00296/impl.errNotYet", Rows.laid_loop_example_g00296_impl_errNotYet)] W) :
    ∃ a0 a2 : Addr, W.var? Tryd.prog "loop.example/g00296/impl.errNoFrame" = some #[.iface 105 (.pointer (some a0))] ∧ W.var? Tryd.prog "loop.example/g00296/impl.errNotYet" = some #[.iface 105 (.pointer (some a2))] ∧ Errs W a0 a2 := by
  have h' : laidMet Tryd.prog [("loop.example/g00296/impl.errNoFrame", Rows.laid_loop_example_g00296_impl_errNoFrame), ("loop.example/g00296/impl.errNotYet", Rows.laid_loop_example_g00296_impl_errNotYet)] W ∧ handlesMet Tryd.prog [("errors.errorType", Rows.laid_errors_errorType)] W := h
  obtain ⟨hd, hh⟩ := h'
  have hty := handle_of hh
  obtain ⟨ps, ⟨g0, t0, cs0, f0, p0, q0, hg0, ht0, hv0, hd0, ⟨g1, t1, cs1, f1, p1, q1, hg1, ht1, hv1, hd1, hq1, e1⟩, e0⟩, hnd, hrows⟩ := hd
  obtain rfl := Option.some.inj (gl0.symm.trans hg0)
  obtain rfl := Option.some.inj (gl2.symm.trans hg1)
  obtain rfl := Option.some.inj (gt0.symm.trans ht0)
  obtain rfl := Option.some.inj (gt2.symm.trans ht1)
  have hq1' : q1 = [] := hq1
  subst hq1'
  subst e1
  subst e0
  obtain ⟨l0⟩ := cs0
  obtain ⟨l1⟩ := cs1
  have ok0 : ∀ u v, l0 = [.iface u v] → Value.okWide Tryd.prog W .any 0 u v := fun u v e => by
    subst e
    exact (hrows 0 0 (by simp [MemPlace.row])).2 u v (by simpa using World.var?_cell hg0 hv0 0)
  have ok1 : ∀ u v, l1 = [.iface u v] → Value.okWide Tryd.prog W .any 0 u v := fun u v e => by
    subst e
    exact (hrows 2 0 (by simp [MemPlace.row])).2 u v (by simpa using World.var?_cell hg1 hv1 0)
  obtain ⟨a0, s0, rfl, hc0, hs0, hz0, rfl⟩ := errorString_of_trod Tryd.underlying48 esRow Tryd.underlying105 Tryd.underlying126 rfl rfl Tryd.underlying9 esCells strCells1 hd0 ok0
  obtain ⟨a1, s1, rfl, hc1, hs1, hz1, rfl⟩ := errorString_of_trod Tryd.underlying48 esRow Tryd.underlying105 Tryd.underlying126 rfl rfl Tryd.underlying9 esCells strCells1 hd1 ok1
  obtain ⟨c0, t0, hb0⟩ := (hrows a0.block a0.off (by simp [MemPlace.row])).1
  obtain ⟨c1, t1, hb1⟩ := (hrows a1.block a1.off (by simp [MemPlace.row])).1
  refine ⟨a0, a1, hv0, hv1, ⟨by simpa using World.var?_cell gl0 hv0 0, hty, by simpa using World.var?_cell gl2 hv1 0, ?_, ⟨c0, t0, hb0⟩, ⟨c1, t1, hb1⟩⟩⟩
  rintro rfl
  simp [MemPlace.row] at hnd

theorem var_below {W W' : World} {n : String} {cs : Array Value} (hb : Below W.heap.size W W') (h : W.var? Tryd.prog n = some cs) : W'.var? Tryd.prog n = some cs := by
  unfold World.var? at h ⊢
  cases hg : Tryd.prog.globalNamed n with
  | none => simp [hg] at h
  | some g =>
    simp only [hg, Option.bind_some] at h ⊢
    have hlt : g < W.heap.size := by
      rcases Nat.lt_or_ge g W.heap.size with h' | h'
      · exact h'
      · simp [Array.getElem?_eq_none h'] at h
    rw [hb.block g hlt]
    exact h
open Go.ChangeShapes Go.WideShapes in
theorem vars_read2 {H : Type} (enc : TypeId × Value → H) {W : World} {x0 x1 : Value} (h0 : W.var? Tryd.prog "loop.example/g00296/impl.errNoFrame" = some #[x0]) (h1 : W.var? Tryd.prog "loop.example/g00296/impl.errNotYet" = some #[x1]) (i0 : IsIface x0) (i1 : IsIface x1) (sp : Nat → Bool) :
    DataW.TrodVars enc Tryd.prog W sp ["loop.example/g00296/impl.errNoFrame", "loop.example/g00296/impl.errNotYet"] [tok enc x0, tok enc x1] [.cell 0 0, .cell 2 0] :=
  ⟨0, 48, #[x0], 1, [], [.cell 2 0], gl0, gt0, h0, trod_held Tryd.underlying48 i0 0, ⟨2, 48, #[x1], 1, [], [], gl2, gt2, h1, trod_held Tryd.underlying48 i1 0, rfl, rfl⟩, rfl⟩
end Go.Proofs.YtelcnojmfkoboaaDoor
