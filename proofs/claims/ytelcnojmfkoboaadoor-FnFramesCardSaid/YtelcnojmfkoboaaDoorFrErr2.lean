/- errors.Is at the program's own error that wraps one of errors.New's make. -/
import Derived.Test.YtelcnojmfkoboaaDoorFrErr

namespace Go.Proofs.YtelcnojmfkoboaaDoor
open Go.RowKit Go.Extern.Stop Go.Stop Go.Extern
set_option linter.unusedSimpArgs false
set_option linter.unusedVariables false

theorem isTypeOf (v : Value) (w : World) : (Extern.ReflectliteType.typeOf #[.iface 105 v]).run Tryd.prog w = .ok (.iface 89 (.agg #[.pointer (some ⟨3, 105, none⟩)])) w := by kernel_rfl
theorem cmp_entry : ∃ F : Array Value → Sem Value, find Tryd.f90 = some F ∧ ∀ w, (F #[.agg #[.pointer (some ⟨3, 105, none⟩)]]).run Tryd.prog w = .ok (.bool true) w :=
  ⟨(find Tryd.f90).getD (fun _ => pure .nilIface), by kernel_rfl, fun w => by kernel_rfl⟩
theorem isMethodComparable (v : Value) (w : World) : (Go.method 238 89 v "Comparable").run Tryd.prog w = .ok (90, v) w := by kernel_rfl
theorem isComp : (Tryd.prog.info? 105).map (·.comparable) = some true := by kernel_rfl
theorem isSize : (Tryd.prog.info? 126).map (·.size) = some 1 := by kernel_rfl
theorem noIsE (v : Value) (xT : TypeId) (w : World) : (Instr.typeAssert (.iface 105 v) xT 102 true).run Tryd.prog w = .ok (.tuple #[.nilIface, .bool false]) w := run_typeAssert_lacksB Tryd.underlying102 (by kernel_rfl) (by kernel_rfl) v xT w
theorem noUnwrapE (v : Value) (xT : TypeId) (w : World) : (Instr.typeAssert (.iface 105 v) xT 96 true).run Tryd.prog w = .ok (.tuple #[.nilIface, .bool false]) w := run_typeAssert_lacksB Tryd.underlying96 (by kernel_rfl) (by kernel_rfl) v xT w
theorem noUnwrapsE (v : Value) (xT : TypeId) (w : World) : (Instr.typeAssert (.iface 105 v) xT 98 true).run Tryd.prog w = .ok (.tuple #[.nilIface, .bool false]) w := run_typeAssert_lacksB Tryd.underlying98 (by kernel_rfl) (by kernel_rfl) v xT w
theorem noIsW (v : Value) (xT : TypeId) (w : World) : (Instr.typeAssert (.iface 52 v) xT 102 true).run Tryd.prog w = .ok (.tuple #[.nilIface, .bool false]) w := run_typeAssert_lacksB Tryd.underlying102 (by kernel_rfl) (by kernel_rfl) v xT w
theorem hasUnwrapW (v : Value) (xT : TypeId) (w : World) : (Instr.typeAssert (.iface 52 v) xT 96 true).run Tryd.prog w = .ok (.tuple #[.iface 52 v, .bool true]) w := run_typeAssert_hasB Tryd.underlying96 (by kernel_rfl) v xT w
theorem methodUnwrap (v : Value) (w : World) : (Go.method 238 52 v "Unwrap").run Tryd.prog w = .ok (84, v) w := by kernel_rfl

set_option maxHeartbeats 4000000 in
theorem is_same (x : Value) (b : Addr) (w : World) :
    Calls Tryd.prog 37 #[.iface 52 (.agg #[x, .iface 105 (.pointer (some b))]), .iface 105 (.pointer (some b))] w fun e w' => e = .returned (.bool true) ∧ Below w.heap.size w w' := by
  obtain ⟨i, hi, hcmp⟩ := Option.map_eq_some_iff.1 isComp
  obtain ⟨j, hj, hjs⟩ := Option.map_eq_some_iff.1 isSize
  have h8 := @run_callFunc_extern Tryd.prog 61 _ Extern.ReflectliteType.typeOf Tryd.func61 (by kernel_rfl) (by kernel_rfl) (by kernel_rfl) (by kernel_rfl)
  obtain ⟨cmpF, hcF, cT⟩ := cmp_entry
  have h32 := @run_callFunc_extern Tryd.prog 90 _ cmpF Tryd.func90 (by kernel_rfl) (by kernel_rfl) (by kernel_rfl) hcF
  clear hcF
  have tT := isTypeOf
  have mR := isMethodComparable
  have nE := noIsE
  have uE := noUnwrapE
  have vE := noUnwrapsE
  have nW := noIsW
  have uW := hasUnwrapW
  have mU := methodUnwrap
  have heq := fun w => run_eql_iface_ptr_same (P := Tryd.prog) w b Tryd.underlying48 Tryd.underlying105 hi hcmp hj
  have hty := run_eql_iface_types (P := Tryd.prog) 52 105 (.agg #[x, .iface 105 (.pointer (some b))]) (.pointer (some b)) Tryd.underlying48 (by decide) w
  go_enter Tryd.func37, Tryd.ntmps37
  go_wp2
  refine wp_loop_rounds 2 ?_
  rw [rounds_succ]
  go_wp2
  rw [rounds_succ]
  go_wp2
  go_ret
  exact ⟨rfl, (by repeat' (first | (with_reducible exact Below.refl _ _) | (with_reducible refine Below.drew ?_) | (with_reducible refine bo_drewN _ ?_) | (with_reducible refine bo_alloc ?_ _) | (refine bchain ?_ (by with_reducible assumption)) | (with_reducible refine Below.setCell ?_ ?_ _) | go_size))⟩

set_option maxHeartbeats 4000000 in
theorem is_other (x : Value) (a b : Addr) (ca cb : Array Value) (ta tb : TypeId) (w : World) (hne : a ≠ b) (ha : w.heap[a.block]? = some (.cells ca ta (0, 0))) (hb : w.heap[b.block]? = some (.cells cb tb (0, 0))) :
    Calls Tryd.prog 37 #[.iface 52 (.agg #[x, .iface 105 (.pointer (some a))]), .iface 105 (.pointer (some b))] w fun e w' => e = .returned (.bool false) ∧ Below w.heap.size w w' := by
  obtain ⟨i, hi, hcmp⟩ := Option.map_eq_some_iff.1 isComp
  obtain ⟨j, hj, hjs⟩ := Option.map_eq_some_iff.1 isSize
  have h8 := @run_callFunc_extern Tryd.prog 61 _ Extern.ReflectliteType.typeOf Tryd.func61 (by kernel_rfl) (by kernel_rfl) (by kernel_rfl) (by kernel_rfl)
  obtain ⟨cmpF, hcF, cT⟩ := cmp_entry
  have h32 := @run_callFunc_extern Tryd.prog 90 _ cmpF Tryd.func90 (by kernel_rfl) (by kernel_rfl) (by kernel_rfl) hcF
  clear hcF
  have tT := isTypeOf
  have mR := isMethodComparable
  have nE := noIsE
  have uE := noUnwrapE
  have vE := noUnwrapsE
  have nW := noIsW
  have uW := hasUnwrapW
  have mU := methodUnwrap
  have ba : a.block < w.heap.size := (Array.getElem?_eq_some_iff.1 ha).1
  have bb : b.block < w.heap.size := (Array.getElem?_eq_some_iff.1 hb).1
  have hk : ∀ o : Obj, ∀ k, k < w.heap.size → (w.alloc o).heap[k]? = w.heap[k]? := fun o k hk => ((Below.refl w.heap.size w).alloc (Nat.le_refl _) o).block k hk
  have heq := run_eql_iface_ptr_other (P := Tryd.prog) (w.alloc (.cells #[x, .iface 105 (.pointer (some a))] 52)) Tryd.underlying48 Tryd.underlying105 hi hcmp hj (by rw [hjs]; decide) hne ((hk _ _ ba).trans ha) ((hk _ _ bb).trans hb)
  have hty := run_eql_iface_types (P := Tryd.prog) 52 105 (.agg #[x, .iface 105 (.pointer (some a))]) (.pointer (some b)) Tryd.underlying48 (by decide) w
  clear hk ha hb
  go_enter Tryd.func37, Tryd.ntmps37
  go_wp2
  refine wp_loop_rounds 2 ?_
  rw [rounds_succ]
  go_wp2
  rw [rounds_succ]
  go_wp2
  go_ret
  exact ⟨rfl, (by repeat' (first | (with_reducible exact Below.refl _ _) | (with_reducible refine Below.drew ?_) | (with_reducible refine bo_drewN _ ?_) | (with_reducible refine bo_alloc ?_ _) | (refine bchain ?_ (by with_reducible assumption)) | (with_reducible refine Below.setCell ?_ ?_ _) | go_size))⟩

/-- errors.As: what was asked for is there; of what was there only its own block has turned. -/
theorem as_hit' (x y x0 y0 : Value) (t : Nat) (w : World) (hx : x.oneCell' = true) (hy : y.oneCell' = true) (hg : w.cell? ⟨1, 0, none⟩ = some (.iface 89 (.agg #[.pointer (some ⟨3, 48, none⟩)]))) (ht0 : RowIs w t 52 [x0, y0]) :
    Calls Tryd.prog 35 #[.iface 52 (.agg #[x, y]), .iface 54 (.pointer (some ⟨t, 0, none⟩))] w fun ev w' => ev = .returned (.bool true) ∧ RowIs w' t 52 [x, y] ∧ Turn t (t + 1) w w' := by
  refine (as_hit x y x0 y0 t w hx hy hg ht0).mono ?_
  rintro e w' ⟨rfl, rfl⟩
  refine ⟨rfl, ?_, ?_⟩
  · exact rowIs_setRow (cs' := [x, y]) ((((ht0.alloc _).alloc _).alloc _).alloc _)
  · exact ((((((Turn.refl t (t + 1) w).alloc _).alloc _).alloc _).alloc _).setRow _ (.inl ⟨Nat.le_refl _, by omega⟩))
end Go.Proofs.YtelcnojmfkoboaaDoor
