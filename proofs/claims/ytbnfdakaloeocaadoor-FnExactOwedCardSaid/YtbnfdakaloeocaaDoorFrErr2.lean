/- errors.Is at the program's own error that wraps one of errors.New's make. -/
import Derived.Test.YtbnfdakaloeocaaDoorFrErr

namespace Go.Proofs.YtbnfdakaloeocaaDoor
open Go.RowKit Go.Extern.Stop Go.Stop Go.Extern
set_option linter.unusedSimpArgs false
set_option linter.unusedVariables false

theorem isTypeOf (v : Value) (w : World) : (Extern.ReflectliteType.typeOf #[.iface 84 v]).run Tryd.prog w = .ok (.iface 67 (.agg #[.pointer (some ⟨3, 84, none⟩)])) w := by kernel_rfl
theorem cmp_entry : ∃ F : Array Value → Sem Value, find Tryd.f62 = some F ∧ ∀ w, (F #[.agg #[.pointer (some ⟨3, 84, none⟩)]]).run Tryd.prog w = .ok (.bool true) w :=
  ⟨(find Tryd.f62).getD (fun _ => pure .nilIface), by kernel_rfl, fun w => by kernel_rfl⟩
theorem isMethodComparable (v : Value) (w : World) : (Go.method 219 67 v "Comparable").run Tryd.prog w = .ok (62, v) w := by kernel_rfl
theorem isComp : (Tryd.prog.info? 84).map (·.comparable) = some true := by kernel_rfl
theorem isSize : (Tryd.prog.info? 106).map (·.size) = some 1 := by kernel_rfl
theorem noIsE (v : Value) (xT : TypeId) (w : World) : (Instr.typeAssert (.iface 84 v) xT 81 true).run Tryd.prog w = .ok (.tuple #[.nilIface, .bool false]) w := run_typeAssert_lacksB Tryd.underlying81 (by kernel_rfl) (by kernel_rfl) v xT w
theorem noUnwrapE (v : Value) (xT : TypeId) (w : World) : (Instr.typeAssert (.iface 84 v) xT 74 true).run Tryd.prog w = .ok (.tuple #[.nilIface, .bool false]) w := run_typeAssert_lacksB Tryd.underlying74 (by kernel_rfl) (by kernel_rfl) v xT w
theorem noUnwrapsE (v : Value) (xT : TypeId) (w : World) : (Instr.typeAssert (.iface 84 v) xT 76 true).run Tryd.prog w = .ok (.tuple #[.nilIface, .bool false]) w := run_typeAssert_lacksB Tryd.underlying76 (by kernel_rfl) (by kernel_rfl) v xT w
theorem noIsW (v : Value) (xT : TypeId) (w : World) : (Instr.typeAssert (.iface 42 v) xT 81 true).run Tryd.prog w = .ok (.tuple #[.nilIface, .bool false]) w := run_typeAssert_lacksB Tryd.underlying81 (by kernel_rfl) (by kernel_rfl) v xT w
theorem hasUnwrapW (v : Value) (xT : TypeId) (w : World) : (Instr.typeAssert (.iface 42 v) xT 74 true).run Tryd.prog w = .ok (.tuple #[.iface 42 v, .bool true]) w := run_typeAssert_hasB Tryd.underlying74 (by kernel_rfl) v xT w
theorem methodUnwrap (v : Value) (w : World) : (Go.method 219 42 v "Unwrap").run Tryd.prog w = .ok (56, v) w := by kernel_rfl

set_option maxHeartbeats 4000000 in
theorem is_same (x : Value) (b : Addr) (w : World) :
    Calls Tryd.prog 22 #[.iface 42 (.agg #[x, .iface 84 (.pointer (some b))]), .iface 84 (.pointer (some b))] w fun e w' => e = .returned (.bool true) ∧ Below w.heap.size w w' := by
  obtain ⟨i, hi, hcmp⟩ := Option.map_eq_some_iff.1 isComp
  obtain ⟨j, hj, hjs⟩ := Option.map_eq_some_iff.1 isSize
  have h8 := @run_callFunc_extern Tryd.prog 29 _ Extern.ReflectliteType.typeOf Tryd.func29 (by kernel_rfl) (by kernel_rfl) (by kernel_rfl) (by kernel_rfl)
  obtain ⟨cmpF, hcF, cT⟩ := cmp_entry
  have h32 := @run_callFunc_extern Tryd.prog 62 _ cmpF Tryd.func62 (by kernel_rfl) (by kernel_rfl) (by kernel_rfl) hcF
  clear hcF
  have tT := isTypeOf
  have mR := isMethodComparable
  have nE := noIsE
  have uE := noUnwrapE
  have vE := noUnwrapsE
  have nW := noIsW
  have uW := hasUnwrapW
  have mU := methodUnwrap
  have heq := fun w => run_eql_iface_ptr_same (P := Tryd.prog) w b Tryd.underlying38 Tryd.underlying84 hi hcmp hj
  have hty := run_eql_iface_types (P := Tryd.prog) 42 84 (.agg #[x, .iface 84 (.pointer (some b))]) (.pointer (some b)) Tryd.underlying38 (by decide) w
  go_enter Tryd.func22, Tryd.ntmps22
  go_wp2
  refine wp_loop_rounds 2 ?_
  rw [rounds_succ]
  go_wp2
  rw [rounds_succ]
  go_wp2
  go_ret
  exact ⟨rfl, (by repeat' (first | (with_reducible exact Below.refl _ _) | (with_reducible refine Below.drew ?_) | (with_reducible refine bo_drewN _ ?_) | (with_reducible refine bo_alloc ?_ _) | (refine bchain ?_ (by with_reducible assumption)) | (with_reducible refine Below.setCell ?_ ?_ _) | go_size))⟩

set_option maxHeartbeats 4000000 in
theorem is_other (x : Value) (a b : Addr) (ca cb : Array Value) (ta tb : TypeId) (w : World) (hne : a ≠ b) (ha : w.heap[a.block]? = some (.cells ca ta (0, 0))) (hb : w.heap[b.block]? = some (.cells cb tb (0, 0))) :
    Calls Tryd.prog 22 #[.iface 42 (.agg #[x, .iface 84 (.pointer (some a))]), .iface 84 (.pointer (some b))] w fun e w' => e = .returned (.bool false) ∧ Below w.heap.size w w' := by
  obtain ⟨i, hi, hcmp⟩ := Option.map_eq_some_iff.1 isComp
  obtain ⟨j, hj, hjs⟩ := Option.map_eq_some_iff.1 isSize
  have h8 := @run_callFunc_extern Tryd.prog 29 _ Extern.ReflectliteType.typeOf Tryd.func29 (by kernel_rfl) (by kernel_rfl) (by kernel_rfl) (by kernel_rfl)
  obtain ⟨cmpF, hcF, cT⟩ := cmp_entry
  have h32 := @run_callFunc_extern Tryd.prog 62 _ cmpF Tryd.func62 (by kernel_rfl) (by kernel_rfl) (by kernel_rfl) hcF
  clear hcF
  have tT := isTypeOf
  have mR := isMethodComparable
  have nE := noIsE
  have uE := noUnwrapE
  have vE := noUnwrapsE
  have nW := noIsW
  have uW := hasUnwrapW
  have mU := methodUnwrap
  have ba : a.block < w.heap.size := (Array.getElem?_eq_some_iff.1 ha).1
  have bb : b.block < w.heap.size := (Array.getElem?_eq_some_iff.1 hb).1
  have hk : ∀ o : Obj, ∀ k, k < w.heap.size → (w.alloc o).heap[k]? = w.heap[k]? := fun o k hk => ((Below.refl w.heap.size w).alloc (Nat.le_refl _) o).block k hk
  have heq := run_eql_iface_ptr_other (P := Tryd.prog) (w.alloc (.cells #[x, .iface 84 (.pointer (some a))] 42)) Tryd.underlying38 Tryd.underlying84 hi hcmp hj (by rw [hjs]; decide) hne ((hk _ _ ba).trans ha) ((hk _ _ bb).trans hb)
  have hty := run_eql_iface_types (P := Tryd.prog) 42 84 (.agg #[x, .iface 84 (.pointer (some a))]) (.pointer (some b)) Tryd.underlying38 (by decide) w
  clear hk ha hb
  go_enter Tryd.func22, Tryd.ntmps22
  go_wp2
  refine wp_loop_rounds 2 ?_
  rw [rounds_succ]
  go_wp2
  rw [rounds_succ]
  go_wp2
  go_ret
  exact ⟨rfl, (by repeat' (first | (with_reducible exact Below.refl _ _) | (with_reducible refine Below.drew ?_) | (with_reducible refine bo_drewN _ ?_) | (with_reducible refine bo_alloc ?_ _) | (refine bchain ?_ (by with_reducible assumption)) | (with_reducible refine Below.setCell ?_ ?_ _) | go_size))⟩

/-- errors.As: what was asked for is there; of what was there only its own block has turned. -/
theorem as_hit' (x y x0 y0 : Value) (t : Nat) (w : World) (hx : x.oneCell' = true) (hy : y.oneCell' = true) (hg : w.cell? ⟨1, 0, none⟩ = some (.iface 67 (.agg #[.pointer (some ⟨3, 38, none⟩)]))) (ht0 : RowIs w t 42 [x0, y0]) :
    Calls Tryd.prog 20 #[.iface 42 (.agg #[x, y]), .iface 44 (.pointer (some ⟨t, 0, none⟩))] w fun ev w' => ev = .returned (.bool true) ∧ RowIs w' t 42 [x, y] ∧ Turn t (t + 1) w w' := by
  refine (as_hit x y x0 y0 t w hx hy hg ht0).mono ?_
  rintro e w' ⟨rfl, rfl⟩
  refine ⟨rfl, ?_, ?_⟩
  · exact rowIs_setRow (cs' := [x, y]) ((((ht0.alloc _).alloc _).alloc _).alloc _)
  · exact ((((((Turn.refl t (t + 1) w).alloc _).alloc _).alloc _).alloc _).setRow _ (.inl ⟨Nat.le_refl _, by omega⟩))
end Go.Proofs.YtbnfdakaloeocaaDoor
