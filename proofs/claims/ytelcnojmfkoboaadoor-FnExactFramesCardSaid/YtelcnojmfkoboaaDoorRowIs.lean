/- A block that holds a long row of cells: read, written and made as a whole, or cell by cell. -/
import Derived.Test.YtelcnojmfkoboaaDoorHeapRows
import Derived.Laws.Tables
import Derived.Laws.Rows
import Derived.Deep.WholeRow
namespace Go.Proofs.YtelcnojmfkoboaaDoor
open Go.RowKit
set_option maxRecDepth 100000
set_option linter.unusedSimpArgs false
set_option linter.unusedVariables false

def RowIs (w : World) (b : Nat) (ty : TypeId) (cs : List Value) : Prop := w.heap[b]? = some (.cells cs.toArray ty (0, 0))
theorem RowIs.lt {w : World} {b : Nat} {ty : TypeId} {cs : List Value} (h : RowIs w b ty cs) : b < w.heap.size := (Array.getElem?_eq_some_iff.1 h).1
theorem RowIs.cell {w : World} {b : Nat} {ty : TypeId} {cs : List Value} (h : RowIs w b ty cs) {j : Nat} {u : Value} (hu : cs[j]? = some u) : w.cell? ⟨b, j, none⟩ = some u := by
  rw [cell_of_row w b j cs.toArray ty (0, 0) h]; simpa using hu
theorem RowIs.frozen {w : World} {b : Nat} {ty : TypeId} {cs : List Value} (h : RowIs w b ty cs) (j : Nat) : w.frozen? ⟨b, j, none⟩ = false := by
  have h' : w.heap[b]? = some (.cells cs.toArray ty (0, 0)) := h
  simp [World.frozen?, h']
theorem RowIs.kept {w w' : World} {b : Nat} {ty : TypeId} {cs : List Value} (h : RowIs w b ty cs) (hk : w'.heap[b]? = w.heap[b]?) : RowIs w' b ty cs := hk.trans h
theorem RowIs.new {w w' : World} {b : Nat} {ty : TypeId} {cs : List Value} (h : RowIs w b ty cs) (hb : Below w.heap.size w w') : RowIs w' b ty cs := h.kept (hb.block b h.lt)
theorem RowIs.set {w : World} {b : Nat} {ty : TypeId} {cs : List Value} (h : RowIs w b ty cs) (j : Nat) (v : Value) : RowIs (w.setCell ⟨b, j, none⟩ v) b ty (cs.set j v) := by
  have h' : w.heap[b]? = some (.cells cs.toArray ty (0, 0)) := h
  unfold RowIs
  simp [World.setCell, Array.getElem?_modify, h']
theorem RowIs.alloc {w : World} {b : Nat} {ty : TypeId} {cs : List Value} (h : RowIs w b ty cs) (o : Obj) : RowIs (w.alloc o) b ty cs := h.new ((Below.refl _ _).alloc (Nat.le_refl _) _)
theorem RowIs.far {w : World} {b : Nat} {ty : TypeId} {cs : List Value} (h : RowIs w b ty cs) (p : Addr) (v : Value) (hp : p.block ≠ b) : RowIs (w.setCell p v) b ty cs := h.kept (Below.heap_setCell w p v b (fun e => hp e.symm))
theorem RowIs.drewN {w : World} {b : Nat} {ty : TypeId} {cs : List Value} (h : RowIs w b ty cs) (n : Nat) : RowIs (w.drewN n) b ty cs := h
theorem rowIs_new (w : World) (ty : TypeId) (cs : List Value) : RowIs (w.alloc (.cells cs.toArray ty)) w.heap.size ty cs := heap_alloc_last w _
theorem rowIs_setRow {w : World} {b : Nat} {ty : TypeId} {cs cs' : List Value} (h : RowIs w b ty cs) : RowIs (w.setRow b cs'.toArray) b ty cs' := setRow_heap w b cs.toArray cs'.toArray ty (0, 0) h
theorem setRow_other (w : World) (g : Nat) (cs : Array Value) (k : Nat) (h : k ≠ g) : (w.setRow g cs).heap[k]? = w.heap[k]? := by
  simp only [World.setRow, Array.getElem?_modify]
  rw [if_neg (fun e => h e.symm)]
theorem setRow_size (w : World) (g : Nat) (cs : Array Value) : (w.setRow g cs).heap.size = w.heap.size := by simp [World.setRow]
theorem below_setRow {B : Nat} {a b : World} (h : Below B a b) {g : Nat} (hg : B ≤ g) (cs : Array Value) : Below B a (b.setRow g cs) :=
  ⟨h.os, h.tape, h.output, by rw [setRow_size]; exact h.size, fun k hk => by rw [setRow_other _ _ _ _ (by omega)]; exact h.block k hk⟩
theorem Turn.setRow {lo hi : Nat} {a b : World} (h : Turn lo hi a b) {g : Nat} (cs : Array Value) (hg : (lo ≤ g ∧ g < hi) ∨ a.heap.size ≤ g) : Turn lo hi a (b.setRow g cs) :=
  ⟨h.os, h.tape, h.output, by rw [setRow_size]; exact h.size, fun k hk h' => by rw [setRow_other _ _ _ _ (by omega)]; exact h.block k hk h'⟩

section
variable {P : Program}
theorem wp_load_row {op : Oper} {a : Act} {w : World} {K : Act → World → Prop} {Q : Exit → Act → World → Prop} (ty : TypeId) (x : Operand) (ho : op.op = .load ty x)
    (b : Nat) (hx : a.eval x = .pointer (some ⟨b, 0, none⟩)) (cs : List Value) (d : TypeDesc) (t : TypeId) (hc : RowIs w b t cs)
    (hu : P.underlying ty = some d) (hd : (match d with | .struct _ | .array _ _ => true | _ => false) = true) (hi : (P.info? ty).map (·.size) = some cs.length)
    (h : K (a.put op.dst (.agg cs.toArray)) w) : op.wp P a w K Q := by
  unfold Oper.wp execOp
  simp only [ho, hx, Instr.loadAt, Instr.sureAddr, Sem.run_bind, Sem.run_pure, Result.andThen_ok, run_loadVar_row w b t ty cs.toArray (0, 0) d hc hu hd (by simpa using hi)]
  exact h
theorem wpList_load_row {ops : Array Oper} {rest : List Oper} {op : Oper} {a : Act} {w : World} {Q : Exit → Act → World → Prop} (hgd : op.guard = none) (ty : TypeId) (x : Operand) (ho : op.op = .load ty x)
    (b : Nat) (hx : a.eval x = .pointer (some ⟨b, 0, none⟩)) (cs : List Value) (d : TypeDesc) (t : TypeId) (hc : RowIs w b t cs)
    (hu : P.underlying ty = some d) (hd : (match d with | .struct _ | .array _ _ => true | _ => false) = true) (hi : (P.info? ty).map (·.size) = some cs.length)
    (h : wpList P ops Q rest (a.put op.dst (.agg cs.toArray)) w) : wpList P ops Q (op :: rest) a w :=
  wpList_plain hgd fun _ hK => wp_load_row ty x ho b hx cs d t hc hu hd hi (hK _ _ h)
theorem wpList_store_row {ops : Array Oper} {rest : List Oper} {op : Oper} {a : Act} {w : World} {Q : Exit → Act → World → Prop} (hgd : op.guard = none) (ty : TypeId) (x y : Operand) (ho : op.op = .store ty x y)
    (b : Nat) (cs : List Value) (hx : a.eval x = .pointer (some ⟨b, 0, none⟩)) (hy : a.eval y = .agg cs.toArray) (t : TypeId) (old : List Value) (hc : RowIs w b t old)
    (hi : (P.info? ty).map (·.size) = some cs.length) (hl : old.length = cs.length) (h1 : ∀ u ∈ cs, u.oneCell' = true)
    (h : wpList P ops Q rest (a.put op.dst undef) (w.setRow b cs.toArray)) : wpList P ops Q (op :: rest) a w :=
  wpList_plain hgd fun _ hK => wp_store_row ty x y ho b cs.toArray hx hy t old.toArray hc (by simpa using hi) (by simpa using hl) (Array.all_eq_true_iff_forall_mem.2 (fun v hv => h1 v (by simpa using hv))) (hK _ _ h)
theorem wpList_alloc_row {ops : Array Oper} {rest : List Oper} {op : Oper} {a : Act} {w : World} {Q : Exit → Act → World → Prop} (hgd : op.guard = none) (ty : TypeId) (ho : op.op = .alloc ty)
    (cs : List Value) (hz : ∀ w, (zeroValue ty).run P w = .ok (.agg cs.toArray) w)
    (h : wpList P ops Q rest (a.put op.dst (.pointer (some ⟨w.heap.size, 0, none⟩))) (w.alloc (.cells cs.toArray ty))) : wpList P ops Q (op :: rest) a w :=
  wpList_plain hgd fun _ hK => by
    unfold Oper.wp execOp
    have := hz w
    simp [ho, Instr.alloc, Instr.box, newVar, newRow, newObj, this, Value.cells]
    exact hK _ _ h
end
end Go.Proofs.YtelcnojmfkoboaaDoor
