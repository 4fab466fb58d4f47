/- A row that make made. -/
import Derived.Test.YtelcnojmfkoboaaDoorHeapRows
import Derived.WalkKit
import Derived.ProofKit
import Derived.OpenShut
import Derived.Lib.SmallJoins
import Derived.Handy
namespace Go.Proofs.YtelcnojmfkoboaaDoor
open Go.RowKit
set_option maxRecDepth 100000
set_option linter.unusedSimpArgs false
set_option linter.unusedVariables false

theorem make_row (t e : TypeId) (z : Value) (size bytes : Nat) (hu : Tryd.prog.underlying t = some (.slice e)) (hinf : ((Tryd.prog.info? e).map fun i => (i.zero, i.size, i.bytes)) = some (some z, size, bytes)) (hzs : z.cells.size = size) (hs : 0 < size) (hby : bytes ≤ 1000) (R : Nat) (h : R ≤ 1048576) :
    ∃ M : Array Value, M.size = R * size ∧ ∀ X : World, (Instr.makeSlice t (.int .i64 (R : Int)) (.int .i64 (R : Int))).run Tryd.prog X = .ok (.slice (some ⟨X.heap.size, 0, none⟩) R R) (X.alloc (.cells M e)) := by
  obtain ⟨i0, hi, hz0, hz1, hz2⟩ := info_parts (P := Tryd.prog) (e := e) (z := z) (size := size) (bytes := bytes) hinf
  refine ⟨madeCells z.cells (R * size), by rw [size_madeCells], fun X => ?_⟩
  have hb : R * bytes ≤ 1048576 * 1000 := Nat.mul_le_mul h hby
  have hb' : bytes * R ≤ 1048576 * 1000 := by rw [Nat.mul_comm]; exact hb
  have h := run_make (P := Tryd.prog) X t e i0 z hu hi hz0 .i64 .i64 (R : Int) (R : Int) (by omega) (by omega) (by rw [hz2]; first | omega | (rw [Nat.mul_comm]; omega)) (by omega)
  rw [hz1] at h
  simpa using h
theorem owns_made (w : World) (M : Array Value) (e : TypeId) (size R : Nat) (h : M.size = R * size) (hR : R ≤ 1048576) : (w.alloc (.cells M e)).ownsRow w.heap.size e size (.slice (some ⟨w.heap.size, 0, none⟩) R R) R M.toList :=
  ⟨by simp [h], .inr ⟨w.heap.size, R, M, rfl, Nat.le_refl _, heap_alloc_new w _, Nat.le_refl _, by unfold maxLen; omega, h, by rw [← h, ← Array.length_toList, List.take_length]⟩⟩
end Go.Proofs.YtelcnojmfkoboaaDoor
