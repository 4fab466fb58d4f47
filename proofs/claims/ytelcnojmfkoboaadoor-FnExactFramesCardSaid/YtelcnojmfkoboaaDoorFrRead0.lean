/- The first byte of a part; an empty row of Frames. -/
import Derived.Test.YtelcnojmfkoboaaDoorFrPay
import Derived.Test.YtelcnojmfkoboaaDoorHeapRows

namespace Go.Proofs.YtelcnojmfkoboaaDoor
open Go.RowKit
set_option maxRecDepth 100000
set_option linter.unusedSimpArgs false
set_option linter.unusedVariables false
theorem fst_ext {s : ByteArray} {i : Nat} (h : i < s.size) : fst0 (s.extract i (i + 1)) = (s[i].toNat : Int) := by
  refine fst0_one ?_
  rw [bys_extract, bys_take s i h, List.drop_append_of_le_length (by rw [List.length_take, bys_len]; omega)]
  rw [List.drop_eq_nil_of_le (by rw [List.length_take]; omega)]; rfl
theorem frm_bad {s : ByteArray} (h : (stp s).1 = 1) : frmV s = ([], s, false) := by rw [frm_step, if_neg (by omega), if_pos h]
theorem frm_wait {s : ByteArray} (h : (stp s).1 = 0) : frmV s = ([], s, true) := by rw [frm_step, if_pos h]
theorem frm_good {s : ByteArray} (h : (stp s).1 = 2) : frmV s = ((stp s).2.1 :: (frmV (s.extract (stp s).2.2 s.size)).1, (frmV (s.extract (stp s).2.2 s.size)).2) := by rw [frm_step, if_neg (by omega), if_neg (by omega)]
theorem owns_empty (w : World) : (w.alloc (.cells #[] 29)).ownsRow w.heap.size 29 4 (.slice (some ⟨w.heap.size, 0, none⟩) 0 0) 0 [] :=
  ⟨rfl, .inr ⟨w.heap.size, 0, #[], rfl, Nat.le_refl _, World.alloc_heap_new w _, Nat.le_refl _, Nat.zero_le _, rfl, rfl⟩⟩
end Go.Proofs.YtelcnojmfkoboaaDoor
