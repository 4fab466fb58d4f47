/- The ring's rows are laid out as a Table. -/
import Derived.Test.YtllaeakeaabiaaaQG9
namespace Go.Proofs.Ytllaeakeaabiaaa
open Go.RowKit
set_option maxRecDepth 100000
set_option linter.unusedSimpArgs false
set_option linter.unusedVariables false

theorem reads_one (w : World) (t : TypeId) (f : Fd) : Reads (w.alloc (.cells #[.string f.n, .string f.v] t)) (.slice (some ⟨w.heap.size, 0, none⟩) 1 1) 1 2 (fv [f]) := by
  refine ⟨rfl, some ⟨w.heap.size, 0, none⟩, 1, rfl, Nat.le_refl _, by unfold maxLen; omega, fun _ => ⟨w.heap.size, 0, rfl, by simp, fun j u hu => ?_⟩⟩
  rw [Nat.zero_add]
  exact (rowIs_new w t [.string f.n, .string f.v]).cell hu
theorem owned_on {w wr u w9 : World} {k : Nat} {xs csB csR : List Value} {e tB tR : TypeId} {v : Value}
    (ho : wr.ownsRow (w.heap.size + 2) e 2 v k xs) (hB : RowIs wr (w.heap.size + 1) tB csB) (hR : RowIs wr w.heap.size tR csR) (hb : Below wr.heap.size wr u) (hg : u.grownBy w9 v.ownBlock) : RowIs w9 (w.heap.size + 1) tB csB ∧ RowIs w9 w.heap.size tR csR ∧ Below (w.heap.size + 2) wr w9 := by
  have h1 : ∀ q, v.ownBlock = some q → w.heap.size + 2 ≤ q := fun q hq => (ho.lt q hq).1
  have hblk : ∀ q, q < w.heap.size + 2 → q < wr.heap.size → w9.heap[q]? = wr.heap[q]? := fun q hq hq2 => (hg.block q (by have := hb.size; omega) (fun e => by have := h1 q e.symm; omega)).trans (hb.block q hq2)
  refine ⟨hB.kept (hblk _ (by omega) hB.lt), hR.kept (hblk _ (by omega) hR.lt), ⟨hg.os.trans hb.os, hg.tape.trans hb.tape, hg.output.trans hb.output, Nat.le_trans hb.size hg.size, fun q hq => hblk q hq (by have := hB.lt; omega)⟩⟩

end Go.Proofs.Ytllaeakeaabiaaa
