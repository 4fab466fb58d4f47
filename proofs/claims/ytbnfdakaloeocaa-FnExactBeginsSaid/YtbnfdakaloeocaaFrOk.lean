/- Chapter 7's FrameOk, of the program and of the model. -/
import Derived.Test.YtbnfdakaloeocaaFrHead

namespace Go.Proofs.Ytbnfdakaloeocaa
open Go.RowKit
set_option maxRecDepth 100000
set_option linter.unusedSimpArgs false
set_option linter.unusedVariables false
def bodB (k fl : Int) (b : ByteArray) : Bool := if k = 1 ∧ 2 ≤ fl then decide (fst0 b ≤ (b.size : Int) - 1) else if k = 7 then !(b.toList == (⟨#[0, 0, 0]⟩ : ByteArray).toList) else true
theorem okFr_eq (f : Fr) : okFr f = (hdOk f.k f.fl f.st f.b.size && bodB f.k f.fl f.b) := rfl
theorem okFr_mk (k fl st : Int) (b : ByteArray) : okFr ⟨k, fl, st, b⟩ = (hdOk k fl st b.size && bodB k fl b) := rfl
theorem fst0_get {s : ByteArray} (h : 0 < s.size) : fst0 s = (s[0].toNat : Int) := by
  unfold fst0; rw [bys_cons h]
theorem zero3 {b : ByteArray} (h : b.size = 3) : (numV b = 0) ↔ b = ⟨#[0, 0, 0]⟩ := by
  constructor
  · intro e
    have := law_byt (s := b) (by omega)
    rw [h, e] at this
    rw [← this]; rfl
  · intro e; rw [e]; rfl
theorem tl000 : (⟨#[0, 0, 0]⟩ : ByteArray).toList = [0, 0, 0] := by rw [ByteArray.toList_eq]
theorem hd_pad {k fl st n : Int} (h : hdOk k fl st n = true) (hk : k = 1) (hf : 2 ≤ fl) : 0 < n := by
  have := hd_parts h
  subst hk
  unfold hdOk at h
  split at h
  · cases h
  · simp at h; omega
theorem hd_win {st fl n : Int} (h : hdOk 7 fl st n = true) : n = 3 := by
  unfold hdOk at h
  split at h
  · cases h
  · simp at h; omega

end Go.Proofs.Ytbnfdakaloeocaa
