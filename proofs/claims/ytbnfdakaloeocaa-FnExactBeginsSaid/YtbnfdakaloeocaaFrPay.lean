/- Chapter 7's Payload, of the program and of the model. -/
import Derived.Test.YtbnfdakaloeocaaFrShow

namespace Go.Proofs.Ytbnfdakaloeocaa
open Go.RowKit
set_option maxRecDepth 100000
set_option linter.unusedSimpArgs false
set_option linter.unusedVariables false
theorem ext_ext {s : ByteArray} {i j m : Nat} (h : j ≤ s.size) (hm : i + m ≤ j) : (s.extract i j).extract 0 m = s.extract i (i + m) := by
  refine bys_inj ?_
  rw [bys_extract, bys_extract, bys_extract, List.drop_zero, List.take_drop, List.take_take]
  congr 2
  omega
theorem ok_pad {k fl st : Int} {b : ByteArray} (h : okFr ⟨k, fl, st, b⟩ = true) (hk : k = 1) (hf : 2 ≤ fl) : ∃ h0 : 0 < b.size, (b[0].toNat : Int) ≤ (b.size : Int) - 1 := by
  have hh := ok_head h
  dsimp only at hh
  have hpos := hd_pad hh hk hf
  rw [okFr_mk, Bool.and_eq_true] at h
  have h2 := h.2
  unfold bodB at h2
  rw [if_pos ⟨hk, hf⟩, fst0_get (by omega)] at h2
  exact ⟨by omega, of_decide_eq_true h2⟩

end Go.Proofs.Ytbnfdakaloeocaa
