/- How many frames a text has at most. -/
import Derived.Test.YtelcnojmfkoboaaDoorFrRead0
namespace Go.Proofs.YtelcnojmfkoboaaDoor
open Go.RowKit
set_option maxRecDepth 100000
set_option linter.unusedSimpArgs false
set_option linter.unusedVariables false
theorem frm_len (n : Nat) : ∀ s : ByteArray, s.size ≤ n → (frmV s).1.length ≤ s.size := by
  induction n with
  | zero =>
    intro s h
    rw [frm_wait (by unfold stp; rw [if_pos (by omega)])]
    exact Nat.zero_le _
  | succ n ih =>
    intro s h
    rcases stp_three s with h0 | h1 | h2
    · rw [frm_wait h0]; exact Nat.zero_le _
    · rw [frm_bad h1]; exact Nat.zero_le _
    · rw [frm_good h2]
      have hr := rest_size h2
      have := ih (s.extract (stp s).2.2 s.size) (by omega)
      simp only [List.length_cons]
      omega

end Go.Proofs.YtelcnojmfkoboaaDoor
