/- What the laws of tokens draw: tokens, bent or not, and keys and times beside them. -/
import Derived.Test.YtppdmipdnelcpaaTokDraw
import Derived.Test.YtppdmipdnelcpaaBend2

namespace Go.Proofs.Ytppdmipdnelcpaa
open Go.RowKit
set_option maxRecDepth 100000
set_option linter.unusedSimpArgs false
set_option linter.unusedVariables false
theorem tok_size (name : ByteArray) (u : Int) (key : ByteArray) : (tokV name u key).size ≤ 40 := by
  unfold tokV
  rw [strOf_size]
  unfold tokL
  split
  · rename_i h
    have h1 := name_size h.1
    have h2 := inB_true h.2.1
    have m := macV_range key (strOf (tokB name u))
    have d1 := decL_short 7 u.toNat (by omega) (by decide)
    have d2 := decL_short 10 (macV key (strOf (tokB name u))).toNat (by omega) (by decide)
    unfold tokB
    simp only [List.length_append, List.length_cons, List.length_nil, bys_len]
    unfold tokB at d2
    omega
  · simp
end Go.Proofs.Ytppdmipdnelcpaa
