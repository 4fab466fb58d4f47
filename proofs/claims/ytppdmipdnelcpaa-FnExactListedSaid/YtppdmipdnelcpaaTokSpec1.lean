/- Chapter 14's model: times, names, the mac, a number's text. -/
import Derived.Test.YtppdmipdnelcpaaTokMath
import Derived.Test.YtppdmipdnelcpaaHeapRows
import Derived.Test.YtppdmipdnelcpaaLater
import Derived.Test.YtppdmipdnelcpaaRowIs
import Derived.Deep.Cut
import Derived.Deep.DeepCutAuto

namespace Go.Proofs.Ytppdmipdnelcpaa
open Go.RowKit
set_option maxRecDepth 100000
set_option linter.unusedSimpArgs false
set_option linter.unusedVariables false
theorem nameB_no {s : ByteArray} {k : Nat} (hk : k < s.size) (h : ¬ (97 ≤ (s[k].toNat : Int) ∧ (s[k].toNat : Int) ≤ 122)) : nameB s = false := by
  unfold nameB
  have : (bys s).all (fun b => inB b 97 122) = false := by
    refine List.all_eq_false.2 ⟨(s[k].toNat : Int), ?_, ?_⟩
    · have := bys_drop s k hk
      exact List.mem_of_mem_drop (by rw [this]; simp)
    · rw [inB_not h]; simp
  rw [this]; rfl
theorem nameB_yes {s : ByteArray} (h : ∀ j (hj : j < s.size), 97 ≤ (s[j].toNat : Int) ∧ (s[j].toNat : Int) ≤ 122) : nameB s = inB (s.size : Int) 1 20 := by
  unfold nameB
  have : (bys s).all (fun b => inB b 97 122) = true := by
    refine List.all_eq_true.2 fun x hx => ?_
    obtain ⟨j, hj, rfl⟩ := List.mem_iff_getElem.1 hx
    have hj' : j < s.size := by rw [bys_len] at hj; exact hj
    have e : (bys s)[j] = (s[j].toNat : Int) := by simp [bys]; rfl
    rw [e]
    exact inB_of (h j hj').1 (h j hj').2
  rw [this]; simp
end Go.Proofs.Ytppdmipdnelcpaa
