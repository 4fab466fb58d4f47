/- How long a mark's text is. -/
import Derived.Test.YtbikmedbmnfdbaaMarkText
namespace Go.Proofs.Ytbikmedbmnfdbaa
open Go.RowKit
set_option maxRecDepth 100000
set_option linter.unusedSimpArgs false
set_option linter.unusedVariables false
theorem mtF_size : ∀ (n k : Nat) (acc : ByteArray), (mtF n k acc).size ≤ acc.size + n
  | 0, k, acc => by simp [mtF]
  | n + 1, k, acc => by
    unfold mtF
    split
    · omega
    · have := mtF_size n (k / 10) (strOf [48 + ((k % 10 : Nat) : Int)] ++ acc)
      rw [ByteArray.size_append, strOf_size] at this
      simp only [List.length_singleton] at this
      omega
theorem mtx_size (k : Nat) : (mtx k).size ≤ k + 2 := by
  unfold mtx
  split
  · have : (⟨#[109, 48]⟩ : ByteArray).size = 2 := rfl
    omega
  · have := mtF_size k k ⟨#[]⟩
    have h0 : (⟨#[]⟩ : ByteArray).size = 0 := rfl
    have h1 : (⟨#[109]⟩ : ByteArray).size = 1 := rfl
    rw [ByteArray.size_append]
    omega
end Go.Proofs.Ytbikmedbmnfdbaa
