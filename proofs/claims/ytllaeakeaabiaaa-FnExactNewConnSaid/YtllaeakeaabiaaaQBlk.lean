/- Several small texts of one level, one behind the other. -/
import Derived.Test.YtllaeakeaabiaaaQBM
import Derived.Test.YtllaeakeaabiaaaQG7
import Derived.Test.YtllaeakeaabiaaaQG14
import Derived.Test.YtllaeakeaabiaaaQLitRead3
import Derived.Test.YtllaeakeaabiaaaQLL
import Derived.Test.YtllaeakeaabiaaaQG2
/- The shapes of the program's blocks: made of a Field, written, read, and what they stand for. -/
namespace Go.Proofs.Ytllaeakeaabiaaa
open Go.RowKit
set_option maxRecDepth 100000
set_option linter.unusedSimpArgs false
set_option linter.unusedVariables false

def shpFine : BShp → Prop
  | Sum.inl _ => True
  | Sum.inr (Sum.inl (_, v)) => v.size ≤ maxLen
  | Sum.inr (Sum.inr (Sum.inl (n, v))) => n.size ≤ maxLen ∧ v.size ≤ maxLen
  | Sum.inr (Sum.inr (Sum.inr _)) => True

theorem preV_small (n b h : Int) : (preV n b h).size ≤ 6 := by
  by_cases k : okP n b h = true
  · exact (law_size k).2.1
  · unfold preV; rw [if_neg k]; simp [ByteArray.size]

end Go.Proofs.Ytllaeakeaabiaaa
/- Shapes written and read; a table in memory of its own; whether a text begins with another. -/
namespace Go.Proofs.Ytllaeakeaabiaaa
open Go.RowKit
set_option maxRecDepth 100000
set_option linter.unusedSimpArgs false
set_option linter.unusedVariables false

theorem rd_upto (s : ByteArray) (b : Int) : 0 ≤ (rdV s b).2 ∧ (rdV s b).2 ≤ s.size := by
  by_cases h : 0 < (rdV s b).2
  · exact ⟨by omega, (law_written h).2.2.1⟩
  · cases hb : inB b 1 8
    · rw [rdV_bits hb]; simp
    · rcases rdV_pos (s := s) hb with e | ⟨_, _, e⟩
      · rw [e]; simp
      · rw [e] at h ⊢; simp only at h ⊢; omega
theorem rl_upto (t : ByteArray) : 0 ≤ (rlV t).2 ∧ (rlV t).2 ≤ t.size ∧ (rlV t).1.size ≤ 9223372036854775807 := by
  have h0 := rl_nonneg t
  by_cases h : 0 < (rlV t).2
  · obtain ⟨e, e1, e2, e3, e4, e5⟩ := rl_pos h; omega
  · refine ⟨h0, by omega, ?_⟩
    unfold rlV at h ⊢
    split
    · rename_i h1
      rw [if_pos h1] at h
      split
      · rename_i h2
        rw [if_pos h2] at h
        simp only at h
        rcases rd7 t with e | ⟨n, k, e, e1, e2, e3, e4⟩
        · rw [e] at h1; simp at h1
        · rw [e] at h; simp only at h; omega
      · simp [ByteArray.size]
    · simp [ByteArray.size]

end Go.Proofs.Ytllaeakeaabiaaa
/- What a shape stands for; a table in memory of its own; what a block has of a Field, and the table behind it. -/
namespace Go.Proofs.Ytllaeakeaabiaaa
open Go.RowKit
set_option maxRecDepth 100000
set_option linter.unusedSimpArgs false
set_option linter.unusedVariables false

theorem rowAt_is {room : Int} {L : List Fd} (n : Int) (h : okT room L = true) : (rowAtD room L n).1 = rowN L n := by
  unfold rowAtD rowN
  rw [if_pos h]
  split <;> rfl

end Go.Proofs.Ytllaeakeaabiaaa
