/- The program's Encoded. -/
import Derived.Test.YtllaeakeaabiaaaQBlocks4
import Derived.Deep.Cut
import Derived.Deep.DeepCutAuto
namespace Go.Proofs.Ytllaeakeaabiaaa
open Go.RowKit
set_option maxRecDepth 100000
set_option linter.unusedSimpArgs false
set_option linter.unusedVariables false

theorem encL_take {room : Int} (L l : List Fd) (k : Nat) (h : k < l.length) : (encL room L (l.take (k + 1))).1 = (encL room L (l.take k)).1 ++ (encF room (encL room L (l.take k)).2 l[k]).1 ∧ (encL room L (l.take (k + 1))).2 = (encF room (encL room L (l.take k)).2 l[k]).2 := by
  induction k generalizing L l with
  | zero =>
    cases l with
    | nil => simp at h
    | cons f l => simp [encL, ba_nil_append, ba_append_nil]
  | succ k ih =>
    cases l with
    | nil => simp at h
    | cons f l =>
      have hk : k < l.length := by simpa using h
      obtain ⟨i1, i2⟩ := ih (encF room L f).2 l hk
      simp only [List.take_succ_cons, encL, List.getElem_cons_succ]
      exact ⟨by rw [i1, ba_append_assoc], i2⟩
theorem encF_size {room : Int} {L : List Fd} (f : Fd) : (encF room L f).1.size ≤ 500 := by
  unfold encF
  split
  · have := preV_small (lookL L f).1 7 128; simp only; omega
  · have h1 := preV_small (lookL L f).1 6 64
    have h2 := litV_small f.n
    have h3 := litV_small f.v
    simp only
    rw [ba_size_append, ba_size_append]
    split
    · omega
    · have : (⟨#[]⟩ : ByteArray).size = 0 := rfl
      omega
theorem encL_size {room : Int} : ∀ (l L : List Fd), (encL room L l).1.size ≤ 500 * l.length
  | [], L => by show (⟨#[]⟩ : ByteArray).size ≤ _; simp [ByteArray.size]
  | f :: l, L => by
    have h1 := encF_size (room := room) (L := L) f
    have h2 := encL_size (room := room) l (encF room L f).2
    show ((encF room L f).1 ++ (encL room (encF room L f).2 l).1).size ≤ _
    rw [ba_size_append]
    simp
    omega

end Go.Proofs.Ytllaeakeaabiaaa
