/- Several small texts of one level, one behind the other. -/
import Derived.Test.YtllaeakeaabiaaaQG15
import Derived.Test.YtllaeakeaabiaaaQG8
import Derived.Test.YtllaeakeaabiaaaQG7
import Derived.Test.YtllaeakeaabiaaaQG2
import Derived.Handy
import Derived.Test.YtllaeakeaabiaaaQG3
/- ReadLiteral: in plain words, and of both sides. -/
namespace Go.Proofs.Ytllaeakeaabiaaa
open Go.RowKit
set_option maxRecDepth 100000
set_option linter.unusedSimpArgs false
set_option linter.unusedVariables false

theorem rd7 (s : ByteArray) : rdV s 7 = (-1, 0) ∨ ∃ n k : Nat, rdV s 7 = ((n : Int), (k : Int)) ∧ 0 < k ∧ k ≤ 6 ∧ k ≤ s.size ∧ n ≤ 268435456 := by
  rcases rdV_pos (s := s) (b := 7) (by decide) with h | ⟨h1, h2, h3⟩
  · exact .inl h
  · by_cases hp : 0 < (rdV s 7).2
    · obtain ⟨_, hw, h4, h5⟩ := law_written hp
      have hn : 0 ≤ (rdV s 7).1 ∧ (rdV s 7).1 ≤ 268435456 := by
        cases ho : okN (rdV s 7).1 7
        · rw [wdV_no ho] at hw; omega
        · have := okN_true ho; omega
      refine .inr ⟨(rdV s 7).1.toNat, (rdV s 7).2.toNat, ?_, by omega, by omega, by omega, by omega⟩
      rw [Int.toNat_of_nonneg hn.1, Int.toNat_of_nonneg (by omega)]
    · have h0 : (ptV s 7).length = 0 := by rw [h3] at hp; simp only at hp; omega
      have := List.length_eq_zero_iff.1 h0
      rw [this] at h1
      cases h1

/-- The text that is read, ahead of the look at its literal. -/
def txV (s : ByteArray) (n k : Nat) : ByteArray := if hiV s 7 = 128 then (unV (s.extract k (k + n))).1 else s.extract k (k + n)
/-- What ReadLiteral answers. -/
def rlV (s : ByteArray) : ByteArray × Int :=
  if 0 ≤ (rdV s 7).1 ∧ (rdV s 7).1 ≤ (s.size : Int) - (rdV s 7).2 then
    (if litV (txV s (rdV s 7).1.toNat (rdV s 7).2.toNat) = s.extract 0 ((rdV s 7).2.toNat + (rdV s 7).1.toNat) then (txV s (rdV s 7).1.toNat (rdV s 7).2.toNat, (rdV s 7).2 + (rdV s 7).1) else (⟨#[]⟩, 0))
  else (⟨#[]⟩, 0)
theorem rlV_none {s : ByteArray} (h : rdV s 7 = (-1, 0)) : rlV s = (⟨#[]⟩, 0) := by unfold rlV; rw [h]; rfl
theorem rlV_at {s : ByteArray} {n k : Nat} (h : rdV s 7 = ((n : Int), (k : Int))) : rlV s = if (n : Int) ≤ (s.size : Int) - k then (if litV (txV s n k) = s.extract 0 (k + n) then (txV s n k, (k : Int) + n) else (⟨#[]⟩, 0)) else (⟨#[]⟩, 0) := by
  unfold rlV; rw [h]; simp only [Int.toNat_natCast]
  by_cases e : (n : Int) ≤ (s.size : Int) - k
  · rw [if_pos ⟨by omega, e⟩, if_pos e]
  · rw [if_neg (fun q => e q.2), if_neg e]

theorem litV_long {t : ByteArray} (h : 200 < t.size) : litV t = ⟨#[]⟩ := by simp [litV, h]
theorem lit_form {t : ByteArray} (h : t.size ≤ 200) : ∃ (m : Nat) (x : Int) (p : ByteArray), litV t = preV (m : Int) 7 x ++ p ∧ p.size = m ∧ m ≤ 200 ∧ (x = 0 ∨ x = 128) ∧ okP (m : Int) 7 x = true ∧ ((x = 128 ∧ (l4V t) = (p, true) ∧ p.size < t.size) ∨ (x = 0 ∧ p = t)) := by
  unfold litV
  rw [if_neg (by omega)]
  by_cases c : (l4V t).2 = true ∧ (l4V t).1.size < t.size
  · rw [if_pos c]
    exact ⟨(l4V t).1.size, 128, (l4V t).1, rfl, rfl, by omega, .inr rfl, okP7 (by omega) (by omega) (.inr rfl), .inl ⟨rfl, by rw [← c.1], c.2⟩⟩
  · rw [if_neg c]
    exact ⟨t.size, 0, t, rfl, rfl, h, .inl rfl, okP7 (by omega) (by omega) (.inl rfl), .inr ⟨rfl, rfl⟩⟩
/-- A literal is read off whatever it stands ahead of: its length and how many bytes tell it. -/
theorem lit_rd {t : ByteArray} (h : t.size ≤ 200) (rest : ByteArray) : ∃ m k : Nat, rdV (litV t ++ rest) 7 = ((m : Int), (k : Int)) ∧ k + m = (litV t).size ∧ 0 < k := by
  obtain ⟨m, x, p, e, hp, hm, hx, ho, _⟩ := lit_form h
  refine ⟨m, (preV (m : Int) 7 x).size, ?_, ?_, (law_size ho).1⟩
  · rw [e, ba_append_assoc]; exact law_read ho _
  · rw [e, ba_size_append, hp]
theorem lit_pos {t : ByteArray} (h : t.size ≤ 200) : 0 < (litV t).size := by
  obtain ⟨m, k, _, h1, h2⟩ := lit_rd h ⟨#[]⟩; omega

/-- If a text begins with a literal then its number and its bytes are those of that literal. -/
theorem lit_head {s t : ByteArray} {n k : Nat} (hrd : rdV s 7 = ((n : Int), (k : Int))) (ht : t.size ≤ 200) (hl : (litV t).size ≤ s.size) (he : s.extract 0 (litV t).size = litV t) : (litV t).size = k + n := by
  have hs := ba_split s _ hl
  rw [he] at hs
  obtain ⟨m, k', h1, h2, h3⟩ := lit_rd ht (s.extract (litV t).size s.size)
  rw [hs, hrd] at h1
  simp only [Prod.mk.injEq, Int.natCast_inj] at h1
  omega

theorem hi7 {s : ByteArray} (h : 0 < s.size) : hiV s 7 = 128 ∧ 128 ≤ (s[0].toNat : Int) ∨ hiV s 7 = 0 ∧ (s[0].toNat : Int) < 128 := by
  rw [hiV_yes h (by omega) (by omega)]
  have := s[0].toNat_lt
  have e : pw 7 = 128 := rfl
  rw [e]
  omega
theorem litV_empty : litV ⟨#[]⟩ = ⟨#[0]⟩ := by decide +kernel
theorem ne_zero_head {s : ByteArray} {e : Nat} (h : 0 < s.size) (h128 : 128 ≤ (s[0].toNat : Int)) (he : 0 < e) : ¬ (⟨#[0]⟩ : ByteArray) = s.extract 0 e := by
  intro q
  have := congrArg bys q
  rw [bys_extract, bys_cons h] at this
  obtain ⟨e, rfl⟩ : ∃ e', e = e' + 1 := ⟨e - 1, by omega⟩
  have h2 : (bys (⟨#[0]⟩ : ByteArray)) = [0] := rfl
  rw [h2] at this
  simp at this
  omega
end Go.Proofs.Ytllaeakeaabiaaa
/- ReadLiteral: the walks of both sides. -/
namespace Go.Proofs.Ytllaeakeaabiaaa
open Go.RowKit
set_option maxRecDepth 100000
set_option linter.unusedSimpArgs false
set_option linter.unusedVariables false

theorem unV_size (s : ByteArray) : (unV s).1.size ≤ 200 := by
  rw [unV_pack]
  cases rawV s with
  | none => exact Nat.zero_le _
  | some r =>
    simp only
    split
    · rename_i h; rw [size_sch]; exact h.1
    · exact Nat.zero_le _
theorem unV_no {s : ByteArray} (h : (unV s).2 = false) : unV s = (⟨#[]⟩, false) := by
  rw [unV_pack] at h ⊢
  cases hr : rawV s with
  | none => rfl
  | some r =>
    rw [hr] at h
    simp only at h ⊢
    split at h
    · cases h
    · rename_i q; rw [if_neg q]

end Go.Proofs.Ytllaeakeaabiaaa
