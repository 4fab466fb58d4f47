/- Stream states in plain words: what an event makes of a state, who may speak, a row of events. -/
import Derived.Test.YtgodopiejiajjabBase
namespace Go.Proofs.Ytgodopiejiajjab
open Go.RowKit
set_option maxRecDepth 100000
set_option linter.unusedSimpArgs false
set_option linter.unusedVariables false

def nxV (s e : Int) : Int × Bool :=
  if s = 0 then (if e = 1 then (1, true) else (s, false))
  else if s = 1 then (if e = 2 then (2, true) else if e = 3 then (3, true) else if e = 6 ∨ e = 7 then (s, true) else if e = 4 ∨ e = 5 then (4, true) else (s, false))
  else if s = 2 then (if e = 3 ∨ e = 4 ∨ e = 5 then (4, true) else if e = 7 then (s, true) else (s, false))
  else if s = 3 then (if e = 2 ∨ e = 4 ∨ e = 5 then (4, true) else if e = 6 then (s, true) else (s, false))
  else if s = 4 then (if e = 4 ∨ e = 5 then (s, true) else (s, false))
  else (s, false)
def msV (s : Int) : Bool := decide (s = 1 ∨ s = 2)
def mgV (s : Int) : Bool := decide (s = 1 ∨ s = 3)
/-- A row of events, from a state on. -/
def afV : Int → List Int → Int × Bool
  | s, [] => (s, true)
  | s, e :: L => if (nxV s e).2 = true then afV (nxV s e).1 L else (s, false)
theorem nx_no {s e n : Int} (h : nxV s e = (n, false)) : n = s := by
  unfold nxV at h
  repeat' split at h
  all_goals simp at h
  all_goals omega
theorem nx_closed {e n : Int} {b : Bool} (h : nxV 4 e = (n, b)) : n = 4 := by
  unfold nxV at h
  simp at h
  split at h <;> simp at h <;> omega
theorem nx_up {s e n : Int} (h : nxV s e = (n, true)) : s ≤ n ∧ 0 ≤ s ∧ n ≤ 4 ∧ 1 ≤ n := by
  unfold nxV at h
  repeat' split at h
  all_goals simp at h
  all_goals omega
/-- Behind an end nobody speaks, and data comes only where it may. -/
theorem nx_sent_end {s n : Int} (h : nxV s 3 = (n, true)) : msV n = false := by
  unfold nxV at h
  repeat' split at h
  all_goals simp at h
  all_goals (try subst h; decide)
  all_goals omega
theorem nx_got_end {s n : Int} (h : nxV s 2 = (n, true)) : mgV n = false := by
  unfold nxV at h
  repeat' split at h
  all_goals simp at h
  all_goals (try subst h; decide)
  all_goals omega
theorem nx_sent_data {s n : Int} (h : nxV s 7 = (n, true)) : msV s = true := by
  unfold msV
  refine decide_eq_true ?_
  unfold nxV at h
  repeat' split at h
  all_goals simp at h
  all_goals omega
theorem nx_got_data {s n : Int} (h : nxV s 6 = (n, true)) : mgV s = true := by
  unfold mgV
  refine decide_eq_true ?_
  unfold nxV at h
  repeat' split at h
  all_goals simp at h
  all_goals omega
theorem af_state {s : Int} {L : List Int} (h0 : 0 ≤ s) (h1 : s ≤ 4) : 0 ≤ (afV s L).1 ∧ (afV s L).1 ≤ 4 := by
  induction L generalizing s with
  | nil => exact ⟨h0, h1⟩
  | cons e L ih =>
    unfold afV
    split
    · rename_i h
      obtain ⟨n, hn⟩ : ∃ n, nxV s e = (n, true) := ⟨(nxV s e).1, by rw [← h]⟩
      have := nx_up hn
      rw [hn]
      exact ih (by omega) (by omega)
    · exact ⟨h0, h1⟩
/-- Of a row: what is left from event k on, where the state ahead of it is s. -/
theorem af_step_yes {s n : Int} {L : List Int} {k : Nat} (hk : k < L.length) (h : nxV s L[k] = (n, true)) : afV s (L.drop k) = afV n (L.drop (k + 1)) := by
  rw [List.drop_eq_getElem_cons hk]
  show (if (nxV s L[k]).2 = true then afV (nxV s L[k]).1 (L.drop (k + 1)) else (s, false)) = _
  rw [h]
  rfl
theorem af_step_no {s n : Int} {L : List Int} {k : Nat} (hk : k < L.length) (h : nxV s L[k] = (n, false)) : afV s (L.drop k) = (s, false) := by
  rw [List.drop_eq_getElem_cons hk]
  show (if (nxV s L[k]).2 = true then afV (nxV s L[k]).1 (L.drop (k + 1)) else (s, false)) = _
  rw [h]
  rfl
theorem af_end {s : Int} {L : List Int} {k : Nat} (hk : L.length ≤ k) : afV s (L.drop k) = (s, true) := by
  rw [List.drop_eq_nil_of_le hk]; rfl
/-- The states and the events, parted. -/
theorem st_cases (s : Int) : s = 0 ∨ s = 1 ∨ s = 2 ∨ s = 3 ∨ s = 4 ∨ (s ≠ 0 ∧ s ≠ 1 ∧ s ≠ 2 ∧ s ≠ 3 ∧ s ≠ 4) := by omega
theorem ev_cases (e : Int) : e = 1 ∨ e = 2 ∨ e = 3 ∨ e = 4 ∨ e = 5 ∨ e = 6 ∨ e = 7 ∨ (e ≠ 1 ∧ e ≠ 2 ∧ e ≠ 3 ∧ e ≠ 4 ∧ e ≠ 5 ∧ e ≠ 6 ∧ e ≠ 7) := by omega
theorem nx_bad {s e : Int} (h : s ≠ 0 ∧ s ≠ 1 ∧ s ≠ 2 ∧ s ≠ 3 ∧ s ≠ 4) : nxV s e = (s, false) := by
  unfold nxV
  simp [h.1, h.2.1, h.2.2.1, h.2.2.2.1, h.2.2.2.2]
theorem nx_none {s e : Int} (h : e ≠ 1 ∧ e ≠ 2 ∧ e ≠ 3 ∧ e ≠ 4 ∧ e ≠ 5 ∧ e ≠ 6 ∧ e ≠ 7) : nxV s e = (s, false) := by
  unfold nxV
  simp [h.1, h.2.1, h.2.2.1, h.2.2.2.1, h.2.2.2.2.1, h.2.2.2.2.2.1, h.2.2.2.2.2.2]
end Go.Proofs.Ytgodopiejiajjab
