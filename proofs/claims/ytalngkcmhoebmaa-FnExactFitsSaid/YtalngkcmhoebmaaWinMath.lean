/- Windows in plain words: what is granted, used, moved, and what fits. -/
import Derived.Test.YtalngkcmhoebmaaInB
namespace Go.Proofs.Ytalngkcmhoebmaa
open Go.RowKit
set_option maxRecDepth 100000
set_option linter.unusedSimpArgs false
set_option linter.unusedVariables false

/-- Is it a window? -/
def winB (w : Int) : Bool := inB w (-16777215) 16777215
theorem winB_true {w : Int} (h : winB w = true) : -16777215 ≤ w ∧ w ≤ 16777215 := inB_true h
theorem winB_false {w : Int} (h : winB w = false) : ¬ (-16777215 ≤ w ∧ w ≤ 16777215) := inB_false h
theorem winB_of {w : Int} (h1 : -16777215 ≤ w) (h2 : w ≤ 16777215) : winB w = true := decide_eq_true ⟨h1, h2⟩
theorem inB_of {x lo hi : Int} (h1 : lo ≤ x) (h2 : x ≤ hi) : inB x lo hi = true := decide_eq_true ⟨h1, h2⟩
theorem inB_no {x lo hi : Int} (h : ¬ (lo ≤ x ∧ x ≤ hi)) : inB x lo hi = false := decide_eq_false h
def grV (w n : Int) : Int × Bool := if winB w = true ∧ inB n 1 16777215 = true ∧ w + n ≤ 16777215 then (w + n, true) else (w, false)
def usV (w n : Int) : Int × Bool := if winB w = true ∧ 0 ≤ n ∧ n ≤ w then (w - n, true) else (w, false)
def mvV (w o f : Int) : Int × Bool := if winB w = true ∧ inB o 0 16777215 = true ∧ inB f 0 16777215 = true ∧ winB (w + f - o) = true then (w + f - o, true) else (w, false)
def mnV (a b : Int) : Int := if a < b then a else b
def mxV (a b : Int) : Int := if a > b then a else b
def ftV (c s n : Int) : Int := if winB c = true ∧ winB s = true ∧ 0 ≤ n then mxV 0 (mnV n (mnV c s)) else 0
theorem gr_no {w n g : Int} (h : grV w n = (g, false)) : g = w := by unfold grV at h; split at h <;> simp at h; exact h.symm
theorem us_no {w n g : Int} (h : usV w n = (g, false)) : g = w := by unfold usV at h; split at h <;> simp at h; exact h.symm
theorem mv_no {w o f g : Int} (h : mvV w o f = (g, false)) : g = w := by unfold mvV at h; split at h <;> simp at h; exact h.symm
theorem gr_yes {w n g : Int} (h : grV w n = (g, true)) : winB w = true ∧ 1 ≤ n ∧ n ≤ 16777215 ∧ w + n ≤ 16777215 ∧ g = w + n := by
  unfold grV at h
  split at h
  · rename_i c
    simp at h
    have := inB_true c.2.1
    exact ⟨c.1, this.1, this.2, c.2.2, h.symm⟩
  · simp at h
theorem us_yes {w n g : Int} (h : usV w n = (g, true)) : winB w = true ∧ 0 ≤ n ∧ n ≤ w ∧ g = w - n := by
  unfold usV at h
  split at h
  · rename_i c; simp at h; exact ⟨c.1, c.2.1, c.2.2, h.symm⟩
  · simp at h
theorem mv_yes {w o f g : Int} (h : mvV w o f = (g, true)) : winB w = true ∧ inB o 0 16777215 = true ∧ inB f 0 16777215 = true ∧ winB (w + f - o) = true ∧ g = w + f - o := by
  unfold mvV at h
  split at h
  · rename_i c; simp at h; exact ⟨c.1, c.2.1, c.2.2.1, c.2.2.2, h.symm⟩
  · simp at h
/-- WHAT WAS GRANTED AND IS USED COMES TO NOTHING. -/
theorem law_used {w n g : Int} (h : grV w n = (g, true)) (hn : n ≤ g) : usV g n = (w, true) := by
  obtain ⟨h1, h2, h3, h4, rfl⟩ := gr_yes h
  have := winB_true h1
  unfold usV
  rw [if_pos ⟨winB_of (by omega) (by omega), by omega, hn⟩]
  congr 1; omega
theorem law_back {w o f g : Int} (h : mvV w o f = (g, true)) : mvV g f o = (w, true) := by
  obtain ⟨h1, h2, h3, h4, rfl⟩ := mv_yes h
  unfold mvV
  have e : w + f - o + o - f = w := by omega
  rw [e, if_pos ⟨h4, h3, h2, h1⟩]
/-- WHAT FITS IS USED OF BOTH WINDOWS, AND ONE MORE IS NOT. -/
theorem law_fits {c s n k : Int} (h : ftV c s n = k) (hk : k ≠ 0) : winB c = true ∧ winB s = true ∧ 0 < k ∧ k ≤ c ∧ k ≤ s ∧ k ≤ n ∧ (k = n ∨ k = c ∨ k = s) := by
  unfold ftV at h
  split at h
  · rename_i cc
    unfold mxV mnV at h
    refine ⟨cc.1, cc.2.1, ?_⟩
    have := cc.2.2
    repeat' split at h
    all_goals omega
  · exact absurd h.symm hk
theorem ft_pos (c s n : Int) : 0 ≤ ftV c s n := by
  unfold ftV
  split
  · unfold mxV; split <;> omega
  · omega
theorem ft_le (c s n : Int) : ftV c s n ≤ 16777215 := by
  unfold ftV
  split
  · rename_i cc
    have := winB_true cc.1
    unfold mxV mnV
    repeat' split
    all_goals omega
  · omega
theorem us_fits {w k : Int} (hw : winB w = true) (h0 : 0 ≤ k) (h1 : k ≤ w) : usV w k = (w - k, true) := by unfold usV; rw [if_pos ⟨hw, h0, h1⟩]
theorem us_more {w k : Int} (h : w < k) : usV w k = (w, false) := by unfold usV; rw [if_neg (by omega)]
end Go.Proofs.Ytalngkcmhoebmaa
