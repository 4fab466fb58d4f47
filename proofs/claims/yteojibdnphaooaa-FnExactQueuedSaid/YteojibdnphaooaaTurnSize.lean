/- How much a round holds, as the laws count: what is answered is small. -/
import Derived.Test.YteojibdnphaooaaTurnServed
namespace Go.Proofs.Yteojibdnphaooaa
open Go.RowKit
set_option maxRecDepth 100000
set_option linter.unusedSimpArgs false
set_option linter.unusedVariables false
theorem cnt_lines (L : List LineD) : (cntLineS L : Int) ≤ 2 * szLineS L := by
  have h : ∀ L : List LineD, (cntLs cntLine L : Int) ≤ 2 * (L.length + sumLs szLine L) := by
    intro L
    induction L with
    | nil => simp [cntLs, sumLs]
    | cons x L ih =>
      have e : (cntLine x : Int) = 2 + szLine x := by unfold cntLine cntInt64S szLine szInt64S; omega
      have := szLine_nn x
      simp only [cntLs, sumLs, List.length_cons]
      omega
  exact h L
theorem cnt_small {L : List LineD} (h1 : L.length ≤ 6) (h2 : ∀ x ∈ L, x.sz.length ≤ 31) : cntLineS L ≤ 6 * 33 := by
  have h : ∀ L : List LineD, (∀ x ∈ L, x.sz.length ≤ 31) → cntLs cntLine L ≤ L.length * 33 := by
    intro L
    induction L with
    | nil => intro _; simp [cntLs]
    | cons x L ih =>
      intro hx
      have h3 := ih (fun y hy => hx y (by simp [hy]))
      have h4 := hx x (by simp)
      have e : cntLine x = 2 + x.sz.length := by unfold cntLine cntInt64S; omega
      simp only [cntLs, List.length_cons]
      omega
  have := h L h2
  show cntLs cntLine L ≤ _
  omega
theorem okRn_small {r : RoundD} (h : okRn r = true) : cntLineS r.ls ≤ 198 := by
  obtain ⟨⟨_, h1⟩, _, h3⟩ := okRn_iff.1 h
  exact cnt_small h1 (fun x hx => by have := (okLn_iff.1 (h3 x hx)).2.2.1; omega)
theorem served_small (d : RoundD) : cntLineS (servedD d).1.ls ≤ 198 := by
  unfold servedD
  split
  · rename_i h
    by_cases hw : waitLs d.ls = 0
    · unfold serveRaw; rw [if_pos hw]; exact okRn_small h
    · obtain ⟨y, k, n, e, hr⟩ := serve_some h hw
      unfold servedD at e
      rw [if_pos h] at e
      rw [e]; exact okRn_small hr.ok
  · decide
theorem queued_small (d : RoundD) (line size : Int) : cntLineS (queuedD d line size).1.ls ≤ 198 := by
  unfold queuedD
  split
  · decide
  · rename_i h
    have hok : okRn d = true := by simpa using h
    split
    · obtain ⟨⟨_, h1⟩, _, h3⟩ := okRn_iff.1 hok
      rename_i hc
      refine cnt_small (by simpa using h1) (fun x hx => ?_)
      rcases List.mem_or_eq_of_mem_set hx with h | rfl
      · have := (okLn_iff.1 (h3 x h)).2.2.1; omega
      · have hl : line.toNat < d.ls.length := by omega
        have := (okLn_iff.1 (ln_ok hok hl)).2.2.1
        simp only [List.length_append, List.length_cons, List.length_nil]
        show (ln d.ls line.toNat).sz.length + 1 ≤ 31
        omega
    · exact okRn_small hok
end Go.Proofs.Yteojibdnphaooaa
