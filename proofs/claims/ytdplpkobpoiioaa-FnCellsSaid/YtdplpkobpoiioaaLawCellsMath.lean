/- What FnCells says, in plain words: a pick that is done goes one Step on; of Threads that load and swap by one alone the cell grows by what is won. -/
import Derived.Test.YtdplpkobpoiioaaSpecPicked
namespace Go.Proofs.Ytdplpkobpoiioaa
open Go.RowKit
set_option linter.unusedSimpArgs false
set_option linter.unusedVariables false

theorem pickD_some {D E : DMem} {i : Int} (h : pickD D i = some E) : ∃ (k : Nat) (hk : k < D.ths.length) (C' : List Int) (d' : DTh), i = (k : Int) ∧ actTh D.cells D.ths[k] = some (C', d') ∧ E = ⟨C', D.ths.set k d'⟩ := by
  unfold pickD at h
  split at h
  · rename_i hr
    have hr2 : 0 ≤ i ∧ i ≤ (D.ths.length : Int) - 1 := by simpa [rng] using hr
    obtain ⟨k, rfl⟩ := Int.eq_ofNat_of_zero_le hr2.1
    have hk : k < D.ths.length := by omega
    rw [Int.toNat_natCast, List.getElem?_eq_getElem hk] at h
    simp only [Option.bind_some] at h
    cases ha : actTh D.cells D.ths[k] with
    | none => rw [ha] at h; cases h
    | some r =>
      rw [ha] at h
      obtain ⟨C', d'⟩ := r
      exact ⟨k, hk, C', d', rfl, ha, (Option.some.inj h).symm⟩
  · cases h
theorem actTh_some {C C' : List Int} {d d' : DTh} (h : actTh C d = some (C', d')) : d'.st = d.st ∧ ∃ p' n' w', act C (d.st.getD d.pos.toNat ⟨0, 0, 0⟩) d.pos d.seen d.won = some (C', p', n', w') ∧ d' = ⟨d.st, p', n', w'⟩ := by
  unfold actTh at h
  split at h
  · cases h
  · cases ha : act C (d.st.getD d.pos.toNat ⟨0, 0, 0⟩) d.pos d.seen d.won with
    | none => rw [ha] at h; cases h
    | some r =>
      rw [ha] at h
      obtain ⟨C1, p1, n1, w1⟩ := r
      simp only [Option.map_some, Option.some.injEq, Prod.mk.injEq] at h
      obtain ⟨rfl, rfl⟩ := h
      exact ⟨rfl, p1, n1, w1, rfl, rfl⟩
theorem act_pos {C C' : List Int} {s : St} {p n w p' n' w' : Int} (h : act C s p n w = some (C', p', n', w')) : p' = p + 1 := by
  unfold act at h
  repeat' split at h
  all_goals first | (cases h; done) | (simp only [Option.some.injEq, Prod.mk.injEq] at h; exact h.2.1.symm)
/-- A pick that is done: the Thread has gone one Step on. -/
theorem pick_on {D : DMem} {i : Int} (h : (pickR D i).2 = true) : ∃ (k : Nat) (hk : k < D.ths.length) (hk' : k < (pickR D i).1.ths.length), i = (k : Int) ∧ (pickR D i).1.ths[k].pos = D.ths[k].pos + 1 := by
  cases hp : pickD D i with
  | none => simp [pickR, hp] at h
  | some E =>
    obtain ⟨k, hk, C', d', rfl, ha, rfl⟩ := pickD_some hp
    obtain ⟨_, p', n', w', hact, rfl⟩ := actTh_some ha
    have hr : (pickR D (k : Int)).1 = ⟨C', D.ths.set k ⟨D.ths[k].st, p', n', w'⟩⟩ := by simp [pickR, hp]
    have hlen : (pickR D (k : Int)).1.ths.length = D.ths.length := by rw [hr]; simp
    refine ⟨k, hk, by omega, rfl, ?_⟩
    simp only [hr, List.getElem_set_self]
    exact act_pos hact

/-- Threads that load cell 0 and swap it by one alone, and what has been won is what it grew by. -/
def OneInv (D : DMem) : Prop := D.cells.length = 4 ∧ (∀ d ∈ D.ths, ∀ s ∈ d.st, s = ⟨1, 0, 0⟩ ∨ s = ⟨3, 0, 1⟩) ∧ D.cells.getD 0 0 = 7 + sumW D.ths
theorem sumW_set : ∀ (T : List DTh) (k : Nat) (hk : k < T.length) (d : DTh), sumW (T.set k d) = sumW T - T[k].won + d.won
  | t :: T, 0, _, d => by simp [sumW]; omega
  | t :: T, k + 1, hk, d => by
    have := sumW_set T k (by simpa using hk) d
    simp [sumW, this]; omega
theorem one_pick {D : DMem} (h : OneInv D) (hok : okM D = true) (i : Int) : OneInv (pickR D i).1 := by
  cases hp : pickD D i with
  | none => simpa [pickR, hp] using h
  | some E =>
    have hr : (pickR D i).1 = E := by simp [pickR, hp]
    rw [hr]
    obtain ⟨k, hk, C', d', rfl, ha, rfl⟩ := pickD_some hp
    obtain ⟨hst, p', n', w', hact, rfl⟩ := actTh_some ha
    obtain ⟨hC, hS, hW⟩ := h
    have hth : thru D.ths[k] = false := by
      cases e : thru D.ths[k]
      · rfl
      · simp [actTh, e] at ha
    have hokd : okTh D.ths[k] = true := (okM_parts (C := D.cells) (T := D.ths) hok).2.2.2 _ (List.getElem_mem hk)
    obtain ⟨_, _, _, _, p0, p1, _, _⟩ := okTh_rng hokd
    have hpos : D.ths[k].pos.toNat < D.ths[k].st.length := by
      have : D.ths[k].pos ≠ (D.ths[k].st.length : Int) := fun e => by simp [thru, e] at hth
      omega
    have hs := hS _ (List.getElem_mem hk) (D.ths[k].st[D.ths[k].pos.toNat]) (List.getElem_mem hpos)
    have hg : D.ths[k].st.getD D.ths[k].pos.toNat ⟨0, 0, 0⟩ = D.ths[k].st[D.ths[k].pos.toNat] := getD_get _ _ _ hpos
    rw [hg] at hact
    have hS' : ∀ d ∈ D.ths.set k ⟨D.ths[k].st, p', n', w'⟩, ∀ s ∈ d.st, s = ⟨1, 0, 0⟩ ∨ s = ⟨3, 0, 1⟩ := by
      intro d hd s hsd
      rcases List.mem_or_eq_of_mem_set hd with h1 | rfl
      · exact hS d h1 s hsd
      · exact hS _ (List.getElem_mem hk) s hsd
    rcases hs with e | e
    · rw [e] at hact
      simp only [act] at hact
      simp only [if_pos, Option.some.injEq, Prod.mk.injEq] at hact
      obtain ⟨rfl, rfl, rfl, rfl⟩ := hact
      refine ⟨hC, hS', ?_⟩
      simp only [sumW_set _ _ hk]
      rw [hW]; omega
    · rw [e] at hact
      simp only [act] at hact
      rw [if_neg (by decide), if_neg (by decide)] at hact
      simp only [Int.toNat_zero] at hact
      split at hact
      · split at hact
        · cases hact
        · rename_i he _
          simp only [Option.some.injEq, Prod.mk.injEq] at hact
          obtain ⟨rfl, rfl, rfl, rfl⟩ := hact
          refine ⟨by simpa using hC, hS', ?_⟩
          simp only [sumW_set _ _ hk]
          have hget : (D.cells.set 0 (D.ths[k].seen + 1)).getD 0 0 = D.ths[k].seen + 1 := by
            rw [getD_get _ _ _ (by simp; omega)]; simp
          rw [hget, ← he, hW]; omega
      · simp only [Option.some.injEq, Prod.mk.injEq] at hact
        obtain ⟨rfl, rfl, rfl, rfl⟩ := hact
        refine ⟨hC, hS', ?_⟩
        simp only [sumW_set _ _ hk]
        rw [hW]; omega
theorem one_fold {D : DMem} (h : OneInv D) (hok : okM D = true) (L : List Int) : OneInv (foldD D L) ∧ okM (foldD D L) = true := by
  refine ⟨?_, foldD_ok hok L⟩
  induction L generalizing D with
  | nil => exact h
  | cons i L ih => exact ih (one_pick h hok i) (pickR_ok hok i)
end Go.Proofs.Ytdplpkobpoiioaa
