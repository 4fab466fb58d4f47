/- One pick, in plain words: what becomes of the Cells and of the Thread; what is right stays right. -/
import Derived.Test.YtdplpkobpoiioaaCells3


namespace Go.Proofs.Ytdplpkobpoiioaa
open Go.RowKit
set_option linter.unusedSimpArgs false
set_option linter.unusedVariables false

theorem getD_get {α : Type} (L : List α) (d : α) (k : Nat) (h : k < L.length) : L.getD k d = L[k] := by simp [List.getD, h]
/-- What a Step does: the Cells, At, Seen, Won behind it; none: a number would be too great. -/
def act (C : List Int) (s : St) (p n w : Int) : Option (List Int × Int × Int × Int) :=
  if s.k = 1 then some (C, p + 1, C.getD s.c.toNat 0, w)
  else if s.k = 2 then (if n + s.a > 1000000 then none else some (C.set s.c.toNat (n + s.a), p + 1, n, w))
  else if C.getD s.c.toNat 0 = n then (if n + s.a > 1000000 ∨ w = 1000000 then none else some (C.set s.c.toNat (n + s.a), p + 1, n, w + 1))
  else some (C, p + 1, n, w)

def actTh (C : List Int) (d : DTh) : Option (List Int × DTh) :=
  if thru d then none else (act C (d.st.getD d.pos.toNat ⟨0, 0, 0⟩) d.pos d.seen d.won).map fun r => (r.1, ⟨d.st, r.2.1, r.2.2.1, r.2.2.2⟩)

def pickD (D : DMem) (i : Int) : Option DMem :=
  if rng 0 i (D.ths.length - 1) then (D.ths[i.toNat]?.bind fun d => (actTh D.cells d).map fun r => ⟨r.1, D.ths.set i.toNat r.2⟩) else none
/-- The Memory behind a pick, and was it done? -/
def pickR (D : DMem) (i : Int) : DMem × Bool := match pickD D i with
  | some E => (E, true)
  | none => (D, false)

theorem act_ok {C : List Int} {s : St} {p n w : Int} {r : List Int × Int × Int × Int} (hC : (C.length : Int) = 4) (hc : ∀ c ∈ C, 0 ≤ c ∧ c ≤ 1000000) (hs : okSt s = true) (hn : 0 ≤ n ∧ n ≤ 1000000) (hw : 0 ≤ w ∧ w ≤ 1000000) (h : act C s p n w = some r) :
    (r.1.length : Int) = 4 ∧ (∀ c ∈ r.1, 0 ≤ c ∧ c ≤ 1000000) ∧ r.2.1 = p + 1 ∧ (0 ≤ r.2.2.1 ∧ r.2.2.1 ≤ 1000000) ∧ (0 ≤ r.2.2.2 ∧ r.2.2.2 ≤ 1000000) := by
  simp only [okSt, rng, Bool.and_eq_true, decide_eq_true_eq] at hs
  have hset : ∀ v : Int, 0 ≤ v ∧ v ≤ 1000000 → ∀ c ∈ C.set s.c.toNat v, 0 ≤ c ∧ c ≤ 1000000 := fun v hv c hcm => by
    rcases List.mem_or_eq_of_mem_set hcm with h | rfl
    · exact hc c h
    · exact hv
  have hget : 0 ≤ C.getD s.c.toNat 0 ∧ C.getD s.c.toNat 0 ≤ 1000000 := by
    have hlt : s.c.toNat < C.length := by omega
    rw [getD_get _ _ _ hlt]
    exact hc _ (List.getElem_mem hlt)
  unfold act at h
  split at h
  · cases h; exact ⟨hC, hc, rfl, hget, hw⟩
  · split at h
    · split at h
      · cases h
      · cases h; exact ⟨by simpa using hC, hset _ (by omega), rfl, hn, hw⟩
    · split at h
      · split at h
        · cases h
        · cases h; exact ⟨by simpa using hC, hset _ (by omega), rfl, hn, by simp only; omega⟩
      · cases h; exact ⟨hC, hc, rfl, hn, hw⟩

theorem okM_parts {C : List Int} {T : List DTh} (h : okM ⟨C, T⟩ = true) : (C.length : Int) = 4 ∧ (T.length : Int) ≤ 6 ∧ (∀ c ∈ C, 0 ≤ c ∧ c ≤ 1000000) ∧ ∀ d ∈ T, okTh d = true := by
  simp only [okM, Bool.and_eq_true, decide_eq_true_eq, List.all_eq_true, rng] at h
  exact ⟨h.1.1.1, h.1.1.2, h.1.2, h.2⟩
theorem okM_mk {C : List Int} {T : List DTh} (h1 : (C.length : Int) = 4) (h2 : (T.length : Int) ≤ 6) (h3 : ∀ c ∈ C, 0 ≤ c ∧ c ≤ 1000000) (h4 : ∀ d ∈ T, okTh d = true) : okM ⟨C, T⟩ = true := by
  simp only [okM, Bool.and_eq_true, decide_eq_true_eq, List.all_eq_true, rng]
  exact ⟨⟨⟨h1, h2⟩, h3⟩, h4⟩

theorem actTh_ok {C : List Int} {d : DTh} {r : List Int × DTh} (hC : (C.length : Int) = 4) (hc : ∀ c ∈ C, 0 ≤ c ∧ c ≤ 1000000) (hd : okTh d = true) (h : actTh C d = some r) : (r.1.length : Int) = 4 ∧ (∀ c ∈ r.1, 0 ≤ c ∧ c ≤ 1000000) ∧ okTh r.2 = true := by
  obtain ⟨w0, w1, s0, s1, p0, p1, hl, hall⟩ := okTh_rng hd
  unfold actTh at h
  split at h
  · cases h
  · rename_i hth
    simp only [Option.map_eq_some_iff] at h
    obtain ⟨q, hq, rfl⟩ := h
    have hne : d.pos ≠ (d.st.length : Int) := fun e => hth (by simp [thru, e])
    have hlt : d.pos.toNat < d.st.length := by omega
    have hs : okSt (d.st.getD d.pos.toNat ⟨0, 0, 0⟩) = true := by
      rw [getD_get _ _ _ hlt]
      exact List.all_eq_true.1 hall _ (List.getElem_mem hlt)
    obtain ⟨a1, a2, a3, a4, a5⟩ := act_ok hC hc hs ⟨s0, s1⟩ ⟨w0, w1⟩ hq
    refine ⟨a1, a2, okTh_end hl ?_ ?_ ?_ hall⟩
    · simp only [rng, decide_eq_true_eq]; omega
    · simp only [rng, decide_eq_true_eq]; exact a4
    · simp only [rng, decide_eq_true_eq]; exact a5
theorem pickD_ok {D E : DMem} {i : Int} (hD : okM D = true) (h : pickD D i = some E) : okM E = true := by
  obtain ⟨C, T⟩ := D
  obtain ⟨h1, h2, h3, h4⟩ := okM_parts hD
  unfold pickD at h
  split at h
  · simp only [Option.bind_eq_some_iff, Option.map_eq_some_iff] at h
    obtain ⟨d, hd, r, hr, rfl⟩ := h
    obtain ⟨a1, a2, a3⟩ := actTh_ok h1 h3 (h4 d (List.mem_of_getElem? hd)) hr
    refine okM_mk a1 (by simpa using h2) a2 fun e he => ?_
    rcases List.mem_or_eq_of_mem_set he with h | rfl
    · exact h4 e h
    · exact a3
  · cases h
theorem pickR_ok {D : DMem} (hD : okM D = true) (i : Int) : okM (pickR D i).1 = true := by
  unfold pickR
  cases h : pickD D i with
  | none => exact hD
  | some E => exact pickD_ok hD h
end Go.Proofs.Ytdplpkobpoiioaa
