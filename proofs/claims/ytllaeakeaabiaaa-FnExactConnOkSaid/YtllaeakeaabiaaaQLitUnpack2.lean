/- Unpacked of the model: it reads, and holds what it read against its own packing. -/
import Derived.Test.YtllaeakeaabiaaaQLitUnpack
import Derived.Handy
import Derived.Test.YtllaeakeaabiaaaQG3
namespace Go.Proofs.Ytllaeakeaabiaaa
open Go.RowKit
set_option maxRecDepth 100000
set_option linter.unusedSimpArgs false
set_option linter.unusedVariables false

theorem bys_sch {l : List Int} (h : ∀ x ∈ l, 0 ≤ x ∧ x ≤ 30) : bys (strOf (l.map sch)) = l.map sch := bys_strOf (sch_range_all h)
theorem sgnL_sch {l : List Int} (h : ∀ x ∈ l, 0 ≤ x ∧ x ≤ 30) : sgnL (strOf (l.map sch)) = l := by
  unfold sgnL
  rw [bys_sch h, List.map_map]
  exact (List.map_congr_left fun x hx => sgn_sch (h x hx).1 (h x hx).2).trans (List.map_id l)
theorem okS_sch {l : List Int} (h : ∀ x ∈ l, 0 ≤ x ∧ x ≤ 30) : okS (strOf (l.map sch)) = true := by
  unfold okS
  rw [sgnL_sch h]
  exact List.all_eq_true.2 fun n hn => by simpa using (h n hn).1
theorem size_sch (l : List Int) : (strOf (l.map sch)).size = l.length := by rw [strOf_size, List.length_map]
theorem strOf_sgn {s : ByteArray} (h : okS s = true) : strOf ((sgnL s).map sch) = s := by
  refine bys_inj ?_
  rw [bys_sch (okS_range h)]
  unfold sgnL
  rw [List.map_map]
  refine (List.map_congr_left fun x hx => ?_).trans (List.map_id _)
  exact sch_sgn (by simpa using List.all_eq_true.1 h (sgn x) (List.mem_map_of_mem hx))
theorem pkV_sch {l : List Int} (h : ∀ x ∈ l, 0 ≤ x ∧ x ≤ 30) (hl : l.length ≤ 200) : pkV (strOf (l.map sch)) = (strOf (packF l 0 0), true) := by
  unfold pkV l4V
  rw [if_pos (by rw [size_sch]; exact hl), if_pos (okS_sch h), sgnL_sch h]

theorem rawF_range : ∀ (k c : Nat) (u : Int) (bs : List Int) (r : List Int × Nat × Int), rawF k c u bs = some r → 0 ≤ u → (∀ b ∈ bs, 0 ≤ b ∧ b ≤ 255) → ∀ x ∈ r.1, 0 ≤ x ∧ x ≤ 30 := by
  intro k
  induction k with
  | zero => intro c u bs r h; simp [rawF] at h
  | succ k ih =>
    intro c u bs r h h0 hb
    by_cases h5 : c < 5
    · cases bs with
      | nil => rw [rawF_end h5] at h; obtain rfl := (Option.some.inj h).symm; simp
      | cons b bs =>
        rw [rawF_more h5] at h
        have := hb b (by simp)
        exact ih _ _ _ _ h (by omega) (fun x hx => hb x (by simp [hx]))
    · by_cases hs : 31 ≤ u / tw (c - 5)
      · rw [rawF_ones h5 hs] at h
        split at h
        · obtain rfl := (Option.some.inj h).symm; simp
        · cases h
      · rw [rawF_sign h5 hs] at h
        cases hr : rawF k (c - 5) (u % tw (c - 5)) bs with
        | none => rw [hr] at h; cases h
        | some r' =>
          rw [hr] at h
          obtain rfl := (Option.some.inj h).symm
          have hp : 0 < tw (c - 5) := by unfold tw; exact Int.pow_pos (by decide)
          intro x hx
          rcases List.mem_cons.1 hx with rfl | hx
          · exact ⟨Int.ediv_nonneg h0 (by omega), by omega⟩
          · exact ih _ _ _ _ hr (Int.emod_nonneg _ (by omega)) hb x hx

/-- What ends well is what its signs are packed as. -/
theorem raw_iff {s : ByteArray} {r : List Int × Nat × Int} (h : rawV s = some r) : okUB r = true ↔ packF r.1 0 0 = bys s := by
  rw [okUB_iff]
  have := raw_pack _ _ _ _ _ h (by omega) (by omega) (by simp [tw]) (bys_range s) 0 (by omega) (by simp [hidden, tw])
  simpa [hidden, ahead] using this
theorem raw_range {s : ByteArray} {r : List Int × Nat × Int} (h : rawV s = some r) : ∀ x ∈ r.1, 0 ≤ x ∧ x ≤ 30 := rawF_range _ _ _ _ _ h (by omega) (bys_range s)
theorem rawF_some : ∀ (k c : Nat) (u : Int) (bs : List Int) (r : List Int × Nat × Int), rawF k c u bs = some r → ∀ j, k ≤ j → rawF j c u bs = some r := by
  intro k
  induction k with
  | zero => intro c u bs r h; simp [rawF] at h
  | succ k ih =>
    intro c u bs r h j hj
    obtain ⟨j, rfl⟩ : ∃ j', j = j' + 1 := ⟨j - 1, by omega⟩
    by_cases h5 : c < 5
    · cases bs with
      | nil => rw [rawF_end h5] at h ⊢; exact h
      | cons b bs => rw [rawF_more h5] at h ⊢; exact ih _ _ _ _ h _ (by omega)
    · by_cases hs : 31 ≤ u / tw (c - 5)
      · rw [rawF_ones h5 hs] at h ⊢; exact h
      · rw [rawF_sign h5 hs] at h ⊢
        cases hr : rawF k (c - 5) (u % tw (c - 5)) bs with
        | none => rw [hr] at h; cases h
        | some r' => rw [hr] at h; rw [ih _ _ _ _ hr _ (by omega)]; exact h
/-- What was packed is read. -/
theorem raw_packed {l : List Int} (h : ∀ x ∈ l, 0 ≤ x ∧ x ≤ 30) : ∃ c u, rawV (strOf (packF l 0 0)) = some (l, c, u) ∧ okUB (l, c, u) = true := by
  obtain ⟨c, u, k, hr, ho⟩ := (raw_read l 0 0 (by omega) (by omega) (by simp [tw]) h).1 rfl
  refine ⟨c, u, ?_, (okUB_iff _).2 ho⟩
  unfold rawV
  rw [bys_strOf (packF_range l 0 0 (by omega) (by omega) (by simp [tw]) h)]
  have h1 := rawF_some _ _ _ _ _ hr (max k (enF 0 (packF l 0 0))) (by omega)
  rw [← h1]
  exact rawF_enough _ _ _ _ _ (Nat.le_refl _) (by omega)

/-- What Unpacked answers, held against packing. -/
theorem unV_pack (s : ByteArray) : unV s = match rawV s with
    | some r => if r.1.length ≤ 200 ∧ packF r.1 0 0 = bys s then (strOf (r.1.map sch), true) else (⟨#[]⟩, false)
    | none => (⟨#[]⟩, false) := by
  unfold unV
  cases hr : rawV s with
  | none => simp
  | some r =>
    simp only
    by_cases hp : packF r.1 0 0 = bys s
    · have hok : okUB r = true := (raw_iff hr).2 hp
      have hlen : s.size = (5 * r.1.length + 7) / 8 := by
        rw [← bys_len, ← hp, packF_len _ _ _ (by omega)]; omega
      by_cases h125 : s.size ≤ 125
      · rw [if_pos h125, if_pos hok, if_pos ⟨by omega, hp⟩]
      · rw [if_neg h125, if_neg (by omega)]
    · have hok : okUB r = false := by
        cases e : okUB r
        · rfl
        · exact absurd ((raw_iff hr).1 e) hp
      simp [hok, hp]

/-- What the model holds at the head of its outer round: it goes on, or it has come to the end. -/
def UnAt (s : ByteArray) (k c : Nat) (z : Int) (pre : List Int) : Prop :=
  (k < s.size ∧ c < 5 ∧ 0 ≤ z ∧ z < tw c ∧ rawV s = (rawF (enF c ((bys s).drop k)) c z ((bys s).drop k)).map (fun r => (pre ++ r.1, r.2))) ∨ (k = s.size ∧ rawV s = some (pre, c, z))
theorem UnAt.end {s : ByteArray} {k c : Nat} {z : Int} {pre : List Int} (h : UnAt s k c z pre) (hk : k = s.size) : rawV s = some (pre, c, z) := by
  rcases h with ⟨h, _⟩ | ⟨_, h⟩
  · omega
  · exact h
theorem UnAt.long {s : ByteArray} {k c : Nat} {z : Int} {pre : List Int} (h : UnAt s k c z pre) (hl : 200 < pre.length) : unV s = (⟨#[]⟩, false) := by
  rw [unV_pack]
  rcases h with ⟨_, _, _, _, h⟩ | ⟨_, h⟩
  · rw [h]
    cases rawF (enF c ((bys s).drop k)) c z ((bys s).drop k) with
    | none => rfl
    | some r => simp only [Option.map_some]; rw [if_neg (by simp; omega)]
  · rw [h]; simp only; rw [if_neg (by omega)]
theorem UnAt.next {s : ByteArray} {k c : Nat} {z : Int} {pre : List Int} (hc : c < 5) (hk : k ≤ s.size) (z0 : 0 ≤ z) (z1 : z < tw c) (h : rawV s = (rawF (enF c ((bys s).drop k)) c z ((bys s).drop k)).map (fun r => (pre ++ r.1, r.2))) : UnAt s k c z pre := by
  by_cases e : k < s.size
  · exact .inl ⟨e, hc, z0, z1, h⟩
  · refine .inr ⟨by omega, ?_⟩
    rw [bys_end s k (by omega), show enF c [] = c + 1 from by simp [enF], rawF_end hc] at h
    simpa using h

end Go.Proofs.Ytllaeakeaabiaaa
