/- Reading what a literal is written as, whatever comes behind; and less of it is not read. -/
import Derived.Test.YtiilmbbgngpleaaLawPacked
import Derived.Handy
namespace Go.Proofs.Ytiilmbbgngpleaa
open Go.RowKit
set_option linter.unusedVariables false
set_option linter.unusedSimpArgs false

theorem hi_append (a b : ByteArray) (x : Int) (h : 0 < a.size) : hiV (a ++ b) x = hiV a x := by
  rw [hiV_list, hiV_list, bys_append]
  cases e : bys a with
  | nil => have := bys_len a; rw [e] at this; simp at this; omega
  | cons y ys => rfl

theorem rd_lit {s : ByteArray} (t : ByteArray) (h : s.size ≤ 200) : rlV (litV s ++ t) = (s, ((litV s).size : Int)) := by
  obtain ⟨m, x, p, e, hp, hm, hx, ho, hcase⟩ := lit_form h
  have hrd : rdV (litV s ++ t) 7 = ((m : Int), ((preV (m : Int) 7 x).size : Int)) := by rw [e, ba_append_assoc]; exact law_read ho _
  have hk := (law_size ho).1
  have hsz : (litV s).size = (preV (m : Int) 7 x).size + m := by rw [e, ba_size_append, hp]
  have hhi : hiV (litV s ++ t) 7 = x := by
    rw [e, ba_append_assoc, hi_append _ _ _ hk]; exact law_high ho
  have hex : (litV s ++ t).extract (preV (m : Int) 7 x).size ((preV (m : Int) 7 x).size + m) = p := by
    rw [e, ← hp]; exact ba_mid _ _ _
  have htx : txV (litV s ++ t) m (preV (m : Int) 7 x).size = s := by
    unfold txV
    rw [hhi, hex]
    rcases hcase with ⟨rfl, hl, hlt⟩ | ⟨rfl, hl⟩
    · rw [if_pos rfl]
      have hpk : pkV s = (p, true) := by rw [← hl]; simp [pkV, h]
      have := (pk_un (s := s) (by rw [hpk])).1
      rw [hpk] at this
      rw [this]
    · rw [if_neg (by decide), hl]
  rw [rlV_at hrd, htx, if_pos (by rw [ba_size_append]; omega), if_pos]
  · rw [hsz]; simp
  · rw [← hsz]; exact (ba_left _ _).symm

/-- What is read is what its literal says, and begins with it. -/
theorem rl_pos {t : ByteArray} (h : 0 < (rlV t).2) : ∃ e : Nat, (rlV t).2 = (e : Int) ∧ 0 < e ∧ e ≤ t.size ∧ litV (rlV t).1 = t.extract 0 e ∧ (rlV t).1.size ≤ 200 := by
  rcases rd7 t with hrd | ⟨n, k, hrd, hk0, hk6, hks, hn⟩
  · rw [rlV_none hrd] at h; exact absurd h (by decide)
  rw [rlV_at hrd] at h ⊢
  by_cases h1 : (n : Int) ≤ (t.size : Int) - k
  · rw [if_pos h1] at h ⊢
    by_cases h2 : litV (txV t n k) = t.extract 0 (k + n)
    · rw [if_pos h2] at h ⊢
      refine ⟨k + n, by simp, by omega, by omega, h2, ?_⟩
      by_cases q : 200 < (txV t n k).size
      · rw [litV_long q] at h2
        have := congrArg ByteArray.size h2
        rw [ba_extract_size (by omega) (by omega)] at this
        have h0 : (⟨#[]⟩ : ByteArray).size = 0 := rfl
        rw [h0] at this
        omega
      · show (txV t n k).size ≤ 200; omega
    · rw [if_neg h2] at h; exact absurd h (by decide)
  · rw [if_neg h1] at h; exact absurd h (by decide)

theorem rl_nonneg (t : ByteArray) : 0 ≤ (rlV t).2 := by
  rcases rd7 t with hrd | ⟨n, k, hrd, hk0, hk6, hks, hn⟩
  · rw [rlV_none hrd]; decide
  rw [rlV_at hrd]
  split
  · split
    · show (0 : Int) ≤ (k : Int) + n; omega
    · decide
  · decide

theorem rl_cut {s : ByteArray} (h : s.size ≤ 200) : (rlV ((litV s).extract 0 ((litV s).size - 1))).2 = 0 := by
  have hpos := lit_pos h
  obtain ⟨c, hc⟩ : ∃ c, (litV s).extract 0 ((litV s).size - 1) = c := ⟨_, rfl⟩
  rw [hc]
  have h0 := rl_nonneg c
  by_cases hp : 0 < (rlV c).2
  · exfalso
    obtain ⟨e, he, e0, e1, e2, e3⟩ := rl_pos hp
    have hcs : c.size = (litV s).size - 1 := by rw [← hc, ba_extract_size (by omega) (by omega)]; omega
    have hsplit := ba_split (litV s) ((litV s).size - 1) (by omega)
    rw [hc] at hsplit
    have hcut : (litV s).extract 0 e = c.extract 0 e := by
      refine bys_inj ?_
      rw [bys_extract, bys_extract, ← hsplit, bys_append, List.take_append_of_le_length (by rw [bys_len]; omega)]
    obtain ⟨m, k, hm, hmk, hk⟩ := lit_rd h ⟨#[]⟩
    have hemp : litV s ++ ⟨#[]⟩ = litV s := bys_inj (by rw [bys_append]; simp [bys])
    rw [hemp] at hm
    have hl : (litV (rlV c).1).size = e := by rw [e2, ba_extract_size (by omega) (by omega)]; omega
    have := lit_head (s := litV s) (t := (rlV c).1) hm e3 (by omega) (by rw [hl, hcut, e2])
    omega
  · omega

theorem lit_len {s : ByteArray} (h : s.size ≤ 200) : ((litV s).size : Int) ≤ (s.size : Int) + wdV (s.size : Int) 7 := by
  obtain ⟨m, x, p, e, hp, hm, hx, ho, hcase⟩ := lit_form h
  have hsz : (litV s).size = (preV (m : Int) 7 x).size + m := by rw [e, ba_size_append, hp]
  have hw : ∀ n : Nat, n ≤ 200 → wdV (n : Int) 7 = if n < 127 then 1 else 2 := by
    intro n hn
    have hN : okN (n : Int) 7 = true := by simp [okN]; omega
    rw [wdV_yes hN]
    have e7 : pw 7 - 1 = 127 := rfl
    rw [e7]
    unfold bytesOf
    by_cases q : (n : Int) < 127
    · rw [if_pos q, if_pos (by omega)]; rfl
    · rw [if_neg q, if_neg (by omega), restF_small (by omega)]; rfl
  have hpre : ((preV (m : Int) 7 x).size : Int) = wdV (m : Int) 7 := by
    have hrd := law_read ho ⟨#[]⟩
    have hemp : preV (m : Int) 7 x ++ ⟨#[]⟩ = preV (m : Int) 7 x := bys_inj (by rw [bys_append]; simp [bys])
    rw [hemp] at hrd
    have := (law_written (t := preV (m : Int) 7 x) (b := 7) (by rw [hrd]; have := (law_size ho).1; simpa using this)).2.1
    rw [hrd] at this
    exact this.symm
  have h1 := hw m hm
  have h2 := hw s.size h
  have hms : m ≤ s.size := by
    rcases hcase with ⟨_, _, hl⟩ | ⟨_, hl⟩
    · omega
    · rw [← hl]; omega
  rw [hsz]
  rw [h1] at hpre
  rw [h2]
  split at hpre <;> split <;> omega
theorem lit_none {s : ByteArray} (h : 200 < s.size) : litV s = ⟨#[]⟩ := litV_long h
end Go.Proofs.Ytiilmbbgngpleaa
