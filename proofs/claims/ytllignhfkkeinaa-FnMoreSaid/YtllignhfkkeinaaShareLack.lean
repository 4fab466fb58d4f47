/- What lacks, the least and the greatest of a list, and what handing out leaves: the program's way of sharing in plain words. -/
import Derived.Test.YtllignhfkkeinaaShareMath
namespace Go.Proofs.Ytllignhfkkeinaa
open Go.RowKit
set_option maxRecDepth 100000
set_option linter.unusedSimpArgs false
set_option linter.unusedVariables false

def minL : List Int → Int → Int
  | [], n => n
  | x :: l, n => minL l (min n x)
theorem minL_drop {s : List Int} {k : Nat} (h : k < s.length) (n : Int) : minL (s.drop k) n = minL (s.drop (k + 1)) (min n s[k]) := by
  rw [List.drop_eq_getElem_cons h]; rfl
theorem minL_end {s : List Int} {k : Nat} (h : s.length ≤ k) (n : Int) : minL (s.drop k) n = n := by
  rw [List.drop_eq_nil_of_le h]; rfl
theorem minL_ge (c : Int) : ∀ (l : List Int) (n : Int), c ≤ minL l n ↔ c ≤ n ∧ ∀ x ∈ l, c ≤ x
  | [], n => by simp [minL]
  | x :: l, n => by
    show c ≤ minL l (min n x) ↔ _
    have e : c ≤ min n x ↔ c ≤ n ∧ c ≤ x := by omega
    rw [minL_ge c l, e, and_assoc]
    simp only [List.mem_cons, forall_eq_or_imp]
theorem maxL_le (c : Int) : ∀ (l : List Int) (n : Int), maxL l n ≤ c ↔ n ≤ c ∧ ∀ x ∈ l, x ≤ c
  | [], n => by simp [maxL]
  | x :: l, n => by
    show maxL l (if n > x then n else x) ≤ c ↔ _
    have e : (if n > x then n else x) ≤ c ↔ n ≤ c ∧ x ≤ c := by split <;> omega
    rw [maxL_le c l, e, and_assoc]
    simp only [List.mem_cons, forall_eq_or_imp]
theorem max_if (n x : Int) : max n x = if n > x then n else x := by rw [Int.max_def]; split <;> split <;> omega
theorem wants_is {L : List Int} (h0 : 0 < L.length) (hl : L.length ≤ 10) : wantsB L = (decide ((0 : Int) ≤ minL (L.drop 1) L[0]) && decide (maxL (L.drop 1) L[0] ≤ 100000)) := by
  obtain ⟨x, l, rfl⟩ : ∃ x l, L = x :: l := by
    cases L with
    | nil => simp at h0
    | cons x l => exact ⟨x, l, rfl⟩
  simp only [List.drop_succ_cons, List.drop_zero, List.getElem_cons_zero]
  unfold wantsB
  rw [decide_eq_true (show 1 ≤ (x :: l).length ∧ (x :: l).length ≤ 10 from ⟨h0, hl⟩), Bool.and_true, Bool.eq_iff_iff, List.all_eq_true, Bool.and_eq_true, decide_eq_true_eq, decide_eq_true_eq, minL_ge, maxL_le]
  simp only [inB, decide_eq_true_eq, List.mem_cons, forall_eq_or_imp]
  constructor
  · rintro ⟨⟨a, b⟩, c⟩; exact ⟨⟨a, fun y hy => (c y hy).1⟩, b, fun y hy => (c y hy).2⟩
  · rintro ⟨⟨a, c⟩, b, d⟩; exact ⟨⟨a, b⟩, fun y hy => ⟨c y hy, d y hy⟩⟩
theorem wants_len {L : List Int} (h : ¬ (1 ≤ L.length ∧ L.length ≤ 10)) : wantsB L = false := by
  unfold wantsB; rw [decide_eq_false h, Bool.and_false]

/-- What is lacking, where something is. -/
def lk : List Int → List Int → List Int
  | x :: L, s :: S => if s < x then (x - s) :: lk L S else lk L S
  | _, _ => []
theorem lk_nil (L : List Int) : lk L [] = [] := by cases L <;> rfl
theorem lk_drop {L S : List Int} {i : Nat} (h : i < L.length) (h' : i < S.length) : lk (L.drop i) (S.drop i) = if S[i] < L[i] then (L[i] - S[i]) :: lk (L.drop (i + 1)) (S.drop (i + 1)) else lk (L.drop (i + 1)) (S.drop (i + 1)) := by
  rw [List.drop_eq_getElem_cons h, List.drop_eq_getElem_cons h']; rfl
theorem lk_take : ∀ (L S : List Int) (k : Nat) (h : k < L.length) (h' : k < S.length), lk (L.take (k + 1)) (S.take (k + 1)) = lk (L.take k) (S.take k) ++ (if S[k] < L[k] then [L[k] - S[k]] else [])
  | x :: L, s :: S, 0, h, h' => by
    show lk [x] [s] = lk [] [] ++ if s < x then [x - s] else []
    simp only [lk, List.nil_append]
  | x :: L, s :: S, k + 1, h, h' => by
    have ih := lk_take L S k (by simpa using h) (by simpa using h')
    simp only [List.take_succ_cons, lk, List.getElem_cons_succ] at ih ⊢
    split
    · rw [List.cons_append, ih]
    · rw [ih]
theorem lk_len : ∀ (L S : List Int), (lk L S).length ≤ L.length
  | [], S => by simp [lk]
  | x :: L, [] => by simp [lk]
  | x :: L, s :: S => by
    have := lk_len L S
    simp only [lk]
    split <;> simp <;> omega
theorem lk_mem : ∀ (L S : List Int) (j : Nat) (h : j < L.length) (h' : j < S.length), S[j] < L[j] → L[j] - S[j] ∈ lk L S
  | x :: L, s :: S, 0, h, h', hlt => by
    simp only [List.getElem_cons_zero] at hlt ⊢
    simp only [lk, if_pos hlt]
    exact List.mem_cons_self ..
  | x :: L, s :: S, j + 1, h, h', hlt => by
    simp only [List.getElem_cons_succ] at hlt ⊢
    have := lk_mem L S j (by simpa using h) (by simpa using h') hlt
    simp only [lk]
    split
    · exact List.mem_cons_of_mem _ this
    · exact this
theorem lk_pos : ∀ (L S : List Int), ∀ x ∈ lk L S, 1 ≤ x
  | [], S => by simp [lk]
  | x :: L, [] => by simp [lk]
  | x :: L, s :: S => by
    have := lk_pos L S
    simp only [lk]
    split
    · intro y hy
      rcases List.mem_cons.1 hy with rfl | hy
      · omega
      · exact this y hy
    · exact this
/-- Where nobody lacks everybody has all. -/
theorem lk_none {L S : List Int} (hl : S.length = L.length) (hle : ∀ j (h : j < S.length) (h' : j < L.length), S[j] ≤ L[j]) (h : lk L S = []) : S = L := by
  apply List.ext_getElem hl
  intro j h1 h2
  have h3 := hle j h1 h2
  by_cases c : S[j] < L[j]
  · have := lk_mem L S j h2 h1 c
    rw [h] at this
    simp at this
  · omega
/-- Behind so many of those who are asked, one more each: handed out at once. -/
def PA (L : List Int) (q k C R : Int) (i : Nat) (T : List Int) (r : Int) : Prop :=
  T.length = L.length ∧ (∀ j (h : j < T.length) (h1 : j < (cut L (q + k) 0).length) (h2 : j < (cut L q 0).length), T[j] = if j < i then (cut L (q + k) 0)[j] else (cut L q 0)[j]) ∧ r + sumI T = C ∧ r ≤ R ∧ k * (lk (L.drop i) ((cut L q 0).drop i)).length ≤ r
/-- One each for as long as there is one. -/
def PB (L : List Int) (q C R : Int) (i : Nat) (T : List Int) (r : Int) : Prop :=
  ∃ i', i' ≤ i ∧ T = cut L q i' ∧ r + sumI T = C ∧ r ≤ R ∧ 0 ≤ r ∧ (0 < r → i' = i)
/-- What both leave at the end. -/
def PE (L : List Int) (q C R : Int) (T : List Int) (r : Int) : Prop :=
  ∃ q' i', q ≤ q' ∧ T = cut L q' i' ∧ r + sumI T = C ∧ r ≤ R ∧ 0 ≤ r ∧ (0 < r → i' = 0 ∧ q < q')
theorem PA.fin {L : List Int} {q k C R r : Int} {T : List Int} (hk : 1 ≤ k) (h : PA L q k C R L.length T r) : PE L q C R T r := by
  obtain ⟨h1, h2, h3, h4, h5⟩ := h
  have e : T = cut L (q + k) 0 := by
    apply List.ext_getElem (by rw [h1, cut_len])
    intro j a b
    rw [h2 j a b (by rw [cut_len]; omega), if_pos (by omega)]
  have h0 : 0 ≤ r := by
    have : 0 ≤ k * ((lk (L.drop L.length) ((cut L q 0).drop L.length)).length : Int) := Int.mul_nonneg (by omega) (by omega)
    omega
  exact ⟨q + k, 0, by omega, e, h3, h4, h0, fun _ => ⟨rfl, by omega⟩⟩
theorem PB.fin {L : List Int} {q C R r : Int} {T : List Int} (h : PB L q C R L.length T r) : PE L q C R T r := by
  obtain ⟨i', h1, h2, h3, h4, h5, h6⟩ := h
  by_cases c : 0 < r
  · obtain rfl := h6 c
    exact ⟨q + 1, 0, by omega, by rw [h2, cut_wrap], h3, h4, h5, fun _ => ⟨rfl, by omega⟩⟩
  · exact ⟨q, i', by omega, h2, h3, h4, h5, fun h => absurd h c⟩
theorem PA.yes {L : List Int} {q k C R r : Int} {T : List Int} {i : Nat} (hk : 1 ≤ k) (hall : ∀ j (h : j < L.length), q < L[j] → q + k ≤ L[j]) (h : PA L q k C R i T r) (hi : i < L.length) (hT : i < T.length) (hlt : T[i] < L[i]) : PA L q k C R (i + 1) (T.set i (T[i] + k)) (r - k) := by
  obtain ⟨h1, h2, h3, h4, h5⟩ := h
  have hs : i < (cut L q 0).length := by rw [cut_len]; exact hi
  have hs' : i < (cut L (q + k) 0).length := by rw [cut_len]; exact hi
  have e1 := h2 i hT hs' hs
  rw [if_neg (by omega)] at e1
  have e2 := cut_get L q 0 i hi hs
  have e3 := cut_get L (q + k) 0 i hi hs'
  have l1 : lvl q 0 i = q := by unfold lvl; rw [if_neg (by omega)]
  have l2 : lvl (q + k) 0 i = q + k := by unfold lvl; rw [if_neg (by omega)]
  rw [l1] at e2
  rw [l2] at e3
  have hq : ¬ L[i] ≤ q := fun c => by rw [if_pos c] at e2; omega
  rw [if_neg hq] at e2
  have hqk := hall i hi (by omega)
  have e3' : (cut L (q + k) 0)[i] = q + k := by rw [e3]; split <;> omega
  refine ⟨by rw [List.length_set]; exact h1, ?_, ?_, by omega, ?_⟩
  · intro j a b c
    rw [List.getElem_set]
    by_cases hij : i = j
    · subst hij
      rw [if_pos rfl, if_pos (by omega), e3']
      omega
    · rw [if_neg hij, h2 j (by simpa using a) b c]
      by_cases d : j < i
      · rw [if_pos d, if_pos (by omega)]
      · rw [if_neg d, if_neg (by omega)]
  · rw [sumI_set T i hT]; omega
  · rw [lk_drop hi hs, if_pos (by omega), List.length_cons] at h5
    have : k * ((lk (L.drop (i + 1)) ((cut L q 0).drop (i + 1))).length + 1 : Nat) = k * ((lk (L.drop (i + 1)) ((cut L q 0).drop (i + 1))).length : Int) + k := by
      rw [Int.natCast_add, Int.mul_add]; simp
    omega
theorem PA.room {L : List Int} {q k C R r : Int} {T : List Int} {i : Nat} (hk : 1 ≤ k) (h : PA L q k C R i T r) (hi : i < L.length) (hT : i < T.length) (hlt : T[i] < L[i]) : k ≤ r := by
  obtain ⟨h1, h2, h3, h4, h5⟩ := h
  have hs : i < (cut L q 0).length := by rw [cut_len]; exact hi
  have hs' : i < (cut L (q + k) 0).length := by rw [cut_len]; exact hi
  have e1 := h2 i hT hs' hs
  rw [if_neg (by omega)] at e1
  rw [lk_drop hi hs, if_pos (by omega), List.length_cons] at h5
  have : k * ((lk (L.drop (i + 1)) ((cut L q 0).drop (i + 1))).length + 1 : Nat) = k * ((lk (L.drop (i + 1)) ((cut L q 0).drop (i + 1))).length : Int) + k := by
    rw [Int.natCast_add, Int.mul_add]; simp
  have : 0 ≤ k * ((lk (L.drop (i + 1)) ((cut L q 0).drop (i + 1))).length : Int) := Int.mul_nonneg (by omega) (by omega)
  omega
theorem PA.no {L : List Int} {q k C R r : Int} {T : List Int} {i : Nat} (hk : 1 ≤ k) (h : PA L q k C R i T r) (hi : i < L.length) (hT : i < T.length) (hn : ¬ (k ≤ r ∧ T[i] < L[i])) : PA L q k C R (i + 1) T r := by
  have hn' : ¬ T[i] < L[i] := fun c => hn ⟨h.room hk hi hT c, c⟩
  obtain ⟨h1, h2, h3, h4, h5⟩ := h
  have hs : i < (cut L q 0).length := by rw [cut_len]; exact hi
  have hs' : i < (cut L (q + k) 0).length := by rw [cut_len]; exact hi
  have e1 := h2 i hT hs' hs
  rw [if_neg (by omega)] at e1
  have e2 := cut_get L q 0 i hi hs
  have e3 := cut_get L (q + k) 0 i hi hs'
  have l1 : lvl q 0 i = q := by unfold lvl; rw [if_neg (by omega)]
  have l2 : lvl (q + k) 0 i = q + k := by unfold lvl; rw [if_neg (by omega)]
  rw [l1] at e2
  rw [l2] at e3
  have hq : L[i] ≤ q := Int.not_lt.1 fun c => by rw [if_neg (by omega)] at e2; omega
  rw [if_pos hq] at e2
  rw [if_pos (by omega)] at e3
  refine ⟨h1, ?_, h3, h4, ?_⟩
  · intro j a b c
    rw [h2 j a b c]
    by_cases hij : i = j
    · subst hij
      rw [if_neg (by omega), if_pos (by omega), e2, e3]
    · by_cases d : j < i
      · rw [if_pos d, if_pos (by omega)]
      · rw [if_neg d, if_neg (by omega)]
  · rw [lk_drop hi hs, if_neg (by omega)] at h5
    exact h5
theorem PB.step {L : List Int} {q C R r : Int} {T : List Int} {i : Nat} (h : PB L q C R i T r) (hi : i < L.length) (hT : i < T.length) : ((1 ≤ r ∧ T[i] < L[i]) → PB L q C R (i + 1) (T.set i (T[i] + 1)) (r - 1)) ∧ (¬ (1 ≤ r ∧ T[i] < L[i]) → PB L q C R (i + 1) T r) := by
  obtain ⟨i', h1, rfl, h3, h4, h5, h6⟩ := h
  constructor
  · rintro ⟨hr, hlt⟩
    obtain rfl := h6 (by omega)
    have e2 := cut_get L q i' i' hi hT
    have l1 : lvl q i' i' = q := by unfold lvl; rw [if_neg (by omega)]
    rw [l1] at e2
    have hq : ¬ L[i'] ≤ q := fun c => by rw [if_pos c] at e2; omega
    rw [if_neg hq] at e2
    refine ⟨i' + 1, Nat.le_refl _, ?_, ?_, by omega, by omega, fun _ => rfl⟩
    · rw [cut_step L q i' hi, if_neg hq, e2]
    · rw [sumI_set _ i' hT]; omega
  · intro hn
    by_cases c : 0 < r
    · obtain rfl := h6 c
      have e2 := cut_get L q i' i' hi hT
      have l1 : lvl q i' i' = q := by unfold lvl; rw [if_neg (by omega)]
      rw [l1] at e2
      have hq : L[i'] ≤ q := Int.not_lt.1 fun d => by
        rw [if_neg (by omega)] at e2
        exact hn ⟨by omega, by omega⟩
      rw [if_pos hq] at e2
      have e : cut L q (i' + 1) = cut L q i' := by
        rw [cut_step L q i' hi, if_pos hq]
        apply List.ext_getElem (by simp)
        intro j h1 h2
        rw [List.getElem_set]
        split
        · rename_i hij; subst hij; exact e2.symm
        · rfl
      exact ⟨i' + 1, Nat.le_refl _, e.symm, h3, h4, h5, fun _ => rfl⟩
    · exact ⟨i', by omega, rfl, h3, h4, h5, fun d => absurd d c⟩
/-- How handing out goes, in whichever of the two ways. -/
def PH (L : List Int) (q k C R : Int) (i : Nat) (T : List Int) (r : Int) : Prop := 0 ≤ q ∧ ((k = 1 ∧ PB L q C R i T r) ∨ (1 ≤ k ∧ (∀ j (h : j < L.length), q < L[j] → q + k ≤ L[j]) ∧ PA L q k C R i T r))
theorem PH.len {L : List Int} {q k C R r : Int} {T : List Int} {i : Nat} (h : PH L q k C R i T r) : T.length = L.length := by
  rcases h with ⟨_, ⟨_, h⟩ | ⟨_, _, h⟩⟩
  · obtain ⟨i', _, rfl, _⟩ := h; exact cut_len L q i'
  · exact h.1
theorem PH.room {L : List Int} {q k C R r : Int} {T : List Int} {i : Nat} (h : PH L q k C R i T r) : 0 ≤ r ∧ r ≤ R := by
  rcases h with ⟨_, ⟨_, h⟩ | ⟨hk, _, h⟩⟩
  · obtain ⟨i', _, rfl, _, h4, h5, _⟩ := h; exact ⟨h5, h4⟩
  · obtain ⟨h1, h2, h3, h4, h5⟩ := h
    have : 0 ≤ k * ((lk (L.drop i) ((cut L q 0).drop i)).length : Int) := Int.mul_nonneg (by omega) (by omega)
    omega
theorem cut_in {L : List Int} {q : Int} {i : Nat} (hq : 0 ≤ q) (hL : ∀ j (h : j < L.length), 0 ≤ L[j] ∧ L[j] ≤ 100000) (j : Nat) (h : j < (cut L q i).length) : 0 ≤ (cut L q i)[j] ∧ (cut L q i)[j] ≤ 100000 := by
  have hj : j < L.length := by rw [cut_len] at h; exact h
  have := hL j hj
  have h2 := cut_below L q i j h hj
  refine ⟨?_, by omega⟩
  rw [cut_get L q i j hj h]
  unfold lvl
  split <;> split at * <;> omega
theorem PH.in {L : List Int} {q k C R r : Int} {T : List Int} {i : Nat} (hL : ∀ j (h : j < L.length), 0 ≤ L[j] ∧ L[j] ≤ 100000) (h : PH L q k C R i T r) (j : Nat) (hj : j < T.length) : 0 ≤ T[j] ∧ T[j] ≤ 100000 := by
  rcases h with ⟨hq, ⟨_, h⟩ | ⟨hk, _, h⟩⟩
  · obtain ⟨i', _, rfl, _, h4, h5, _⟩ := h; exact cut_in hq hL j hj
  · obtain ⟨h1, h2, _⟩ := h
    have a : j < (cut L (q + k) 0).length := by rw [cut_len]; omega
    have b : j < (cut L q 0).length := by rw [cut_len]; omega
    rw [h2 j hj a b]
    split
    · exact cut_in (by omega) hL j a
    · exact cut_in hq hL j b
theorem PH.yes {L : List Int} {q k C R r : Int} {T : List Int} {i : Nat} (h : PH L q k C R i T r) (hi : i < L.length) (hT : i < T.length) (hr : k ≤ r) (hlt : T[i] < L[i]) : PH L q k C R (i + 1) (T.set i (T[i] + k)) (r - k) := by
  rcases h with ⟨hq, ⟨rfl, h⟩ | ⟨hk, hall, h⟩⟩
  · exact ⟨hq, .inl ⟨rfl, (h.step hi hT).1 ⟨hr, hlt⟩⟩⟩
  · exact ⟨hq, .inr ⟨hk, hall, h.yes hk hall hi hT hlt⟩⟩
theorem PH.no {L : List Int} {q k C R r : Int} {T : List Int} {i : Nat} (h : PH L q k C R i T r) (hi : i < L.length) (hT : i < T.length) (hn : ¬ (k ≤ r ∧ T[i] < L[i])) : PH L q k C R (i + 1) T r := by
  rcases h with ⟨hq, ⟨rfl, h⟩ | ⟨hk, hall, h⟩⟩
  · exact ⟨hq, .inl ⟨rfl, (h.step hi hT).2 hn⟩⟩
  · exact ⟨hq, .inr ⟨hk, hall, h.no hk hi hT hn⟩⟩
theorem PH.fin {L : List Int} {q k C R r : Int} {T : List Int} (h : PH L q k C R L.length T r) : PE L q C R T r := by
  rcases h with ⟨hq, ⟨rfl, h⟩ | ⟨hk, hall, h⟩⟩
  · exact h.fin
  · exact h.fin hk
/-- How it begins. -/
theorem PH.start {L : List Int} {q R k : Int} (hq : 0 ≤ q) (hR : 0 < R) (hne : lk L (cut L q 0) ≠ []) (hk : k = max 1 (minL (lk L (cut L q 0)) (R / (lk L (cut L q 0)).length))) : PH L q k (R + sumI (cut L q 0)) R 0 (cut L q 0) R := by
  refine ⟨hq, ?_⟩
  by_cases c : k = 1
  · exact .inl ⟨c, 0, Nat.le_refl _, rfl, rfl, Int.le_refl _, by omega, fun _ => rfl⟩
  · have h1 : k = minL (lk L (cut L q 0)) (R / (lk L (cut L q 0)).length) := by omega
    have hlen : 0 < (lk L (cut L q 0)).length := List.length_pos_iff.2 hne
    obtain ⟨h2, h3⟩ := (minL_ge k _ _).1 (Int.le_of_eq h1)
    have h4 : k * (lk L (cut L q 0)).length ≤ R := Int.le_trans (Int.mul_le_mul_of_nonneg_right h2 (by omega)) (Int.ediv_mul_le R (by omega))
    refine .inr ⟨by omega, fun j hj hlt => ?_, cut_len L q 0, fun j a b d => by rw [if_neg (by omega)], rfl, Int.le_refl _, by simpa using h4⟩
    have hs : j < (cut L q 0).length := by rw [cut_len]; exact hj
    have e2 := cut_get L q 0 j hj hs
    have l1 : lvl q 0 j = q := by unfold lvl; rw [if_neg (by omega)]
    rw [l1, if_neg (by omega)] at e2
    have := h3 _ (lk_mem L (cut L q 0) j hj hs (by omega))
    omega
/-- Each round hands something out. -/
theorem PE.less {L : List Int} {q R r : Int} {T : List Int} (hR : 0 < R) (hne : lk L (cut L q 0) ≠ []) (h : PE L q (R + sumI (cut L q 0)) R T r) : r < R := by
  obtain ⟨q', i', h1, rfl, h3, h4, h5, h6⟩ := h
  apply Int.not_le.1
  intro c
  obtain rfl : r = R := by omega
  obtain ⟨rfl, hlt⟩ := h6 hR
  have e := sumI_eq (cut L q 0) (cut L q' 0) (by rw [cut_len, cut_len]) (cut_mono (.inl hlt)) (by omega)
  apply hne
  have hno : ∀ j (h : j < L.length) (h' : j < (cut L q 0).length), ¬ (cut L q 0)[j] < L[j] := fun j hj hs hc => by
    have e1 := cut_get L q 0 j hj hs
    have e2 : (cut L q 0)[j] = (cut L q' 0)[j]'(by rw [cut_len]; exact hj) := List.getElem_of_eq e _
    rw [cut_get L q' 0 j hj (by rw [cut_len]; exact hj)] at e2
    have l1 : lvl q 0 j = q := by unfold lvl; rw [if_neg (by omega)]
    have l2 : lvl q' 0 j = q' := by unfold lvl; rw [if_neg (by omega)]
    rw [l1] at e1
    rw [l2] at e2
    split at e1 <;> split at e2 <;> omega
  have : ∀ (A B : List Int), (∀ j (h : j < A.length) (h' : j < B.length), ¬ B[j] < A[j]) → lk A B = [] := fun A => by
    induction A with
    | nil => intro B _; simp [lk]
    | cons x A ih =>
      intro B h
      cases B with
      | nil => rfl
      | cons s B =>
        have h0 := h 0 (by simp) (by simp)
        simp only [List.getElem_cons_zero] at h0
        simp only [lk, if_neg h0]
        exact ih B fun j a b => by
          have := h (j + 1) (by simpa using a) (by simpa using b)
          simp only [List.getElem_cons_succ] at this
          exact this
  exact this _ _ hno
end Go.Proofs.Ytllignhfkkeinaa
