/- Shares in plain words: what each has behind so many rounds, that there is one such list of each sum, and what the laws say of it. -/
import Derived.Test.YtllignhfkkeinaaBase
import Derived.Test.YtllignhfkkeinaaInB
namespace Go.Proofs.Ytllignhfkkeinaa
open Go.RowKit
set_option maxRecDepth 100000
set_option linter.unusedSimpArgs false
set_option linter.unusedVariables false

def sumI : List Int → Int
  | [] => 0
  | x :: l => x + sumI l
theorem sumI_set : ∀ (l : List Int) (i : Nat) (h : i < l.length) (x : Int), sumI (l.set i x) = sumI l - l[i] + x
  | y :: l, 0, h, x => by show x + sumI l = y + sumI l - y + x; omega
  | y :: l, i + 1, h, x => by
    have h' : i < l.length := by simpa using h
    have := sumI_set l i h' x
    show y + sumI (l.set i x) = y + sumI l - l[i] + x
    omega
theorem sumI_le : ∀ (A B : List Int), A.length = B.length → (∀ j (h : j < A.length) (h' : j < B.length), A[j] ≤ B[j]) → sumI A ≤ sumI B
  | [], [], _, _ => Int.le_refl _
  | a :: A, b :: B, hl, h => by
    have h0 := h 0 (by simp) (by simp)
    have := sumI_le A B (by simpa using hl) (fun j h1 h2 => h (j + 1) (by simpa using h1) (by simpa using h2))
    simp at h0
    show a + sumI A ≤ b + sumI B
    omega
theorem sumI_eq : ∀ (A B : List Int), A.length = B.length → (∀ j (h : j < A.length) (h' : j < B.length), A[j] ≤ B[j]) → sumI B ≤ sumI A → A = B
  | [], [], _, _, _ => rfl
  | a :: A, b :: B, hl, h, hs => by
    have h0 := h 0 (by simp) (by simp)
    have h1 : ∀ j (h : j < A.length) (h' : j < B.length), A[j] ≤ B[j] := fun j h1 h2 => h (j + 1) (by simpa using h1) (by simpa using h2)
    have hle := sumI_le A B (by simpa using hl) h1
    simp at h0
    change b + sumI B ≤ a + sumI A at hs
    have e : a = b := by omega
    rw [e, sumI_eq A B (by simpa using hl) h1 (by omega)]
/-- Of two lists of one sum: where one has more, the other has more elsewhere. -/
theorem sumI_other (A B : List Int) (hl : A.length = B.length) (hs : sumI A ≤ sumI B) (i : Nat) (h : i < A.length) (h' : i < B.length) (hlt : B[i] < A[i]) : ∃ k, ∃ (h1 : k < A.length) (h2 : k < B.length), A[k] < B[k] := by
  apply Classical.byContradiction
  intro hn
  have hle : ∀ j (h : j < B.length) (h' : j < A.length), B[j] ≤ A[j] := fun j h1 h2 => by
    apply Int.not_lt.1
    intro c
    exact hn ⟨j, h2, h1, c⟩
  have e := sumI_eq B A hl.symm hle hs
  subst e
  omega
/-- What each has: q rounds, and the first i of one more. -/
def lvl (q : Int) (i j : Nat) : Int := if j < i then q + 1 else q
def cut (L : List Int) (q : Int) (i : Nat) : List Int := L.mapIdx fun j w => if w ≤ lvl q i j then w else lvl q i j
theorem cut_len (L : List Int) (q : Int) (i : Nat) : (cut L q i).length = L.length := by unfold cut; simp
theorem cut_get (L : List Int) (q : Int) (i : Nat) (j : Nat) (h : j < L.length) (h' : j < (cut L q i).length) : (cut L q i)[j] = if L[j] ≤ lvl q i j then L[j] else lvl q i j := by simp [cut]
theorem cut_step (L : List Int) (q : Int) (i : Nat) (h : i < L.length) : cut L q (i + 1) = (cut L q i).set i (if L[i] ≤ q then L[i] else q + 1) := by
  apply List.ext_getElem
  · simp [cut_len]
  · intro j h1 h2
    have hj : j < L.length := by rw [cut_len] at h1; exact h1
    rw [cut_get L q (i + 1) j hj, List.getElem_set]
    by_cases e : i = j
    · subst e
      have e1 : lvl q (i + 1) i = q + 1 := by unfold lvl; rw [if_pos (by omega)]
      rw [if_pos rfl, e1]
      by_cases c : L[i] ≤ q
      · rw [if_pos c, if_pos (by omega)]
      · rw [if_neg c]
        split <;> omega
    · rw [if_neg e, cut_get L q i j hj (by rw [cut_len]; exact hj)]
      have : lvl q (i + 1) j = lvl q i j := by unfold lvl; split <;> split <;> omega
      rw [this]
theorem cut_wrap (L : List Int) (q : Int) : cut L q L.length = cut L (q + 1) 0 := by
  apply List.ext_getElem
  · simp [cut_len]
  · intro j h1 h2
    have hj : j < L.length := by rw [cut_len] at h1; exact h1
    rw [cut_get L q _ j hj, cut_get L (q + 1) 0 j hj]
    have : lvl q L.length j = lvl (q + 1) 0 j := by unfold lvl; rw [if_pos hj, if_neg (by omega)]
    rw [this]
theorem cut_mono {L : List Int} {q q' : Int} {i i' : Nat} (h : q < q' ∨ (q = q' ∧ i ≤ i')) (j : Nat) (h1 : j < (cut L q i).length) (h2 : j < (cut L q' i').length) : (cut L q i)[j] ≤ (cut L q' i')[j] := by
  have hj : j < L.length := by rw [cut_len] at h1; exact h1
  rw [cut_get L q i j hj, cut_get L q' i' j hj]
  have : lvl q i j ≤ lvl q' i' j := by
    unfold lvl
    rcases h with h | ⟨rfl, h⟩ <;> split <;> split <;> omega
  split <;> split <;> omega
theorem cut_total {L : List Int} {q q' : Int} {i i' : Nat} : (∀ j (h1 : j < (cut L q i).length) (h2 : j < (cut L q' i').length), (cut L q i)[j] ≤ (cut L q' i')[j]) ∨ (∀ j (h1 : j < (cut L q' i').length) (h2 : j < (cut L q i).length), (cut L q' i')[j] ≤ (cut L q i)[j]) := by
  by_cases h : q < q' ∨ (q = q' ∧ i ≤ i')
  · exact .inl (cut_mono h)
  · exact .inr (cut_mono (by omega))
theorem cut_below (L : List Int) (q : Int) (i : Nat) (j : Nat) (h : j < (cut L q i).length) (h' : j < L.length) : (cut L q i)[j] ≤ L[j] := by
  rw [cut_get L q i j h' h]; split <;> omega
theorem cut_sum_le (L : List Int) (q : Int) (i : Nat) : sumI (cut L q i) ≤ sumI L := sumI_le _ _ (cut_len L q i) (cut_below L q i)
/-- Who has not what it wants has the round's level. -/
theorem cut_at {L : List Int} {q : Int} {i j : Nat} (h : j < L.length) (h' : j < (cut L q i).length) (hlt : (cut L q i)[j] < L[j]) : q ≤ (cut L q i)[j] := by
  rw [cut_get L q i j h h'] at hlt ⊢
  unfold lvl at hlt ⊢
  split at hlt <;> split <;> (try split) <;> (try split at hlt) <;> omega
theorem cut_top {L : List Int} {q : Int} {i j : Nat} (h : j < L.length) (h' : j < (cut L q i).length) : (cut L q i)[j] ≤ q + 1 := by
  rw [cut_get L q i j h h']
  unfold lvl
  split <;> split at * <;> omega
theorem cut_all {L : List Int} {q : Int} {i : Nat} (h : ∀ j (hj : j < L.length), L[j] ≤ q) : cut L q i = L := by
  apply List.ext_getElem (cut_len L q i)
  intro j h1 h2
  rw [cut_get L q i j h2 h1]
  have := h j h2
  rw [if_pos (by unfold lvl; split <;> omega)]
def IsSh (L : List Int) (room : Int) (s : List Int) : Prop := ∃ q i, 0 ≤ q ∧ s = cut L q i ∧ sumI s = (if room ≤ sumI L then room else sumI L)
theorem IsSh.len {L : List Int} {room : Int} {s : List Int} (h : IsSh L room s) : s.length = L.length := by obtain ⟨q, i, _, rfl, _⟩ := h; exact cut_len L q i
theorem IsSh.one {L : List Int} {room : Int} {s s' : List Int} (h : IsSh L room s) (h' : IsSh L room s') : s = s' := by
  obtain ⟨q, i, _, rfl, e⟩ := h
  obtain ⟨q', i', _, rfl, e'⟩ := h'
  have hl : (cut L q i).length = (cut L q' i').length := by rw [cut_len, cut_len]
  rcases cut_total (L := L) (q := q) (q' := q') (i := i) (i' := i') with h | h
  · exact sumI_eq _ _ hl h (by omega)
  · exact (sumI_eq _ _ hl.symm h (by omega)).symm
theorem IsSh.pos {L : List Int} {room : Int} {s : List Int} (h : IsSh L room s) (hL : ∀ j (hj : j < L.length), 0 ≤ L[j]) (j : Nat) (hj : j < s.length) (hj' : j < L.length) : 0 ≤ s[j] ∧ s[j] ≤ L[j] := by
  obtain ⟨q, i, hq, rfl, _⟩ := h
  refine ⟨?_, cut_below L q i j hj hj'⟩
  rw [cut_get L q i j hj' hj]
  have := hL j hj'
  unfold lvl
  split <;> split at * <;> omega
theorem IsSh.even {L : List Int} {room : Int} {s : List Int} (h : IsSh L room s) (i k : Nat) (hi : i < s.length) (hk : k < s.length) (hi' : i < L.length) (hlt : s[i] < L[i]) : s[k] - 1 ≤ s[i] := by
  obtain ⟨q, i0, hq, rfl, _⟩ := h
  have h1 := cut_at hi' hi hlt
  have h2 := cut_top (L := L) (q := q) (i := i0) (j := k) (by rw [cut_len] at hk; exact hk) hk
  omega
/-- No even ones that give as much give one more than one more or less. -/
theorem IsSh.near {L b s : List Int} (h : IsSh L (sumI b) s) (hbl : b.length = L.length) (hb : ∀ j (hj : j < b.length) (hj' : j < L.length), b[j] ≤ L[j]) (hev : ∀ i k (hi : i < b.length) (hk : k < b.length) (hi' : i < L.length), b[i] < L[i] → b[k] - 1 ≤ b[i])
    (i : Nat) (hi : i < s.length) (hi' : i < b.length) : s[i] - b[i] ≤ 1 ∧ b[i] - s[i] ≤ 1 := by
  have hsl := h.len
  have hle := sumI_le b L hbl hb
  obtain ⟨q, i0, hq, rfl, hs⟩ := h
  rw [if_pos hle] at hs
  have hiL : i < L.length := by rw [← hbl]; exact hi'
  constructor
  · apply Int.not_lt.1
    intro c
    obtain ⟨k, hk1, hk2, hk⟩ := sumI_other (cut L q i0) b (by omega) (by omega) i hi hi' (by omega)
    have hkL : k < L.length := by omega
    have e1 := hb k hk2 hkL
    have e2 := cut_at hkL hk1 (by omega)
    have e3 := cut_top (q := q) (i := i0) hiL hi
    have e4 := cut_below L q i0 i hi hiL
    have e5 := hev i k hi' hk2 hiL (by omega)
    omega
  · apply Int.not_lt.1
    intro c
    obtain ⟨k, hk1, hk2, hk⟩ := sumI_other b (cut L q i0) (by omega) (by omega) i hi' hi (by omega)
    have hkL : k < L.length := by omega
    have e1 := hb i hi' hiL
    have e2 := cut_at hiL hi (by omega)
    have e3 := cut_top (q := q) (i := i0) hkL hk2
    have e4 := cut_below L q i0 k hk2 hkL
    have e5 := hev k i hk1 hi' hkL (by omega)
    omega
/-- With more room nobody has less. -/
theorem IsSh.more {L s s' : List Int} {room room' : Int} (h : IsSh L room s) (h' : IsSh L room' s') (hr : room ≤ room') (j : Nat) (hj : j < s.length) (hj' : j < s'.length) : s[j] ≤ s'[j] := by
  obtain ⟨q, i, _, rfl, e⟩ := h
  obtain ⟨q', i', _, rfl, e'⟩ := h'
  have hl : (cut L q i).length = (cut L q' i').length := by rw [cut_len, cut_len]
  rcases cut_total (L := L) (q := q) (q' := q') (i := i) (i' := i') with h | h
  · exact h j hj hj'
  · have hle : sumI (cut L q i) ≤ sumI (cut L q' i') := by rw [e, e']; split <;> split <;> omega
    have := sumI_eq _ _ hl.symm h hle
    rw [List.getElem_of_eq this]
    exact Int.le_refl _
/-- Who wants more has no less for it, and nobody else has more. -/
theorem IsSh.grown {L s x : List Int} {room : Int} {k : Nat} (hk : k < L.length) (h : IsSh L room s) (h' : IsSh (L.set k (L[k] + 1)) room x) (j : Nat) (hj : j < s.length) (hj' : j < x.length) : (j = k → s[j] ≤ x[j]) ∧ (j ≠ k → x[j] ≤ s[j]) := by
  have hsl := h.len
  have hxl := h'.len
  simp at hxl
  have hv : sumI (L.set k (L[k] + 1)) = sumI L + 1 := by rw [sumI_set L k hk]; omega
  obtain ⟨q, i, _, rfl, e⟩ := h
  obtain ⟨q', i', _, rfl, e'⟩ := h'
  rw [hv] at e'
  have hle : sumI (cut L q i) ≤ sumI (cut (L.set k (L[k] + 1)) q' i') := by rw [e, e']; split <;> split <;> omega
  have hvj : ∀ p (hp : p < L.length), (L.set k (L[k] + 1))[p]'(by simpa using hp) = if k = p then L[k] + 1 else L[p] := fun p hp => List.getElem_set (by simpa using hp)
  have gx : ∀ p (hp : p < L.length) (hp' : p < (cut (L.set k (L[k] + 1)) q' i').length), (cut (L.set k (L[k] + 1)) q' i')[p] = if (if k = p then L[k] + 1 else L[p]) ≤ lvl q' i' p then (if k = p then L[k] + 1 else L[p]) else lvl q' i' p := fun p hp hp' => by
    rw [cut_get _ q' i' p (by simpa using hp) hp', hvj p hp]
  by_cases hord : q < q' ∨ (q = q' ∧ i < i')
  · have hlv : ∀ p, lvl q i p ≤ lvl q' i' p := fun p => by
      unfold lvl
      rcases hord with h | ⟨rfl, h⟩ <;> split <;> split <;> omega
    have hall : ∀ p (h1 : p < (cut L q i).length) (h2 : p < (cut (L.set k (L[k] + 1)) q' i').length), (cut L q i)[p] ≤ (cut (L.set k (L[k] + 1)) q' i')[p] := fun p h1 h2 => by
      have hp : p < L.length := by omega
      rw [gx p hp h2, cut_get L q i p hp h1]
      have := hlv p
      by_cases hkp : k = p
      · subst hkp
        rw [if_pos rfl]
        split <;> split <;> omega
      · rw [if_neg hkp]
        split <;> split <;> omega
    refine ⟨fun _ => hall j hj hj', fun hne => ?_⟩
    by_cases hr : room ≤ sumI L
    · have e2 := sumI_eq _ _ (by omega) hall (by rw [e, e', if_pos hr, if_pos (by omega)]; exact Int.le_refl _)
      rw [List.getElem_of_eq e2]
      exact Int.le_refl _
    · have e2 := sumI_eq (cut L q i) L (cut_len L q i) (cut_below L q i) (by rw [e, if_neg hr]; exact Int.le_refl _)
      have hjL : j < L.length := by omega
      have e3 := cut_below (L.set k (L[k] + 1)) q' i' j hj' (by simpa using hjL)
      rw [hvj j hjL, if_neg (fun c => hne c.symm)] at e3
      rw [List.getElem_of_eq e2]
      exact e3
  · have hlv : ∀ p, lvl q' i' p ≤ lvl q i p := fun p => by
      unfold lvl
      by_cases c : q' < q
      · split <;> split <;> omega
      · obtain ⟨rfl, c2⟩ : q = q' ∧ i' ≤ i := by omega
        split <;> split <;> omega
    have hoth : ∀ p (hp : p < L.length) (h1 : p < (cut L q i).length) (h2 : p < (cut (L.set k (L[k] + 1)) q' i').length), p ≠ k → (cut (L.set k (L[k] + 1)) q' i')[p] ≤ (cut L q i)[p] := fun p hp h1 h2 hne => by
      have hkp : ¬ k = p := fun c => hne c.symm
      rw [gx p hp h2, cut_get L q i p hp h1, if_neg hkp]
      have := hlv p
      split <;> split <;> omega
    refine ⟨fun hjk => ?_, fun hne => hoth j (by omega) hj hj' hne⟩
    subst hjk
    apply Int.not_lt.1
    intro c
    have hall : ∀ p (h1 : p < (cut (L.set j (L[j] + 1)) q' i').length) (h2 : p < (cut L q i).length), (cut (L.set j (L[j] + 1)) q' i')[p] ≤ (cut L q i)[p] := fun p h1 h2 => by
      by_cases hp : p = j
      · subst hp
        omega
      · exact hoth p (by omega) h2 h1 hp
    have e2 := sumI_eq _ _ (by omega) hall hle
    rw [List.getElem_of_eq e2] at c
    omega
/-- Are they wants, is it room? -/
def wantsB (L : List Int) : Bool := L.all (fun x => inB x 0 100000) && decide (1 ≤ L.length ∧ L.length ≤ 10)
def shOk (L : List Int) (room : Int) : Bool := wantsB L && inB room 0 1000000
def ShR (L : List Int) (room : Int) (s : List Int) : Prop := if shOk L room = true then IsSh L room s else s = []
theorem ShR.one {L : List Int} {room : Int} {s s' : List Int} (h : ShR L room s) (h' : ShR L room s') : s = s' := by
  unfold ShR at h h'
  by_cases c : shOk L room = true
  · rw [if_pos c] at h h'; exact h.one h'
  · rw [if_neg c] at h h'; rw [h, h']
theorem wantsB_get {L : List Int} (h : wantsB L = true) (j : Nat) (hj : j < L.length) : 0 ≤ L[j] ∧ L[j] ≤ 100000 := by
  unfold wantsB at h
  rw [Bool.and_eq_true, List.all_eq_true] at h
  exact inB_true (h.1 _ (List.getElem_mem hj))
theorem wantsB_len {L : List Int} (h : wantsB L = true) : 1 ≤ L.length ∧ L.length ≤ 10 := by
  unfold wantsB at h
  rw [Bool.and_eq_true] at h
  exact of_decide_eq_true h.2
/-- The greatest. -/
def maxL : List Int → Int → Int
  | [], n => n
  | x :: l, n => maxL l (if n > x then n else x)
/-- Are the shares even? -/
def evV (L s : List Int) : Bool := decide (L.length = s.length ∧ ∀ i (h : i < L.length) (h' : i < s.length), 0 ≤ s[i] ∧ s[i] ≤ L[i] ∧ ∀ k (hk : k < s.length), s[i] < L[i] → s[k] - 1 ≤ s[i])
theorem evV_sh {L s : List Int} {room : Int} (hL : wantsB L = true) (h : IsSh L room s) : evV L s = true := by
  refine decide_eq_true ⟨h.len.symm, fun i hi hi' => ?_⟩
  obtain ⟨h1, h2⟩ := h.pos (fun j hj => (wantsB_get hL j hj).1) i hi' hi
  exact ⟨h1, h2, fun k hk hlt => h.even i k hi' hk hi hlt⟩
def inR (L : List Int) : Prop := ∀ j (hj : j < L.length), -9223372036854775808 ≤ L[j] ∧ L[j] ≤ 9223372036854775807
theorem ev_len {L s : List Int} (h : L.length ≠ s.length) : evV L s = false := decide_eq_false fun c => h c.1
theorem ev_range {L s : List Int} {i : Nat} (h : i < L.length) (h' : i < s.length) (hn : ¬ (0 ≤ s[i] ∧ s[i] ≤ L[i])) : evV L s = false := decide_eq_false fun c => hn ⟨(c.2 i h h').1, (c.2 i h h').2.1⟩
theorem ev_pair {L s : List Int} {i k : Nat} (h : i < L.length) (h' : i < s.length) (hk : k < s.length) (h1 : s[i] < L[i]) (h2 : s[i] < s[k] - 1) : evV L s = false := decide_eq_false fun c => by
  have := (c.2 i h h').2.2 k hk h1
  omega
theorem ev_yes {L s : List Int} (hl : L.length = s.length) (h : ∀ i (h : i < L.length) (h' : i < s.length), 0 ≤ s[i] ∧ s[i] ≤ L[i] ∧ ∀ k (hk : k < s.length), s[i] < L[i] → s[k] - 1 ≤ s[i]) : evV L s = true := decide_eq_true ⟨hl, h⟩
theorem maxL_drop {s : List Int} {k : Nat} (h : k < s.length) (n : Int) : maxL (s.drop k) n = maxL (s.drop (k + 1)) (if n > s[k] then n else s[k]) := by
  rw [List.drop_eq_getElem_cons h]; rfl
theorem maxL_end {s : List Int} {k : Nat} (h : s.length ≤ k) (n : Int) : maxL (s.drop k) n = n := by
  rw [List.drop_eq_nil_of_le h]; rfl
theorem shr_short {L s : List Int} {room : Int} (h : ShR L room s) : 0 ≤ s.length ∧ s.length ≤ 10 := by
  unfold ShR at h
  split at h
  · rename_i c
    unfold shOk at c
    rw [Bool.and_eq_true] at c
    have hl := h.len
    have h10 := wantsB_len c.1
    omega
  · subst h
    exact ⟨Nat.le_refl _, by simp⟩
end Go.Proofs.Ytllignhfkkeinaa
