/- What the laws of chapter 13 want besides: a row read at one place, sums of the first so many, what even shares are. -/
import Derived.Test.YtllignhfkkeinaaShareMath
import Derived.Test.YtllignhfkkeinaaInts
namespace Go.Proofs.Ytllignhfkkeinaa
open Go.RowKit
set_option maxRecDepth 100000
set_option linter.unusedSimpArgs false
set_option linter.unusedVariables false
theorem rd_at {w : World} {ad : Option Addr} {cap k : Nat} {L : List Int} (h : Reads w (.slice ad L.length cap) L.length 1 (iv L)) (hk : k < L.length) : ∃ b o, ad = some ⟨b, o, none⟩ ∧ b < w.heap.size ∧ w.cell? ⟨b, o + k, none⟩ = some (.int .i64 L[k]) := by
  obtain ⟨hl, ad', cap', e, h1, h2, h3⟩ := h
  simp only [Value.slice.injEq, true_and] at e
  obtain ⟨rfl, rfl⟩ := e
  obtain ⟨b, o, rfl, hb, hc⟩ := h3 (by omega)
  exact ⟨b, o, rfl, hb, hc k _ (iv_get L k hk)⟩
theorem rd_form {w : World} {v : Value} {L : List Int} (h : Reads w v L.length 1 (iv L)) : ∃ ad cap, v = .slice ad L.length cap ∧ L.length ≤ cap ∧ cap ≤ 9223372036854775807 := by
  obtain ⟨hl, ad', cap', e, h1, h2, h3⟩ := h
  unfold maxLen at h2
  exact ⟨ad', cap', e, h1, by omega⟩
theorem sum_take {l : List Int} {k : Nat} (h : k < l.length) : sumI (l.take (k + 1)) = sumI (l.take k) + l[k] := by
  induction l generalizing k with
  | nil => simp at h
  | cons x l ih =>
    cases k with
    | zero => simp [sumI]
    | succ k =>
      have := ih (k := k) (by simpa using h)
      simp only [List.take_succ_cons, sumI, List.getElem_cons_succ]
      omega
theorem sum_all {l : List Int} {k : Nat} (h : l.length ≤ k) : sumI (l.take k) = sumI l := by rw [List.take_of_length_le h]
theorem ev_get {L s : List Int} (h : evV L s = true) : L.length = s.length ∧ ∀ i (h : i < L.length) (h' : i < s.length), 0 ≤ s[i] ∧ s[i] ≤ L[i] ∧ ∀ k (hk : k < s.length), s[i] < L[i] → s[k] - 1 ≤ s[i] := of_decide_eq_true h
theorem sh_yes {L s : List Int} {room : Int} (h : ShR L room s) (hok : shOk L room = true) : IsSh L room s := by unfold ShR at h; rw [if_pos hok] at h; exact h
theorem sh_no {L s : List Int} {room : Int} (h : ShR L room s) (hok : shOk L room = false) : s = [] := by unfold ShR at h; rw [if_neg (by rw [hok]; decide)] at h; exact h
theorem shOk_true {L : List Int} {room : Int} (h : shOk L room = true) : wantsB L = true ∧ 0 ≤ room ∧ room ≤ 1000000 := by
  unfold shOk at h
  rw [Bool.and_eq_true] at h
  exact ⟨h.1, (inB_true h.2).1, (inB_true h.2).2⟩
/-- Even shares of wants that are not too great: they can be given anew. -/
theorem ev_again {A b x : List Int} (hev : evV A b = true) (h1 : 1 ≤ A.length) (h2 : A.length ≤ 10) (hA : ∀ j (hj : j < A.length), A[j] ≤ 100000) (hs0 : 0 ≤ sumI b) (hs1 : sumI b ≤ 1000000) (hx : ShR A (sumI b) x) :
    x.length = A.length ∧ ∀ i (hi : i < x.length) (hi' : i < b.length), 0 ≤ x[i] ∧ x[i] ≤ 100000 ∧ 0 ≤ b[i] ∧ b[i] ≤ 100000 ∧ x[i] - b[i] ≤ 1 ∧ b[i] - x[i] ≤ 1 := by
  obtain ⟨hl, hg⟩ := ev_get hev
  have hpos : ∀ j (hj : j < A.length), 0 ≤ A[j] := fun j hj => by
    have := hg j hj (by omega)
    omega
  have hw : wantsB A = true := by
    unfold wantsB
    rw [Bool.and_eq_true]
    refine ⟨?_, decide_eq_true ⟨h1, h2⟩⟩
    rw [List.all_eq_true]
    intro y hy
    obtain ⟨j, hj, rfl⟩ := List.getElem_of_mem hy
    exact inB_of (hpos j hj) (hA j hj)
  have hok : shOk A (sumI b) = true := by unfold shOk; rw [hw, inB_of hs0 hs1]; rfl
  have hI := sh_yes hx hok
  refine ⟨hI.len, fun i hi hi' => ?_⟩
  have hiA : i < A.length := by omega
  have e1 := hI.pos hpos i hi hiA
  have e2 := hg i hiA hi'
  have e3 := hA i hiA
  have e4 := hI.near hl.symm (fun j h h' => (hg j h' h).2.1) (fun i k hi hk hi' => (hg i hi' hi).2.2 k hk) i hi hi'
  omega
theorem maxL_ge : ∀ (l : List Int) (n : Int), n ≤ maxL l n
  | [], n => Int.le_refl _
  | x :: l, n => by
    have h1 := maxL_ge l (if n > x then n else x)
    have h2 : n ≤ (if n > x then n else x) := by split <;> omega
    show n ≤ maxL l (if n > x then n else x)
    omega
theorem maxL_pos {l : List Int} (h : 0 < l.length) (h0 : ∀ j (hj : j < l.length), 0 ≤ l[j]) : 0 ≤ maxL l (-1) := by
  cases l with
  | nil => simp at h
  | cons x l =>
    have hx := h0 0 h
    simp at hx
    have := maxL_ge l (if (-1 : Int) > x then -1 else x)
    unfold maxL
    rw [if_neg (by omega)] at this ⊢
    omega
/-- With more room: nobody has less. -/
theorem law_more {L s m : List Int} {room : Int} (hs : IsSh L room s) (hm : ShR L (room + 1) m) : ∀ k (hk : k < m.length), ∃ hk' : k < s.length, s[k] ≤ m[k] := by
  intro k hk
  cases hok : shOk L (room + 1)
  · rw [sh_no hm hok] at hk
    simp at hk
  · have h := sh_yes hm hok
    have e1 := h.len
    have e2 := hs.len
    have hk' : k < s.length := by omega
    exact ⟨hk', hs.more h (by omega) k hk' hk⟩
theorem law_grown {L s x : List Int} {room : Int} {k : Nat} (hk : k < L.length) (hs : IsSh L room s) (hx : ShR (L.set k (L[k] + 1)) room x) : ∀ j (hj : j < x.length), ∃ hj' : j < s.length, (j = k → s[j] ≤ x[j]) ∧ (j ≠ k → x[j] ≤ s[j]) := by
  intro j hj
  cases hok : shOk (L.set k (L[k] + 1)) room
  · rw [sh_no hx hok] at hj
    simp at hj
  · have h := sh_yes hx hok
    have e1 := h.len
    simp at e1
    have e2 := hs.len
    have hj' : j < s.length := by omega
    exact ⟨hj', hs.grown hk h j hj' hj⟩
theorem rd_lt {w : World} {ad : Option Addr} {cap : Nat} {L : List Int} (h : Reads w (.slice ad L.length cap) L.length 1 (iv L)) (hk : 0 < L.length) : ∀ q, (Value.slice ad L.length cap).ownBlock = some q → q < w.heap.size := by
  intro q hq
  obtain ⟨b, o, rfl, hb, _⟩ := rd_at h hk
  simp [Value.ownBlock] at hq
  omega
end Go.Proofs.Ytllignhfkkeinaa
