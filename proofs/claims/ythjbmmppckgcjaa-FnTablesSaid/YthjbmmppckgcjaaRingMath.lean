/- The ring in plain words: 112 slots, the newest row at first, the older ones behind it, round the end. -/
import Derived.Test.YthjbmmppckgcjaaWeigh

namespace Go.Proofs.Ythjbmmppckgcjaa
open Go.RowKit
set_option linter.unusedSimpArgs false
set_option linter.unusedVariables false

def zF : Fd := ⟨⟨#[]⟩, ⟨#[]⟩⟩
/-- The slots of a ring whose rows are L. -/
def ringS (first : Nat) (L : List Fd) : List Fd := (List.range 112).map fun k => L.getD ((k + 112 - first) % 112) zF
theorem ringS_len (first : Nat) (L : List Fd) : (ringS first L).length = 112 := by simp [ringS]
theorem ringS_get (first : Nat) (L : List Fd) (k : Nat) (hk : k < (ringS first L).length) : (ringS first L)[k] = L.getD ((k + 112 - first) % 112) zF := by simp [ringS]
theorem ringS_at {first : Nat} {L : List Fd} (hf : first < 112) (hL : L.length ≤ 112) (n : Nat) (hn : n < L.length) : (ringS first L)[(first + n) % 112]'(by rw [ringS_len]; omega) = L[n] := by
  rw [ringS_get, show ((first + n) % 112 + 112 - first) % 112 = n by omega]
  simp [hn]
theorem ringS_last {first : Nat} {L : List Fd} (f : Fd) (hf : first < 112) (hL : L.length < 112) : (ringS first L).set ((first + L.length) % 112) f = ringS first (L ++ [f]) := by
  refine List.ext_getElem (by simp [ringS_len]) fun k h1 h2 => ?_
  have hk : k < 112 := by rw [ringS_len] at h2; exact h2
  rw [List.getElem_set, ringS_get, ringS_get]
  split
  · rename_i e
    rw [show (k + 112 - first) % 112 = L.length by omega]
    simp
  · rename_i e
    have : (k + 112 - first) % 112 ≠ L.length := by omega
    generalize (k + 112 - first) % 112 = i at *
    simp only [List.getD_eq_getElem?_getD, List.getElem?_append]
    split
    · rfl
    · rw [List.getElem?_eq_none (by omega), List.getElem?_eq_none (by simp; omega)]
theorem ringS_first {first : Nat} {L : List Fd} (f : Fd) (hf : first < 112) (hL : L.length < 112) : (ringS first L).set ((first + 111) % 112) f = ringS ((first + 111) % 112) (f :: L) := by
  refine List.ext_getElem (by simp [ringS_len]) fun k h1 h2 => ?_
  have hk : k < 112 := by rw [ringS_len] at h2; exact h2
  rw [List.getElem_set, ringS_get, ringS_get]
  split
  · rename_i e
    rw [show (k + 112 - (first + 111) % 112) % 112 = 0 by omega]
    simp
  · rename_i e
    have h0 : (k + 112 - (first + 111) % 112) % 112 = (k + 112 - first) % 112 + 1 ∨ ((k + 112 - first) % 112 = 111 ∧ (k + 112 - (first + 111) % 112) % 112 = 0) := by omega
    rcases h0 with h0 | ⟨h0, h3⟩
    · rw [h0]; simp
    · omega
theorem ringS_drop {first : Nat} {L : List Fd} (hf : first < 112) (h0 : 0 < L.length) (hL : L.length ≤ 112) : (ringS first L).set ((first + (L.length - 1)) % 112) zF = ringS first L.dropLast := by
  refine List.ext_getElem (by simp [ringS_len]) fun k h1 h2 => ?_
  have hk : k < 112 := by rw [ringS_len] at h2; exact h2
  rw [List.getElem_set, ringS_get, ringS_get]
  split
  · rename_i e
    rw [show (k + 112 - first) % 112 = L.length - 1 by omega]
    simp [List.getD_eq_getElem?_getD, List.getElem?_dropLast]
  · rename_i e
    have : (k + 112 - first) % 112 ≠ L.length - 1 := by omega
    generalize (k + 112 - first) % 112 = i at *
    simp only [List.getD_eq_getElem?_getD, List.getElem?_dropLast]
    split
    · rfl
    · rw [List.getElem?_eq_none (by omega)]
theorem okF_zF : okF zF = false := by decide
/-- Where no row of the longer one is the zero Field, slots alike have rows alike. -/
theorem ringS_eq {L : List Fd} {j : Nat} (hL : L.length ≤ 112) (hok : ∀ f ∈ L, okF f = true) (h : ringS 0 (L.take j) = ringS 0 L) : L.take j = L := by
  by_cases hj : j < L.length
  · have h1 := ringS_at (first := 0) (L := L) (by omega) hL j hj
    have h2 : (ringS 0 (L.take j))[(0 + j) % 112]'(by rw [ringS_len]; omega) = zF := by
      rw [ringS_get, show ((0 + j) % 112 + 112 - 0) % 112 = j by omega, List.getD_eq_getElem?_getD, List.getElem?_eq_none (by simp; omega)]
      rfl
    have h3 : L[j] = zF := by rw [← h1, ← h2]; congr 1; exact h.symm
    have h4 := hok L[j] (List.getElem_mem hj)
    rw [h3, okF_zF] at h4
    cases h4
  · exact List.take_of_length_le (by omega)
theorem shr_take (room : Int) (L : List Fd) : ∃ j, shr room L = L.take j := by
  have : ∀ n (L : List Fd), ∃ j, shrN room n L = L.take j := fun n => by
    induction n with
    | zero => intro L; exact ⟨L.length, by simp [shrN]⟩
    | succ n ih =>
      intro L
      rw [shrN]
      split
      · obtain ⟨j, hj⟩ := ih L.dropLast
        refine ⟨min j (L.length - 1), ?_⟩
        rw [hj, List.dropLast_eq_take, List.take_take]
      · exact ⟨L.length, by simp⟩
  exact this _ _
theorem shr_sum {room : Int} (h : 0 ≤ room) (L : List Fd) : sumW (shr room L) ≤ room := by
  have : ∀ n (L : List Fd), L.length ≤ n → sumW (shrN room n L) ≤ room := fun n => by
    induction n with
    | zero =>
      intro L hL
      have : L = [] := List.length_eq_zero_iff.1 (by omega)
      subst this
      simpa [shrN, sumW] using h
    | succ n ih =>
      intro L hL
      rw [shrN]
      split
      · exact ih _ (by rw [List.length_dropLast]; omega)
      · omega
  exact this _ _ (Nat.le_refl _)
/-- The slots are alike just where nothing went. -/
theorem ring_fits {room : Int} {L : List Fd} (h : 0 ≤ room) (hL : L.length ≤ 112) (hok : ∀ f ∈ L, okF f = true) : (ringS 0 (shr room L) = ringS 0 L) ↔ sumW L ≤ room := by
  constructor
  · intro e
    obtain ⟨j, hj⟩ := shr_take room L
    rw [hj] at e
    have h1 := ringS_eq hL hok e
    have h2 := shr_sum h L
    rw [hj, h1] at h2
    exact h2
  · intro e
    rw [shr_stop (by omega)]

/-- The cells of a ring. -/
def rC (sl : List Fd) (first count g : Int) : List Value := fv sl ++ [.int .i64 first, .int .i64 count, .int .i64 g]
theorem rC_len {sl : List Fd} (h : sl.length = 112) (f c g : Int) : (rC sl f c g).length = 227 := by simp [rC, fv_len, h]
theorem rC_one (sl : List Fd) (f c g : Int) : ∀ u ∈ rC sl f c g, u.oneCell' = true := by
  intro u hu
  rcases List.mem_append.1 hu with h | h
  · exact fv_one sl u h
  · simp only [List.mem_cons, List.not_mem_nil, or_false] at h
    rcases h with rfl | rfl | rfl <;> rfl
theorem rC_slot {sl : List Fd} (h : sl.length = 112) (f c g : Int) (k : Nat) (hk : k < 112) : (rC sl f c g)[k * 2]? = some (.string (sl[k]'(by omega)).n) ∧ (rC sl f c g)[k * 2 + 1]? = some (.string (sl[k]'(by omega)).v) := by
  have := fv_get sl k (by omega)
  unfold rC
  rw [List.getElem?_append_left (by rw [fv_len]; omega), List.getElem?_append_left (by rw [fv_len]; omega)]
  exact this
theorem rC_num {sl : List Fd} (h : sl.length = 112) (f c g : Int) : (rC sl f c g)[224]? = some (.int .i64 f) ∧ (rC sl f c g)[225]? = some (.int .i64 c) ∧ (rC sl f c g)[226]? = some (.int .i64 g) := by
  unfold rC
  rw [List.getElem?_append_right (by rw [fv_len]; omega), List.getElem?_append_right (by rw [fv_len]; omega), List.getElem?_append_right (by rw [fv_len]; omega), fv_len, h]
  exact ⟨rfl, rfl, rfl⟩
theorem rC_set224 {sl : List Fd} (h : sl.length = 112) (f c g f' : Int) : (rC sl f c g).set 224 (.int .i64 f') = rC sl f' c g := by
  unfold rC; rw [List.set_append_right _ _ (by rw [fv_len]; omega), fv_len, h]; rfl
theorem rC_set225 {sl : List Fd} (h : sl.length = 112) (f c g c' : Int) : (rC sl f c g).set 225 (.int .i64 c') = rC sl f c' g := by
  unfold rC; rw [List.set_append_right _ _ (by rw [fv_len]; omega), fv_len, h]; rfl
theorem rC_set226 {sl : List Fd} (h : sl.length = 112) (f c g g' : Int) : (rC sl f c g).set 226 (.int .i64 g') = rC sl f c g' := by
  unfold rC; rw [List.set_append_right _ _ (by rw [fv_len]; omega), fv_len, h]; rfl
theorem rC_setF {sl : List Fd} (h : sl.length = 112) (f c g : Int) (k : Nat) (hk : k < 112) (x : Fd) : ((rC sl f c g).set (k * 2) (.string x.n)).set (k * 2 + 1) (.string x.v) = rC (sl.set k x) f c g := by
  unfold rC
  rw [List.set_append_left _ _ (by rw [fv_len]; omega), List.set_append_left _ _ (by rw [List.length_set, fv_len]; omega)]
  congr 1
  have h1 := flat_set Fd.cs 2 fcs_len sl k (by omega) 0 (by omega) (.string x.n) ⟨x.n, (sl[k]'(by omega)).v⟩ rfl
  have h2 := flat_set Fd.cs 2 fcs_len (sl.set k ⟨x.n, (sl[k]'(by omega)).v⟩) k (by simp; omega) 1 (by omega) (.string x.v) x (by simp [Fd.cs])
  unfold fv
  rw [show k * 2 = k * 2 + 0 from rfl, h1, show k * 2 + 0 + 1 = k * 2 + 1 from rfl, h2, List.set_set]
end Go.Proofs.Ythjbmmppckgcjaa
