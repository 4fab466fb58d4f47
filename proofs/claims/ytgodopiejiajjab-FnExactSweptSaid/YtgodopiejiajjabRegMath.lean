/- The registry in plain words: which is right, what is opened, what happens, what is swept; a registry stays right, and no number is opened twice. -/
import Derived.Test.YtgodopiejiajjabShRegistry
import Derived.Test.YtgodopiejiajjabStateMath
namespace Go.Proofs.Ytgodopiejiajjab
open Go.RowKit
set_option maxRecDepth 100000
set_option linter.unusedSimpArgs false
set_option linter.unusedVariables false

/-- An odd number from 1 to 100000. -/
def idB (x : Int) : Bool := decide (1 ≤ x ∧ x ≤ 100000 ∧ x % 2 = 1)
theorem idB_iff {x : Int} : idB x = true ↔ 1 ≤ x ∧ x ≤ 100000 ∧ x % 2 = 1 := by unfold idB; exact decide_eq_true_iff
/-- One that is not closed counts 1. -/
def lv1 (e : EntryD) : Int := if e.state = 4 then 0 else 1
theorem lv1_nn (e : EntryD) : 0 ≤ lv1 e := by unfold lv1; split <;> omega
theorem lv1_le (e : EntryD) : lv1 e ≤ 1 := by unfold lv1; split <;> omega
def liveL (L : List EntryD) : Int := sumLs lv1 L
theorem live_le (L : List EntryD) : liveL L ≤ L.length := by
  unfold liveL
  induction L with
  | nil => simp [sumLs]
  | cons e L ih => have := lv1_le e; simp only [sumLs, List.length_cons]; omega
theorem live_nn (L : List EntryD) : 0 ≤ liveL L := sum_nn lv1 lv1_nn L
def entOk (top : Int) (e : EntryD) : Bool := idB e.id && decide (e.id ≤ top) && decide (1 ≤ e.state ∧ e.state ≤ 4)
theorem entOk_iff {top : Int} {e : EntryD} : entOk top e = true ↔ idB e.id = true ∧ e.id ≤ top ∧ 1 ≤ e.state ∧ e.state ≤ 4 := by unfold entOk; simp [and_assoc]
def risB : List EntryD → Bool
  | [] => true
  | [_] => true
  | a :: b :: L => decide (a.id < b.id) && risB (b :: L)
theorem risB_iff : ∀ (L : List EntryD), risB L = true ↔ ∀ i (h : i + 1 < L.length), L[i].id < L[i + 1].id
  | [] => by simp [risB]
  | [_] => by simp [risB]
  | a :: b :: L => by
    simp only [risB, Bool.and_eq_true, decide_eq_true_eq]
    rw [risB_iff (b :: L)]
    constructor
    · rintro ⟨h1, h2⟩ i h
      cases i with
      | zero => exact h1
      | succ i => exact h2 i (by simpa using h)
    · intro h
      exact ⟨h 0 (by simp), fun i hi => h (i + 1) (by simpa using hi)⟩
def okRg (r : RegistryD) : Bool := decide (0 ≤ r.lim ∧ r.lim ≤ 20) && decide (r.top = 0 ∨ idB r.top = true) && decide (r.es.length ≤ 60) && r.es.all (entOk r.top) && risB r.es && decide (liveL r.es ≤ r.lim)
theorem okRg_iff {r : RegistryD} : okRg r = true ↔ (0 ≤ r.lim ∧ r.lim ≤ 20) ∧ (r.top = 0 ∨ idB r.top = true) ∧ r.es.length ≤ 60 ∧ (∀ i (h : i < r.es.length), entOk r.top r.es[i] = true ∧ (0 < i → (r.es[i - 1]'(by omega)).id < r.es[i].id)) ∧ liveL r.es ≤ r.lim := by
  unfold okRg
  simp only [Bool.and_eq_true, decide_eq_true_eq, List.all_eq_true, risB_iff]
  constructor
  · rintro ⟨⟨⟨⟨⟨h1, h2⟩, h3⟩, h4⟩, h5⟩, h6⟩
    refine ⟨h1, h2, h3, fun i hi => ⟨h4 _ (List.getElem_mem hi), fun h0 => ?_⟩, h6⟩
    obtain ⟨j, rfl⟩ : ∃ j, i = j + 1 := ⟨i - 1, by omega⟩
    exact h5 j hi
  · rintro ⟨h1, h2, h3, h4, h6⟩
    refine ⟨⟨⟨⟨⟨h1, h2⟩, h3⟩, fun e he => ?_⟩, fun i hi => (h4 (i + 1) hi).2 (by omega)⟩, h6⟩
    obtain ⟨i, hi, rfl⟩ := List.mem_iff_getElem.1 he
    exact (h4 i hi).1
/-- The first with this number: its place. -/
def atE : List EntryD → Int → Option Nat
  | [], _ => none
  | e :: L, id => if e.id = id then some 0 else (atE L id).map (· + 1)
theorem atE_some {L : List EntryD} {id : Int} {k : Nat} (h : atE L id = some k) : ∃ hk : k < L.length, L[k].id = id ∧ ∀ j (hj : j < k), (L[j]'(by omega)).id ≠ id := by
  induction L generalizing k with
  | nil => simp [atE] at h
  | cons e L ih =>
    unfold atE at h
    split at h
    · rename_i he
      simp at h
      subst h
      exact ⟨by simp, he, fun j hj => absurd hj (Nat.not_lt_zero _)⟩
    · rename_i he
      cases hq : atE L id with
      | none => rw [hq] at h; simp at h
      | some q =>
        rw [hq] at h
        simp at h
        subst h
        obtain ⟨h1, h2, h3⟩ := ih hq
        refine ⟨by simpa using h1, by simpa using h2, fun j hj => ?_⟩
        cases j with
        | zero => simpa using he
        | succ j => simpa using h3 j (by omega)
theorem atE_none {L : List EntryD} {id : Int} (h : atE L id = none) : ∀ e ∈ L, e.id ≠ id := by
  induction L with
  | nil => simp
  | cons e L ih =>
    unfold atE at h
    split at h
    · simp at h
    · rename_i he
      intro x hx
      rcases List.mem_cons.1 hx with rfl | hx
      · exact he
      · exact ih (by cases hq : atE L id <;> rw [hq] at h <;> simp at h ⊢) x hx
theorem atE_of {L : List EntryD} {id : Int} (k : Nat) (hk : k < L.length) (h1 : L[k].id = id) (h2 : ∀ j (hj : j < k), (L[j]'(by omega)).id ≠ id) : atE L id = some k := by
  cases h : atE L id with
  | none => exact absurd h1 (atE_none h _ (List.getElem_mem hk))
  | some q =>
    obtain ⟨hq, e1, e2⟩ := atE_some h
    rcases Nat.lt_trichotomy q k with hlt | rfl | hgt
    · exact absurd e1 (h2 q hlt)
    · rfl
    · exact absurd h1 (e2 k hgt)
theorem atE_no {L : List EntryD} {id : Int} (h : ∀ e ∈ L, e.id ≠ id) : atE L id = none := by
  cases hq : atE L id with
  | none => rfl
  | some q => obtain ⟨hk, e1, _⟩ := atE_some hq; exact absurd e1 (h _ (List.getElem_mem hk))
/-- What opening does to a registry, right or not. -/
def openRaw (r : RegistryD) (id : Int) : RegistryD × Int :=
  if idB id = true ∧ r.top < id then
    (if r.lim ≤ liveL r.es ∨ r.es.length = 60 then (⟨r.lim, id, r.es⟩, 2) else (⟨r.lim, id, r.es ++ [⟨id, 1⟩]⟩, 0))
  else (r, 1)
def openedD (r : RegistryD) (id : Int) : RegistryD × Int := if okRg r = true then openRaw r id else (⟨0, 0, []⟩, 1)
def setSt (L : List EntryD) (k : Nat) (s : Int) : List EntryD := match L[k]? with | some e => L.set k ⟨e.id, s⟩ | none => L
def happenRaw (r : RegistryD) (id ev : Int) : RegistryD × Bool :=
  match atE r.es id with
  | none => (r, false)
  | some k => match r.es[k]? with
    | none => (r, false)
    | some e => (⟨r.lim, r.top, r.es.set k ⟨e.id, (nxV e.state ev).1⟩⟩, (nxV e.state ev).2)
def happenedD (r : RegistryD) (id ev : Int) : RegistryD × Bool := if okRg r = true then happenRaw r id ev else (⟨0, 0, []⟩, false)
def stateD (r : RegistryD) (id : Int) : Int :=
  match atE r.es id with
  | some k => match r.es[k]? with | some e => e.state | none => 0
  | none => if idB id = true ∧ id ≤ r.top then 4 else 0
def liveD (r : RegistryD) : Int := if okRg r = true then liveL r.es else -1
def sweptD (r : RegistryD) : RegistryD := if okRg r = true then ⟨r.lim, r.top, r.es.filter fun e => !decide (e.state = 4)⟩ else ⟨0, 0, []⟩
theorem happenRaw_none {r : RegistryD} {id ev : Int} (h : atE r.es id = none) : happenRaw r id ev = (r, false) := by unfold happenRaw; rw [h]
theorem happenRaw_some {r : RegistryD} {id ev : Int} {k : Nat} (h : atE r.es id = some k) (hk : k < r.es.length) : happenRaw r id ev = (⟨r.lim, r.top, r.es.set k ⟨r.es[k].id, (nxV r.es[k].state ev).1⟩⟩, (nxV r.es[k].state ev).2) := by
  unfold happenRaw; rw [h]; simp only [List.getElem?_eq_getElem hk]
theorem stateD_some {r : RegistryD} {id : Int} {k : Nat} (h : atE r.es id = some k) (hk : k < r.es.length) : stateD r id = r.es[k].state := by
  unfold stateD; rw [h]; simp only [List.getElem?_eq_getElem hk]
theorem stateD_none {r : RegistryD} {id : Int} (h : atE r.es id = none) : stateD r id = if idB id = true ∧ id ≤ r.top then 4 else 0 := by unfold stateD; rw [h]
-- the laws
theorem rise_lt {r : RegistryD} (h : okRg r = true) : ∀ i j (hi : i < j) (hj : j < r.es.length), (r.es[i]'(by omega)).id < r.es[j].id := by
  obtain ⟨_, _, _, h4, _⟩ := okRg_iff.1 h
  intro i j hi hj
  induction j with
  | zero => omega
  | succ j ih =>
    have h1 := (h4 (j + 1) hj).2 (by omega)
    simp only [Nat.add_sub_cancel] at h1
    by_cases e : i = j
    · subst e; exact h1
    · have := ih (by omega) (by omega); omega
theorem live_set (L : List EntryD) (k : Nat) (hk : k < L.length) (e : EntryD) : liveL (L.set k e) = liveL L - lv1 L[k] + lv1 e := by
  unfold liveL
  induction L generalizing k with
  | nil => exact absurd hk (Nat.not_lt_zero _)
  | cons a L ih =>
    cases k with
    | zero => simp [sumLs]; omega
    | succ k => have := ih k (by simpa using hk); simp only [List.set_cons_succ, sumLs, List.getElem_cons_succ]; omega
theorem live_app (A B : List EntryD) : liveL (A ++ B) = liveL A + liveL B := sum_app lv1 A B
theorem happen_ok {r : RegistryD} {id ev : Int} (h : okRg r = true) : okRg (happenRaw r id ev).1 = true ∧ liveL (happenRaw r id ev).1.es ≤ liveL r.es ∧ (happenRaw r id ev).1.top = r.top ∧ (happenRaw r id ev).1.lim = r.lim := by
  cases hq : atE r.es id with
  | none => rw [happenRaw_none hq]; exact ⟨h, Int.le_refl _, rfl, rfl⟩
  | some k =>
    obtain ⟨hk, e1, e2⟩ := atE_some hq
    rw [happenRaw_some hq hk]
    obtain ⟨h1, h2, h3, h4, h5⟩ := okRg_iff.1 h
    obtain ⟨n, b, hn⟩ : ∃ n b, nxV r.es[k].state ev = (n, b) := ⟨_, _, rfl⟩
    rw [hn]
    have hek := entOk_iff.1 (h4 k hk).1
    have hup : r.es[k].state ≤ n ∧ n ≤ 4 := by
      cases b
      · have := nx_no hn; omega
      · have := nx_up hn; omega
    have hlv : lv1 (⟨r.es[k].id, n⟩ : EntryD) ≤ lv1 r.es[k] := by
      have := lv1_le (⟨r.es[k].id, n⟩ : EntryD)
      have := lv1_nn r.es[k]
      by_cases e4 : r.es[k].state = 4
      · have : n = 4 := by omega
        subst this
        unfold lv1; simp [e4]
      · have : lv1 r.es[k] = 1 := by unfold lv1; rw [if_neg e4]
        omega
    have hls := live_set r.es k hk ⟨r.es[k].id, n⟩
    refine ⟨okRg_iff.2 ⟨h1, h2, by simpa using h3, fun i hi => ?_, by simp only; omega⟩, by simp only; omega, rfl, rfl⟩
    simp only [List.length_set] at hi
    have hget : ∀ j (hj : j < r.es.length), ((r.es.set k ⟨r.es[k].id, n⟩)[j]'(by simpa using hj)).id = r.es[j].id := fun j hj => by
      rw [List.getElem_set]; split
      · rename_i e; subst e; rfl
      · rfl
    refine ⟨?_, fun h0 => ?_⟩
    · rw [List.getElem_set]; split
      · exact entOk_iff.2 ⟨hek.1, hek.2.1, by simp only; omega, by simp only; omega⟩
      · exact (h4 i hi).1
    · rw [hget i hi, hget (i - 1) (by omega)]; exact (h4 i hi).2 h0
theorem happen_state {r : RegistryD} {id ev : Int} {y : RegistryD} (h : happenRaw r id ev = (y, true)) : stateD r id ≤ stateD y id := by
  cases hq : atE r.es id with
  | none => rw [happenRaw_none hq] at h; simp at h
  | some k =>
    obtain ⟨hk, e1, e2⟩ := atE_some hq
    rw [happenRaw_some hq hk] at h
    obtain ⟨n, b, hn⟩ : ∃ n b, nxV r.es[k].state ev = (n, b) := ⟨_, _, rfl⟩
    rw [hn] at h
    simp only [Prod.mk.injEq] at h
    obtain ⟨rfl, rfl⟩ := h
    have hat : atE (r.es.set k ⟨r.es[k].id, n⟩) id = some k := atE_of k (by simpa using hk) (by simpa using e1) (fun j hj => by rw [List.getElem_set_ne (by omega)]; exact e2 j hj)
    rw [stateD_some hq hk, stateD_some (r := ⟨r.lim, r.top, r.es.set k ⟨r.es[k].id, n⟩⟩) hat (by simpa using hk)]
    have := nx_up hn
    simpa using this.1
theorem happen_no {r : RegistryD} {id ev : Int} {y : RegistryD} (h : happenRaw r id ev = (y, false)) : y = r := by
  cases hq : atE r.es id with
  | none => rw [happenRaw_none hq] at h; simp at h; exact h.symm
  | some k =>
    obtain ⟨hk, e1, e2⟩ := atE_some hq
    rw [happenRaw_some hq hk] at h
    obtain ⟨n, b, hn⟩ : ∃ n b, nxV r.es[k].state ev = (n, b) := ⟨_, _, rfl⟩
    rw [hn] at h
    simp only [Prod.mk.injEq] at h
    obtain ⟨rfl, rfl⟩ := h
    have hs := nx_no hn
    obtain ⟨lim, top, es⟩ := r
    have : es.set k ⟨es[k].id, n⟩ = es := by
      rw [hs]
      exact List.set_getElem_self hk
    simp only [this]
theorem open_ok {r : RegistryD} {id : Int} (h : okRg r = true) : okRg (openRaw r id).1 = true := by
  obtain ⟨h1, h2, h3, h4, h5⟩ := okRg_iff.1 h
  unfold openRaw
  split
  · rename_i c
    have hid := idB_iff.1 c.1
    split
    · refine okRg_iff.2 ⟨h1, .inr c.1, h3, fun i hi => ⟨?_, (h4 i hi).2⟩, h5⟩
      have := entOk_iff.1 (h4 i hi).1
      exact entOk_iff.2 ⟨this.1, by simp only; omega, this.2.2⟩
    · rename_i hf
      refine okRg_iff.2 ⟨h1, .inr c.1, ?_, fun i hi => ?_, ?_⟩
      · simp only [List.length_append, List.length_cons, List.length_nil]; omega
      · simp only [List.length_append, List.length_cons, List.length_nil] at hi
        by_cases hl : i < r.es.length
        · rw [List.getElem_append_left hl]
          have hh := entOk_iff.1 (h4 i hl).1
          refine ⟨entOk_iff.2 ⟨hh.1, by simp only; omega, hh.2.2⟩, fun h0 => ?_⟩
          rw [List.getElem_append_left (by omega)]
          exact (h4 i hl).2 h0
        · obtain rfl : i = r.es.length := by omega
          simp only [List.getElem_concat_length]
          refine ⟨entOk_iff.2 ⟨c.1, Int.le_refl _, by simp, by simp⟩, fun h0 => ?_⟩
          rw [List.getElem_append_left (by omega)]
          have := entOk_iff.1 (h4 (r.es.length - 1) (by omega)).1
          omega
      · have e1 : liveL [(⟨id, 1⟩ : EntryD)] = 1 := rfl
        simp only [live_app, e1]; omega
  · exact h
theorem open_bad {r : RegistryD} {id : Int} {x : RegistryD} (h : openRaw r id = (x, 1)) : x = r := by
  unfold openRaw at h
  split at h
  · split at h <;> simp at h
  · simp at h; exact h.symm
theorem open_yes {r : RegistryD} {id : Int} {x : RegistryD} (hr : okRg r = true) (h : openRaw r id = (x, 0)) : stateD x id = 1 ∧ liveL x.es = liveL r.es + 1 ∧ r.top < id ∧ x.top = id := by
  unfold openRaw at h
  split at h
  · rename_i c
    split at h
    · simp at h
    · simp only [Prod.mk.injEq, and_true] at h
      subst h
      obtain ⟨h1, h2, h3, h4, h5⟩ := okRg_iff.1 hr
      have e1 : liveL [(⟨id, 1⟩ : EntryD)] = 1 := rfl
      refine ⟨?_, by simp only [live_app, e1], c.2, rfl⟩
      have hat : atE (r.es ++ [(⟨id, 1⟩ : EntryD)]) id = some r.es.length := atE_of _ (by simp) (by simp) (fun j hj => by
        rw [List.getElem_append_left hj]
        have := (entOk_iff.1 (h4 j hj).1).2.1
        omega)
      rw [stateD_some (r := ⟨r.lim, id, r.es ++ [(⟨id, 1⟩ : EntryD)]⟩) hat (by simp)]
      simp
  · simp at h
theorem open_top {r : RegistryD} {id k : Int} {x : RegistryD} (h : openRaw r id = (x, k)) (hk : k ≠ 1) : x.top = id := by
  unfold openRaw at h
  split at h
  · split at h <;> simp at h <;> rw [← h.1]
  · simp at h; omega
theorem open_again {r : RegistryD} {id : Int} (h : id ≤ r.top) : openRaw r id = (r, 1) := by unfold openRaw; rw [if_neg (by omega)]
theorem openRaw_code (r : RegistryD) (id : Int) : (openRaw r id).2 = 0 ∨ (openRaw r id).2 = 1 ∨ (openRaw r id).2 = 2 := by
  unfold openRaw
  split
  · split <;> simp
  · simp
theorem live_filter (L : List EntryD) : liveL (L.filter fun e => !decide (e.state = 4)) = liveL L ∧ ((L.filter fun e => !decide (e.state = 4)).length : Int) = liveL L := by
  unfold liveL
  induction L with
  | nil => simp [sumLs]
  | cons e L ih =>
    by_cases h : e.state = 4
    · rw [List.filter_cons_of_neg (by simp [h])]
      simp only [sumLs, lv1, h, if_true]; omega
    · rw [List.filter_cons_of_pos (by simp [h])]
      simp only [sumLs, List.length_cons, lv1, h, if_false]; omega
theorem rises_iff {r : RegistryD} : (∀ i (h : i < r.es.length), (0 < i → (r.es[i - 1]'(by omega)).id < r.es[i].id)) ↔ r.es.Pairwise fun a b => a.id < b.id := by
  constructor
  · intro h
    refine List.pairwise_iff_getElem.2 fun i j hi hj hij => ?_
    induction j with
    | zero => omega
    | succ j ih =>
      have h1 := h (j + 1) hj (by omega)
      simp only [Nat.add_sub_cancel] at h1
      by_cases e : i = j
      · subst e; exact h1
      · have := ih (by omega) (by omega); omega
  · intro h i hi h0
    exact List.pairwise_iff_getElem.1 h (i - 1) i (by omega) hi (by omega)
theorem swept_ok {r : RegistryD} (h : okRg r = true) : okRg ⟨r.lim, r.top, r.es.filter fun e => !decide (e.state = 4)⟩ = true := by
  obtain ⟨h1, h2, h3, h4, h5⟩ := okRg_iff.1 h
  have hp := (rises_iff (r := r)).1 fun i hi => (h4 i hi).2
  have hp2 := hp.filter (fun e => !decide (e.state = 4))
  have hr2 := (rises_iff (r := ⟨r.lim, r.top, r.es.filter fun e => !decide (e.state = 4)⟩)).2 hp2
  have hl := live_filter r.es
  refine okRg_iff.2 ⟨h1, h2, ?_, fun i hi => ⟨?_, hr2 i hi⟩, by simp only; omega⟩
  · have := live_le r.es; simp only; omega
  · have hm := List.getElem_mem hi
    obtain ⟨j, hj, hje⟩ := List.mem_iff_getElem.1 (List.mem_filter.1 hm).1
    simp only at hje ⊢
    rw [← hje]
    exact (h4 j hj).1
theorem atE_id {r : RegistryD} (h : okRg r = true) {e : EntryD} (he : e ∈ r.es) : ∃ k, ∃ hk : k < r.es.length, atE r.es e.id = some k ∧ r.es[k] = e := by
  obtain ⟨k, hk, rfl⟩ := List.mem_iff_getElem.1 he
  refine ⟨k, hk, atE_of k hk rfl (fun j hj => ?_), rfl⟩
  have := rise_lt h j k hj hk
  omega
theorem swept_state {r : RegistryD} (h : okRg r = true) (id : Int) : stateD ⟨r.lim, r.top, r.es.filter fun e => !decide (e.state = 4)⟩ id = stateD r id := by
  have hs := swept_ok h
  obtain ⟨h1, h2, h3, h4, h5⟩ := okRg_iff.1 h
  cases hq : atE r.es id with
  | none =>
    have hn : atE (r.es.filter fun e => !decide (e.state = 4)) id = none := atE_no fun e he => atE_none hq e (List.mem_filter.1 he).1
    rw [stateD_none hq, stateD_none (r := ⟨r.lim, r.top, r.es.filter fun e => !decide (e.state = 4)⟩) hn]
  | some k =>
    obtain ⟨hk, e1, e2⟩ := atE_some hq
    rw [stateD_some hq hk]
    by_cases h4' : r.es[k].state = 4
    · have hn : atE (r.es.filter fun e => !decide (e.state = 4)) id = none := atE_no fun e he => by
        intro hid
        obtain ⟨hm, hst⟩ := List.mem_filter.1 he
        obtain ⟨k2, hk2, ha, hb⟩ := atE_id h hm
        rw [hid, hq] at ha
        simp at ha
        subst ha
        rw [hb] at h4'
        simp [h4'] at hst
      rw [stateD_none (r := ⟨r.lim, r.top, r.es.filter fun e => !decide (e.state = 4)⟩) hn, h4']
      have := entOk_iff.1 (h4 k hk).1
      rw [e1] at this
      rw [if_pos ⟨this.1, this.2.1⟩]
    · have hm : r.es[k] ∈ (⟨r.lim, r.top, r.es.filter fun e => !decide (e.state = 4)⟩ : RegistryD).es := List.mem_filter.2 ⟨List.getElem_mem hk, by simp [h4']⟩
      obtain ⟨k2, hk2, ha, hb⟩ := atE_id hs hm
      rw [e1] at ha
      rw [stateD_some ha hk2, hb]
-- sizes
theorem cnt_entries (L : List EntryD) : cntEntryS L = 2 * L.length := by
  unfold cntEntryS
  induction L with
  | nil => rfl
  | cons e L ih => simp only [cntLs, cntEntry, List.length_cons, ih]; omega
theorem opened_len (r : RegistryD) (id : Int) : (openedD r id).1.es.length ≤ r.es.length + 1 := by
  unfold openedD openRaw
  repeat' split
  all_goals simp
theorem happened_len (r : RegistryD) (id ev : Int) : (happenedD r id ev).1.es.length ≤ r.es.length + 1 := by
  unfold happenedD
  split
  · cases hq : atE r.es id with
    | none => rw [happenRaw_none hq]; simp
    | some k => obtain ⟨hk, _⟩ := atE_some hq; rw [happenRaw_some hq hk]; simp
  · simp
theorem swept_len (r : RegistryD) : (sweptD r).es.length ≤ r.es.length + 1 := by
  unfold sweptD
  split
  · have := List.length_filter_le (fun e : EntryD => !decide (e.state = 4)) r.es; simp only; omega
  · simp
end Go.Proofs.Ytgodopiejiajjab
