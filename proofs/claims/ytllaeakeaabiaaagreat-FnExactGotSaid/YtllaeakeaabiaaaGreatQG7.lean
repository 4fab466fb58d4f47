/- Several small texts of one level, one behind the other. -/
import Derived.Test.YtllaeakeaabiaaaGreatQG6
import Derived.Test.YtllaeakeaabiaaaGreatQG2
import Derived.Test.YtllaeakeaabiaaaGreatQG3
import Derived.Test.YtllaeakeaabiaaaGreatQG5
import Derived.Test.YtllaeakeaabiaaaGreatQG4
import Derived.Handy
import Derived.Deep.RegionHeld3
import Derived.Deep.Cut
import Derived.Deep.DeepCutAuto
import Derived.Deep.QuietTactic
import Derived.OpenShut
import Derived.ChangeOld
/- The registry in plain words: which is right, what is opened, what happens, what is swept; a registry stays right, and no number is opened twice. -/
namespace Go.Proofs.YtllaeakeaabiaaaGreat
open Go.RowKit
set_option maxRecDepth 100000
set_option linter.unusedSimpArgs false
set_option linter.unusedVariables false

/-- An odd number from 1 to 100000. -/
def idB (x : Int) : Bool := decide (1 ≤ x ∧ x ≤ 100000 ∧ x % 2 = 1)
theorem idB_iff {x : Int} : idB x = true ↔ 1 ≤ x ∧ x ≤ 100000 ∧ x % 2 = 1 := by unfold idB; exact decide_eq_true_iff
/-- One that is not closed counts 1. -/
def lv1 (e : EntryD) : Int := if e.state = 4 then 0 else 1
theorem lv1_nn (e : EntryD) : 0 ≤ lv1 e := by unfold lv1; split <;> omega
theorem lv1_le (e : EntryD) : lv1 e ≤ 1 := by unfold lv1; split <;> omega
def liveL (L : List EntryD) : Int := sumLs lv1 L
theorem live_le (L : List EntryD) : liveL L ≤ L.length := by
  unfold liveL
  induction L with
  | nil => simp [sumLs]
  | cons e L ih => have := lv1_le e; simp only [sumLs, List.length_cons]; omega
theorem live_nn (L : List EntryD) : 0 ≤ liveL L := sum_nn lv1 lv1_nn L
def entOk (top : Int) (e : EntryD) : Bool := idB e.id && decide (e.id ≤ top) && decide (1 ≤ e.state ∧ e.state ≤ 4)
theorem entOk_iff {top : Int} {e : EntryD} : entOk top e = true ↔ idB e.id = true ∧ e.id ≤ top ∧ 1 ≤ e.state ∧ e.state ≤ 4 := by unfold entOk; simp [and_assoc]
def risB : List EntryD → Bool
  | [] => true
  | [_] => true
  | a :: b :: L => decide (a.id < b.id) && risB (b :: L)
theorem risB_iff : ∀ (L : List EntryD), risB L = true ↔ ∀ i (h : i + 1 < L.length), L[i].id < L[i + 1].id
  | [] => by simp [risB]
  | [_] => by simp [risB]
  | a :: b :: L => by
    simp only [risB, Bool.and_eq_true, decide_eq_true_eq]
    rw [risB_iff (b :: L)]
    constructor
    · rintro ⟨h1, h2⟩ i h
      cases i with
      | zero => exact h1
      | succ i => exact h2 i (by simpa using h)
    · intro h
      exact ⟨h 0 (by simp), fun i hi => h (i + 1) (by simpa using hi)⟩
def okRg (r : RegistryD) : Bool := decide (0 ≤ r.lim ∧ r.lim ≤ 20) && decide (r.top = 0 ∨ idB r.top = true) && decide (r.es.length ≤ 60) && r.es.all (entOk r.top) && risB r.es && decide (liveL r.es ≤ r.lim)
theorem okRg_iff {r : RegistryD} : okRg r = true ↔ (0 ≤ r.lim ∧ r.lim ≤ 20) ∧ (r.top = 0 ∨ idB r.top = true) ∧ r.es.length ≤ 60 ∧ (∀ i (h : i < r.es.length), entOk r.top r.es[i] = true ∧ (0 < i → (r.es[i - 1]'(by omega)).id < r.es[i].id)) ∧ liveL r.es ≤ r.lim := by
  unfold okRg
  simp only [Bool.and_eq_true, decide_eq_true_eq, List.all_eq_true, risB_iff]
  constructor
  · rintro ⟨⟨⟨⟨⟨h1, h2⟩, h3⟩, h4⟩, h5⟩, h6⟩
    refine ⟨h1, h2, h3, fun i hi => ⟨h4 _ (List.getElem_mem hi), fun h0 => ?_⟩, h6⟩
    obtain ⟨j, rfl⟩ : ∃ j, i = j + 1 := ⟨i - 1, by omega⟩
    exact h5 j hi
  · rintro ⟨h1, h2, h3, h4, h6⟩
    refine ⟨⟨⟨⟨⟨h1, h2⟩, h3⟩, fun e he => ?_⟩, fun i hi => (h4 (i + 1) hi).2 (by omega)⟩, h6⟩
    obtain ⟨i, hi, rfl⟩ := List.mem_iff_getElem.1 he
    exact (h4 i hi).1
/-- The first with this number: its place. -/
def atE : List EntryD → Int → Option Nat
  | [], _ => none
  | e :: L, id => if e.id = id then some 0 else (atE L id).map (· + 1)
theorem atE_some {L : List EntryD} {id : Int} {k : Nat} (h : atE L id = some k) : ∃ hk : k < L.length, L[k].id = id ∧ ∀ j (hj : j < k), (L[j]'(by omega)).id ≠ id := by
  induction L generalizing k with
  | nil => simp [atE] at h
  | cons e L ih =>
    unfold atE at h
    split at h
    · rename_i he
      simp at h
      subst h
      exact ⟨by simp, he, fun j hj => absurd hj (Nat.not_lt_zero _)⟩
    · rename_i he
      cases hq : atE L id with
      | none => rw [hq] at h; simp at h
      | some q =>
        rw [hq] at h
        simp at h
        subst h
        obtain ⟨h1, h2, h3⟩ := ih hq
        refine ⟨by simpa using h1, by simpa using h2, fun j hj => ?_⟩
        cases j with
        | zero => simpa using he
        | succ j => simpa using h3 j (by omega)
theorem atE_none {L : List EntryD} {id : Int} (h : atE L id = none) : ∀ e ∈ L, e.id ≠ id := by
  induction L with
  | nil => simp
  | cons e L ih =>
    unfold atE at h
    split at h
    · simp at h
    · rename_i he
      intro x hx
      rcases List.mem_cons.1 hx with rfl | hx
      · exact he
      · exact ih (by cases hq : atE L id <;> rw [hq] at h <;> simp at h ⊢) x hx
theorem atE_of {L : List EntryD} {id : Int} (k : Nat) (hk : k < L.length) (h1 : L[k].id = id) (h2 : ∀ j (hj : j < k), (L[j]'(by omega)).id ≠ id) : atE L id = some k := by
  cases h : atE L id with
  | none => exact absurd h1 (atE_none h _ (List.getElem_mem hk))
  | some q =>
    obtain ⟨hq, e1, e2⟩ := atE_some h
    rcases Nat.lt_trichotomy q k with hlt | rfl | hgt
    · exact absurd e1 (h2 q hlt)
    · rfl
    · exact absurd h1 (e2 k hgt)
theorem atE_no {L : List EntryD} {id : Int} (h : ∀ e ∈ L, e.id ≠ id) : atE L id = none := by
  cases hq : atE L id with
  | none => rfl
  | some q => obtain ⟨hk, e1, _⟩ := atE_some hq; exact absurd e1 (h _ (List.getElem_mem hk))
/-- What opening does to a registry, right or not. -/
def openRaw (r : RegistryD) (id : Int) : RegistryD × Int :=
  if idB id = true ∧ r.top < id then
    (if r.lim ≤ liveL r.es ∨ r.es.length = 60 then (⟨r.lim, id, r.es⟩, 2) else (⟨r.lim, id, r.es ++ [⟨id, 1⟩]⟩, 0))
  else (r, 1)
def openedD (r : RegistryD) (id : Int) : RegistryD × Int := if okRg r = true then openRaw r id else (⟨0, 0, []⟩, 1)
def setSt (L : List EntryD) (k : Nat) (s : Int) : List EntryD := match L[k]? with | some e => L.set k ⟨e.id, s⟩ | none => L
def happenRaw (r : RegistryD) (id ev : Int) : RegistryD × Bool :=
  match atE r.es id with
  | none => (r, false)
  | some k => match r.es[k]? with
    | none => (r, false)
    | some e => (⟨r.lim, r.top, r.es.set k ⟨e.id, (nxV e.state ev).1⟩⟩, (nxV e.state ev).2)
def happenedD (r : RegistryD) (id ev : Int) : RegistryD × Bool := if okRg r = true then happenRaw r id ev else (⟨0, 0, []⟩, false)
def stateD (r : RegistryD) (id : Int) : Int :=
  match atE r.es id with
  | some k => match r.es[k]? with | some e => e.state | none => 0
  | none => if idB id = true ∧ id ≤ r.top then 4 else 0
def liveD (r : RegistryD) : Int := if okRg r = true then liveL r.es else -1
def sweptD (r : RegistryD) : RegistryD := if okRg r = true then ⟨r.lim, r.top, r.es.filter fun e => !decide (e.state = 4)⟩ else ⟨0, 0, []⟩
theorem happenRaw_none {r : RegistryD} {id ev : Int} (h : atE r.es id = none) : happenRaw r id ev = (r, false) := by unfold happenRaw; rw [h]
theorem happenRaw_some {r : RegistryD} {id ev : Int} {k : Nat} (h : atE r.es id = some k) (hk : k < r.es.length) : happenRaw r id ev = (⟨r.lim, r.top, r.es.set k ⟨r.es[k].id, (nxV r.es[k].state ev).1⟩⟩, (nxV r.es[k].state ev).2) := by
  unfold happenRaw; rw [h]; simp only [List.getElem?_eq_getElem hk]
theorem stateD_some {r : RegistryD} {id : Int} {k : Nat} (h : atE r.es id = some k) (hk : k < r.es.length) : stateD r id = r.es[k].state := by
  unfold stateD; rw [h]; simp only [List.getElem?_eq_getElem hk]
theorem stateD_none {r : RegistryD} {id : Int} (h : atE r.es id = none) : stateD r id = if idB id = true ∧ id ≤ r.top then 4 else 0 := by unfold stateD; rw [h]
-- the laws
theorem rise_lt {r : RegistryD} (h : okRg r = true) : ∀ i j (hi : i < j) (hj : j < r.es.length), (r.es[i]'(by omega)).id < r.es[j].id := by
  obtain ⟨_, _, _, h4, _⟩ := okRg_iff.1 h
  intro i j hi hj
  induction j with
  | zero => omega
  | succ j ih =>
    have h1 := (h4 (j + 1) hj).2 (by omega)
    simp only [Nat.add_sub_cancel] at h1
    by_cases e : i = j
    · subst e; exact h1
    · have := ih (by omega) (by omega); omega
theorem live_set (L : List EntryD) (k : Nat) (hk : k < L.length) (e : EntryD) : liveL (L.set k e) = liveL L - lv1 L[k] + lv1 e := by
  unfold liveL
  induction L generalizing k with
  | nil => exact absurd hk (Nat.not_lt_zero _)
  | cons a L ih =>
    cases k with
    | zero => simp [sumLs]; omega
    | succ k => have := ih k (by simpa using hk); simp only [List.set_cons_succ, sumLs, List.getElem_cons_succ]; omega
theorem live_app (A B : List EntryD) : liveL (A ++ B) = liveL A + liveL B := sum_app lv1 A B
theorem happen_ok {r : RegistryD} {id ev : Int} (h : okRg r = true) : okRg (happenRaw r id ev).1 = true ∧ liveL (happenRaw r id ev).1.es ≤ liveL r.es ∧ (happenRaw r id ev).1.top = r.top ∧ (happenRaw r id ev).1.lim = r.lim := by
  cases hq : atE r.es id with
  | none => rw [happenRaw_none hq]; exact ⟨h, Int.le_refl _, rfl, rfl⟩
  | some k =>
    obtain ⟨hk, e1, e2⟩ := atE_some hq
    rw [happenRaw_some hq hk]
    obtain ⟨h1, h2, h3, h4, h5⟩ := okRg_iff.1 h
    obtain ⟨n, b, hn⟩ : ∃ n b, nxV r.es[k].state ev = (n, b) := ⟨_, _, rfl⟩
    rw [hn]
    have hek := entOk_iff.1 (h4 k hk).1
    have hup : r.es[k].state ≤ n ∧ n ≤ 4 := by
      cases b
      · have := nx_no hn; omega
      · have := nx_up hn; omega
    have hlv : lv1 (⟨r.es[k].id, n⟩ : EntryD) ≤ lv1 r.es[k] := by
      have := lv1_le (⟨r.es[k].id, n⟩ : EntryD)
      have := lv1_nn r.es[k]
      by_cases e4 : r.es[k].state = 4
      · have : n = 4 := by omega
        subst this
        unfold lv1; simp [e4]
      · have : lv1 r.es[k] = 1 := by unfold lv1; rw [if_neg e4]
        omega
    have hls := live_set r.es k hk ⟨r.es[k].id, n⟩
    refine ⟨okRg_iff.2 ⟨h1, h2, by simpa using h3, fun i hi => ?_, by simp only; omega⟩, by simp only; omega, rfl, rfl⟩
    simp only [List.length_set] at hi
    have hget : ∀ j (hj : j < r.es.length), ((r.es.set k ⟨r.es[k].id, n⟩)[j]'(by simpa using hj)).id = r.es[j].id := fun j hj => by
      rw [List.getElem_set]; split
      · rename_i e; subst e; rfl
      · rfl
    refine ⟨?_, fun h0 => ?_⟩
    · rw [List.getElem_set]; split
      · exact entOk_iff.2 ⟨hek.1, hek.2.1, by simp only; omega, by simp only; omega⟩
      · exact (h4 i hi).1
    · rw [hget i hi, hget (i - 1) (by omega)]; exact (h4 i hi).2 h0
theorem happen_state {r : RegistryD} {id ev : Int} {y : RegistryD} (h : happenRaw r id ev = (y, true)) : stateD r id ≤ stateD y id := by
  cases hq : atE r.es id with
  | none => rw [happenRaw_none hq] at h; simp at h
  | some k =>
    obtain ⟨hk, e1, e2⟩ := atE_some hq
    rw [happenRaw_some hq hk] at h
    obtain ⟨n, b, hn⟩ : ∃ n b, nxV r.es[k].state ev = (n, b) := ⟨_, _, rfl⟩
    rw [hn] at h
    simp only [Prod.mk.injEq] at h
    obtain ⟨rfl, rfl⟩ := h
    have hat : atE (r.es.set k ⟨r.es[k].id, n⟩) id = some k := atE_of k (by simpa using hk) (by simpa using e1) (fun j hj => by rw [List.getElem_set_ne (by omega)]; exact e2 j hj)
    rw [stateD_some hq hk, stateD_some (r := ⟨r.lim, r.top, r.es.set k ⟨r.es[k].id, n⟩⟩) hat (by simpa using hk)]
    have := nx_up hn
    simpa using this.1
theorem happen_no {r : RegistryD} {id ev : Int} {y : RegistryD} (h : happenRaw r id ev = (y, false)) : y = r := by
  cases hq : atE r.es id with
  | none => rw [happenRaw_none hq] at h; simp at h; exact h.symm
  | some k =>
    obtain ⟨hk, e1, e2⟩ := atE_some hq
    rw [happenRaw_some hq hk] at h
    obtain ⟨n, b, hn⟩ : ∃ n b, nxV r.es[k].state ev = (n, b) := ⟨_, _, rfl⟩
    rw [hn] at h
    simp only [Prod.mk.injEq] at h
    obtain ⟨rfl, rfl⟩ := h
    have hs := nx_no hn
    obtain ⟨lim, top, es⟩ := r
    have : es.set k ⟨es[k].id, n⟩ = es := by
      rw [hs]
      exact List.set_getElem_self hk
    simp only [this]
theorem open_ok {r : RegistryD} {id : Int} (h : okRg r = true) : okRg (openRaw r id).1 = true := by
  obtain ⟨h1, h2, h3, h4, h5⟩ := okRg_iff.1 h
  unfold openRaw
  split
  · rename_i c
    have hid := idB_iff.1 c.1
    split
    · refine okRg_iff.2 ⟨h1, .inr c.1, h3, fun i hi => ⟨?_, (h4 i hi).2⟩, h5⟩
      have := entOk_iff.1 (h4 i hi).1
      exact entOk_iff.2 ⟨this.1, by simp only; omega, this.2.2⟩
    · rename_i hf
      refine okRg_iff.2 ⟨h1, .inr c.1, ?_, fun i hi => ?_, ?_⟩
      · simp only [List.length_append, List.length_cons, List.length_nil]; omega
      · simp only [List.length_append, List.length_cons, List.length_nil] at hi
        by_cases hl : i < r.es.length
        · rw [List.getElem_append_left hl]
          have hh := entOk_iff.1 (h4 i hl).1
          refine ⟨entOk_iff.2 ⟨hh.1, by simp only; omega, hh.2.2⟩, fun h0 => ?_⟩
          rw [List.getElem_append_left (by omega)]
          exact (h4 i hl).2 h0
        · obtain rfl : i = r.es.length := by omega
          simp only [List.getElem_concat_length]
          refine ⟨entOk_iff.2 ⟨c.1, Int.le_refl _, by simp, by simp⟩, fun h0 => ?_⟩
          rw [List.getElem_append_left (by omega)]
          have := entOk_iff.1 (h4 (r.es.length - 1) (by omega)).1
          omega
      · have e1 : liveL [(⟨id, 1⟩ : EntryD)] = 1 := rfl
        simp only [live_app, e1]; omega
  · exact h
theorem open_bad {r : RegistryD} {id : Int} {x : RegistryD} (h : openRaw r id = (x, 1)) : x = r := by
  unfold openRaw at h
  split at h
  · split at h <;> simp at h
  · simp at h; exact h.symm
theorem open_yes {r : RegistryD} {id : Int} {x : RegistryD} (hr : okRg r = true) (h : openRaw r id = (x, 0)) : stateD x id = 1 ∧ liveL x.es = liveL r.es + 1 ∧ r.top < id ∧ x.top = id := by
  unfold openRaw at h
  split at h
  · rename_i c
    split at h
    · simp at h
    · simp only [Prod.mk.injEq, and_true] at h
      subst h
      obtain ⟨h1, h2, h3, h4, h5⟩ := okRg_iff.1 hr
      have e1 : liveL [(⟨id, 1⟩ : EntryD)] = 1 := rfl
      refine ⟨?_, by simp only [live_app, e1], c.2, rfl⟩
      have hat : atE (r.es ++ [(⟨id, 1⟩ : EntryD)]) id = some r.es.length := atE_of _ (by simp) (by simp) (fun j hj => by
        rw [List.getElem_append_left hj]
        have := (entOk_iff.1 (h4 j hj).1).2.1
        omega)
      rw [stateD_some (r := ⟨r.lim, id, r.es ++ [(⟨id, 1⟩ : EntryD)]⟩) hat (by simp)]
      simp
  · simp at h
theorem open_top {r : RegistryD} {id k : Int} {x : RegistryD} (h : openRaw r id = (x, k)) (hk : k ≠ 1) : x.top = id := by
  unfold openRaw at h
  split at h
  · split at h <;> simp at h <;> rw [← h.1]
  · simp at h; omega
theorem open_again {r : RegistryD} {id : Int} (h : id ≤ r.top) : openRaw r id = (r, 1) := by unfold openRaw; rw [if_neg (by omega)]
theorem openRaw_code (r : RegistryD) (id : Int) : (openRaw r id).2 = 0 ∨ (openRaw r id).2 = 1 ∨ (openRaw r id).2 = 2 := by
  unfold openRaw
  split
  · split <;> simp
  · simp
theorem live_filter (L : List EntryD) : liveL (L.filter fun e => !decide (e.state = 4)) = liveL L ∧ ((L.filter fun e => !decide (e.state = 4)).length : Int) = liveL L := by
  unfold liveL
  induction L with
  | nil => simp [sumLs]
  | cons e L ih =>
    by_cases h : e.state = 4
    · rw [List.filter_cons_of_neg (by simp [h])]
      simp only [sumLs, lv1, h, if_true]; omega
    · rw [List.filter_cons_of_pos (by simp [h])]
      simp only [sumLs, List.length_cons, lv1, h, if_false]; omega
theorem rises_iff {r : RegistryD} : (∀ i (h : i < r.es.length), (0 < i → (r.es[i - 1]'(by omega)).id < r.es[i].id)) ↔ r.es.Pairwise fun a b => a.id < b.id := by
  constructor
  · intro h
    refine List.pairwise_iff_getElem.2 fun i j hi hj hij => ?_
    induction j with
    | zero => omega
    | succ j ih =>
      have h1 := h (j + 1) hj (by omega)
      simp only [Nat.add_sub_cancel] at h1
      by_cases e : i = j
      · subst e; exact h1
      · have := ih (by omega) (by omega); omega
  · intro h i hi h0
    exact List.pairwise_iff_getElem.1 h (i - 1) i (by omega) hi (by omega)
theorem swept_ok {r : RegistryD} (h : okRg r = true) : okRg ⟨r.lim, r.top, r.es.filter fun e => !decide (e.state = 4)⟩ = true := by
  obtain ⟨h1, h2, h3, h4, h5⟩ := okRg_iff.1 h
  have hp := (rises_iff (r := r)).1 fun i hi => (h4 i hi).2
  have hp2 := hp.filter (fun e => !decide (e.state = 4))
  have hr2 := (rises_iff (r := ⟨r.lim, r.top, r.es.filter fun e => !decide (e.state = 4)⟩)).2 hp2
  have hl := live_filter r.es
  refine okRg_iff.2 ⟨h1, h2, ?_, fun i hi => ⟨?_, hr2 i hi⟩, by simp only; omega⟩
  · have := live_le r.es; simp only; omega
  · have hm := List.getElem_mem hi
    obtain ⟨j, hj, hje⟩ := List.mem_iff_getElem.1 (List.mem_filter.1 hm).1
    simp only at hje ⊢
    rw [← hje]
    exact (h4 j hj).1
theorem atE_id {r : RegistryD} (h : okRg r = true) {e : EntryD} (he : e ∈ r.es) : ∃ k, ∃ hk : k < r.es.length, atE r.es e.id = some k ∧ r.es[k] = e := by
  obtain ⟨k, hk, rfl⟩ := List.mem_iff_getElem.1 he
  refine ⟨k, hk, atE_of k hk rfl (fun j hj => ?_), rfl⟩
  have := rise_lt h j k hj hk
  omega
theorem swept_state {r : RegistryD} (h : okRg r = true) (id : Int) : stateD ⟨r.lim, r.top, r.es.filter fun e => !decide (e.state = 4)⟩ id = stateD r id := by
  have hs := swept_ok h
  obtain ⟨h1, h2, h3, h4, h5⟩ := okRg_iff.1 h
  cases hq : atE r.es id with
  | none =>
    have hn : atE (r.es.filter fun e => !decide (e.state = 4)) id = none := atE_no fun e he => atE_none hq e (List.mem_filter.1 he).1
    rw [stateD_none hq, stateD_none (r := ⟨r.lim, r.top, r.es.filter fun e => !decide (e.state = 4)⟩) hn]
  | some k =>
    obtain ⟨hk, e1, e2⟩ := atE_some hq
    rw [stateD_some hq hk]
    by_cases h4' : r.es[k].state = 4
    · have hn : atE (r.es.filter fun e => !decide (e.state = 4)) id = none := atE_no fun e he => by
        intro hid
        obtain ⟨hm, hst⟩ := List.mem_filter.1 he
        obtain ⟨k2, hk2, ha, hb⟩ := atE_id h hm
        rw [hid, hq] at ha
        simp at ha
        subst ha
        rw [hb] at h4'
        simp [h4'] at hst
      rw [stateD_none (r := ⟨r.lim, r.top, r.es.filter fun e => !decide (e.state = 4)⟩) hn, h4']
      have := entOk_iff.1 (h4 k hk).1
      rw [e1] at this
      rw [if_pos ⟨this.1, this.2.1⟩]
    · have hm : r.es[k] ∈ (⟨r.lim, r.top, r.es.filter fun e => !decide (e.state = 4)⟩ : RegistryD).es := List.mem_filter.2 ⟨List.getElem_mem hk, by simp [h4']⟩
      obtain ⟨k2, hk2, ha, hb⟩ := atE_id hs hm
      rw [e1] at ha
      rw [stateD_some ha hk2, hb]
-- sizes
theorem cnt_entries (L : List EntryD) : cntEntryS L = 2 * L.length := by
  unfold cntEntryS
  induction L with
  | nil => rfl
  | cons e L ih => simp only [cntLs, cntEntry, List.length_cons, ih]; omega
theorem opened_len (r : RegistryD) (id : Int) : (openedD r id).1.es.length ≤ r.es.length + 1 := by
  unfold openedD openRaw
  repeat' split
  all_goals simp
theorem happened_len (r : RegistryD) (id ev : Int) : (happenedD r id ev).1.es.length ≤ r.es.length + 1 := by
  unfold happenedD
  split
  · cases hq : atE r.es id with
    | none => rw [happenRaw_none hq]; simp
    | some k => obtain ⟨hk, _⟩ := atE_some hq; rw [happenRaw_some hq hk]; simp
  · simp
theorem swept_len (r : RegistryD) : (sweptD r).es.length ≤ r.es.length + 1 := by
  unfold sweptD
  split
  · have := List.length_filter_le (fun e : EntryD => !decide (e.state = 4)) r.es; simp only; omega
  · simp
end Go.Proofs.YtllaeakeaabiaaaGreat
/- Chapter 3's Prefixed of the program: the bytes of the iterator, the high bits put into the first. -/
namespace Go.Proofs.YtllaeakeaabiaaaGreat
open Go.RowKit Go.Shelf
attribute [local go_sem] Oper.semAt_some
set_option linter.unusedSimpArgs false
set_option linter.unusedVariables false

theorem bytesOf_cons {n b : Int} (hn0 : 0 ≤ n) (hn : n ≤ 268435456) (h1 : 1 ≤ b) (h8 : b ≤ 8) : ∃ x xs, bytesOf n (pw b - 1) = x :: xs ∧ 0 ≤ x ∧ x < pw b ∧ ∀ y ∈ xs, 0 ≤ y ∧ y ≤ 255 := by
  have hp := pw_lo h1 h8
  unfold bytesOf
  split
  · exact ⟨n, [], rfl, by omega, by omega, by simp⟩
  · exact ⟨_, _, rfl, by omega, by omega, restF_range 4 _ (by omega) (by simp; omega)⟩

set_option maxRecDepth 100000 in
set_option maxHeartbeats 2000000 in
theorem implPrefixed (n b h : Int) (w : World) : Calls Tryz.prog 255 #[.int .i64 n, .int .i64 b, .int .i64 h] w fun e w' => e = .returned (.string (preV n b h)) ∧ Below w.heap.size w w' := by
  cases hok : okN n b
  · have hv : preV n b h = ⟨#[]⟩ := by simp [preV, okP, hok]
    rw [hv]
    go_enter Tryz.func255, Tryz.ntmps255
    go_wp2_with (go_at_call 257; refine (implPrefixable n b _).mono ?_; rw [hok]; rintro e w0 ⟨rfl, rfl⟩)
    go_ret
    exact ⟨rfl, Below.refl _ _⟩
  · obtain ⟨hn0, hn, h1, h8⟩ := okN_true hok
    obtain ⟨hp1, hp2⟩ := pw_lo h1 h8
    cases hin : inB h 0 255
    · have hv : preV n b h = ⟨#[]⟩ := by simp [preV, okP, hin]
      rw [hv]
      go_enter Tryz.func255, Tryz.ntmps255
      go_wp2_with (first | (go_at_call 257; refine (implPrefixable n b _).mono ?_; rw [hok]; rintro e w0 ⟨rfl, rfl⟩) | (go_at_call 126; refine (implWithin _ _ _ _).mono ?_; rw [hin]; rintro e w0 ⟨rfl, rfl⟩))
      go_ret
      exact ⟨rfl, Below.refl _ _⟩
    · obtain ⟨hh0, hh1⟩ := inB_true hin
      have hand := and_pw hh0 hh1 h1 h8
      by_cases hm : h % pw b = 0
      · have hop : okP n b h = true := by simp [okP, hok, hin, hm]
        have hv : preV n b h = strOf (addHead h (bytesOf n (pw b - 1))) := by simp [preV, hop]
        rw [hv]
        have hfit := (okP_true hop).2.2.2
        have hlen := (bytesOf_len n (pw b - 1)).2
        obtain ⟨i0, hi, hz0, hz1, hz2⟩ := info_parts (P := Tryz.prog) (e := 5) (z := .int .u8 0) (size := 1) (bytes := 1) (by kernel_rfl)
        refine (callsIn_wide (n := 4)).1 ?_
        refine callsIn_of_wp_marks Tryz.func255 rfl trivial ?_ rfl
        simp only [Tryz.ntmps255, List.size_toArray, List.length_cons, List.length_nil, Nat.reduceAdd, Nat.reduceSub, Array.replicate_succ, Array.replicate_zero, List.push_toArray, List.append_toArray, List.nil_append, List.cons_append]
        gi_wp2_with (first | (refine ⟨trivial, ?_⟩; gi_at_call 257; refine (callsIn_wide.2 (implPrefixable n b _)).mono ?_; rw [hok]; rintro e w0 ⟨rfl, rfl⟩) | (refine ⟨trivial, ?_⟩; gi_at_call 126; refine (callsIn_wide.2 (implWithin _ _ _ _)).mono ?_; rw [hin]; rintro e w0 ⟨rfl, rfl⟩) | (refine ⟨trivial, ?_⟩; gi_at_call 171; refine (callsIn_wide.2 (implLowest _ _ h1 h8)).mono ?_; rintro e w0 ⟨rfl, rfl⟩) | (refine ⟨trivial, ?_⟩; gi_at_call 258; refine (prefixBytes_in _ n b _).mono ?_; rintro e w1 ⟨rfl, rfl⟩))
        have bM := Boxed.new w0 131 (.slice none 0 0)
        have bN := Boxed.new (w0.alloc (.cells #[.slice none 0 0] 131)) 2 (.int .i64 n)
        have bB := Boxed.new ((w0.alloc (.cells #[.slice none 0 0] 131)).alloc (.cells #[.int .i64 n] 2)) 2 (.int .i64 b)
        simp only [World.size_alloc] at bN bB
        have hB0 : Below w0.heap.size w0 (((w0.alloc (.cells #[.slice none 0 0] 131)).alloc (.cells #[.int .i64 n] 2)).alloc (.cells #[.int .i64 b] 2)) := (((Below.refl _ w0).alloc (Nat.le_refl _) _).alloc (by simp) _).alloc (by simp; omega) _
        refine wpIn_rangeFunc_ownG rfl (by omega) (gf := 260) (lb := #[.pointer (some ⟨w0.heap.size + 1 + 1, 0, none⟩), .pointer (some ⟨w0.heap.size + 1, 0, none⟩)]) rfl trivial (enters_of Tryz.func260 (by kernel_rfl) rfl)
          (bytes_stops _ (by omega) (w0.heap.size + 1) (w0.heap.size + 1 + 1) n b hn0 hn h1 h8 _ (bN.alloc _) bB) kept2_t (kept2_b (by simp) (by simp)) (Below.refl _ _) (fun _ => rfl)
          (fun pre W => (∃ v, Boxed W w0.heap.size 131 v ∧ W.ownsRow w0.heap.size 5 1 v pre.length (pre.map (Value.int .u8)) ∧ True) ∧ Boxed W (w0.heap.size + 1) 2 (.int .i64 n) ∧ Boxed W (w0.heap.size + 1 + 1) 2 (.int .i64 b) ∧ Below w0.heap.size w0 W)
          (fun _ _ _ => False)
          (OwnFrom.and (Own.from (holdsRow_own w0.heap.size w0.heap.size 131 5 1 (fun pre : List Int => pre.length) (fun pre => pre.map (Value.int .u8)) (fun _ _ => True)) _) (OwnFrom.and (Own.from (boxed_own _ _ (fun _ => _)) _) (OwnFrom.and (Own.from (boxed_own _ _ (fun _ => _)) _) (ownFrom_below (Nat.le_refl _) (by simp; omega)))))
          (fun _ _ _ _ _ hs _ _ => hs)
          ⟨⟨_, (bM.alloc _).alloc _, World.ownsRow_nil _ _ _ _, trivial⟩, bN.alloc _, bB, hB0⟩
          (fun x => { tmps := #[.int .i64 n, .int .i64 b, .int .i64 h, undef, undef, undef, .string ⟨#[]⟩, .pointer (some ⟨w0.heap.size, 0, none⟩), .int .u8 x, .int .i64 n, .int .i64 b, .bool true, .bool false, .bool false, .int .i64 h, .bool true, .bool false, .bool false, .bool false, .int .i64 h, .int .i64 b, .int .i64 (pw b - 1), .int .i64 0, .bool false, .bool false, .int .i64 n, .int .i64 b, .func (.func 260) #[] #[.pointer (some ⟨w0.heap.size + 1 + 1, 0, none⟩), .pointer (some ⟨w0.heap.size + 1, 0, none⟩)], .int .u8 x, undef, undef, undef, undef, undef, undef, undef, undef, undef, undef, undef, undef, undef], defers := [] }) ?assign ?body ?done ?stop
        case assign =>
          intro l x W K hK
          gi_wp2
          exact hK
        case body =>
          rintro l pre x W ⟨⟨v, hv, hrow, _⟩, hN, hBb, hB⟩ hpl
          have hc := hv.cell
          have hsz := hB.size
          gi_wp2_with (gi_at_builtin; refine wpListIn_append_own _ rfl _ _ 131 rfl w0.heap.size 5 i0 (.int .u8 0) 1 1 Tryz.underlying131 hi hz0 hz1 hz2 rfl (by decide) _ _ _ rfl (hrow.alloc _) ⟨W.heap.size, 0, none⟩ 1 1 [.int .u8 x] rfl rfl (cell_one_new _ _ _) (by simp [Value.oneCell']) (by unfold maxLen; omega) (by omega) (by simp; omega) ?_; intro v' w1 hown' hgrow _; obtain ⟨g', cap', rfl⟩ := ownsRow_succ hown'; obtain ⟨hv1, hv2, hr2, hk2, hb2⟩ := hv.appended (by decide) hrow hB.size (Nat.le_refl _) hown' hgrow; have hc1 := hv1.cell; have hf1 := hv1.frozen)
          have hN1 : Boxed w1 (w0.heap.size + 1) 2 (.int .i64 n) := (hN.alloc _).kept hgrow (hN.not_row (by decide) hrow)
          have hB1 : Boxed w1 (w0.heap.size + 1 + 1) 2 (.int .i64 b) := (hBb.alloc _).kept hgrow (hBb.not_row (by decide) hrow)
          have hN2 := hN1.kept (grownBy_setCell' w1 w0.heap.size (.slice (some ⟨g', 0, none⟩) (pre.length + 1) cap')) (by simp)
          have hB2 := hB1.kept (grownBy_setCell' w1 w0.heap.size (.slice (some ⟨g', 0, none⟩) (pre.length + 1) cap')) (by simp; omega)
          exact ⟨hk2.from _, ⟨(show _ = _ from hN2).trans hN.symm, (show _ = _ from hB2).trans hBb.symm⟩, ⟨_, hv2, by simpa using hr2, trivial⟩, hN2, hB2, hB.trans hb2⟩
        case done =>
          rintro D ys W hD hys ⟨⟨v, hv, hrow, _⟩, hN, hBb, hB⟩ hK
          obtain ⟨x, xs, hbo, hx0, hx1, hxs⟩ := bytesOf_cons hn0 hn h1 h8
          have HBO : Hid (bytesOf n (pw b - 1) = x :: xs) := hbo
          rw [hbo] at hys hlen
          subst hys
          rw [List.length_cons] at hrow hlen
          obtain ⟨g, cap, rfl⟩ := ownsRow_succ hrow
          obtain ⟨-, hfu, hgb, hcap, hlt⟩ := ownsRow_at (t := 0) hrow (by omega)
          have hcx : W.cell? ⟨g, 0, none⟩ = some (.int .u8 x) := by
            obtain ⟨q1, q2⟩ := hrow
            rcases q2 with ⟨q2, _⟩ | ⟨b', cap', cur, e1, e2, e3, e4, e5, e6, e7⟩
            · cases q2
            · simp only [Value.slice.injEq, Option.some.injEq, Addr.mk.injEq, and_true, true_and] at e1
              obtain ⟨rfl, rfl⟩ := e1
              have h6 : W.cell? ⟨g, 0, none⟩ = cur[0]? := by simp [World.cell?, e3]
              have h8 : (cur.toList.take ((xs.length + 1) * 1))[0]? = ((x :: xs).map (Value.int .u8))[0]? := by rw [e7]
              rw [List.getElem?_take_of_lt (by omega)] at h8
              rw [h6, ← Array.getElem?_toList, h8]; rfl
          have hor := or_pw hx0 hx1 hh0 hh1 hm h1 h8
          have hc := hv.cell
          have hne : g ≠ w0.heap.size := by
            rintro rfl
            exact hv.not_row (by decide) hrow rfl
          have hrow2 := ownsRow_set (t := 0) hrow (.int .u8 (h + x))
          have hcv := row_string (l := (h + x) :: xs) (by simpa using hrow2) (by intro y hy; rcases List.mem_cons.1 hy with rfl | hy; omega; exact hxs y hy)
          have hK2 := (KeepsOthers.setCell W ⟨g, 0, none⟩ (.int .u8 (h + x))).same D _ hK rfl
          have hB2 := hB.setCell (p := ⟨g, 0, none⟩) hgb (.int .u8 (h + x))
          clear hrow hrow2 hbo
          gi_wp2
          refine ⟨by simp, .inl ⟨_, _, rfl, run_takeDeferred hK2, ?_⟩⟩
          exact ⟨_, results_tmp rfl _ _ _, by rw [HBO.out]; rfl, hB2.trans (belowK_b (w := w0) (Nat.le_refl _) _ D _ _ (by simp at hD; omega) hK2 rfl rfl)⟩
        case stop =>
          rintro D c pre W _ _ h _
          exact h.elim
      · have hv : preV n b h = ⟨#[]⟩ := by simp [preV, okP, hm]
        rw [hv]
        go_enter Tryz.func255, Tryz.ntmps255
        go_wp2_with (first | (go_at_call 257; refine (implPrefixable n b _).mono ?_; rw [hok]; rintro e w0 ⟨rfl, rfl⟩) | (go_at_call 126; refine (implWithin _ _ _ _).mono ?_; rw [hin]; rintro e w0 ⟨rfl, rfl⟩) | (go_at_call 171; refine (implLowest _ _ h1 h8).mono ?_; rintro e w0 ⟨rfl, rfl⟩))
        go_ret
        exact ⟨rfl, Below.refl _ _⟩
end Go.Proofs.YtllaeakeaabiaaaGreat
/- Chapter 3's iterator over what each byte adds: whoever ranges over it gets just these parts, in their order. -/
namespace Go.Proofs.YtllaeakeaabiaaaGreat
open Go.RowKit Go.Shelf
attribute [local go_sem] Oper.semAt_some
set_option linter.unusedSimpArgs false
set_option linter.unusedVariables false

abbrev encP (x : Int × Bool) : Array Value := #[.int .i64 x.1, .bool x.2]

set_option maxRecDepth 100000 in
set_option maxHeartbeats 4000000 in
theorem parts1_in (m : Nat) (hm : 1 ≤ m) (l Bs Bb : Nat) (s : ByteArray) (b : Int) (hs : s.size ≤ maxLen) (h1 : 1 ≤ b) (h8 : b ≤ 8) (J Jx : List (Int × Bool) → World → Prop)
    (hY : ∀ pre x W, J pre W → pre.length < (ptV s b).length → YieldAt Fence.wide (m - 1) Tryz.prog l (encP x) W fun e W' =>
      (e = .returned (.bool true) ∧ J (pre ++ [x]) W' ∧ Kept2 Bs Bb W W') ∨ (e = .returned (.bool false) ∧ Jx (pre ++ [x]) W'))
    (W : World) (hBs : Boxed W Bs 9 (.string s)) (hBb : Boxed W Bb 2 (.int .i64 b)) (h0 : J [] W) :
    CallsIn Fence.wide m Tryz.prog 256 #[.func (.yield l) #[] #[], .pointer (some ⟨Bs, 0, none⟩), .pointer (some ⟨Bb, 0, none⟩)] W fun e W' => (∃ v, e = .returned v) ∧
      ((∃ ys, ys = ptV s b ∧ J ys W') ∨ (∃ pre, True ∧ Jx pre W')) := by
  unfold maxLen at hs
  obtain ⟨hp1, hp2⟩ := pw_lo h1 h8
  have cs := hBs.cell
  have cb := hBb.cell
  by_cases hz : s.size = 0
  · have hv := ptV_empty (b := b) hz
    obtain rfl := size0 hz
    refine callsIn_of_wp Tryz.func256 rfl trivial ?_ rfl
    simp only [Tryz.ntmps256, List.size_toArray, List.length_cons, List.length_nil, Nat.reduceAdd, Nat.reduceSub, Array.replicate_succ, Array.replicate_zero, List.push_toArray, List.append_toArray, List.nil_append, List.cons_append]
    gi_wp2
    refine bodyPost_ret (results_none rfl _ _ _) rfl ?_
    exact ⟨⟨_, rfl⟩, .inl ⟨[], hv.symm, h0⟩⟩
  have hp : 0 < s.size := by omega
  have hne := list_ne hp
  have hne' := list_isEmpty hp
  have hx : (s[0].toNat : Int) ≤ 255 := by have := s[0].toNat_lt; omega
  have hx0 : 0 ≤ (s[0].toNat : Int) := by omega
  have hand := and_pw hx0 hx h1 h8
  have hm' := Int.emod_lt_of_pos (s[0].toNat : Int) (show (0 : Int) < pw b by omega)
  have hm0 := Int.emod_nonneg (s[0].toNat : Int) (show pw b ≠ 0 by omega)
  by_cases hsm : (s[0].toNat : Int) % pw b < pw b - 1
  · have HV : Hid (ptV s b = [((s[0].toNat : Int) % pw b, true)]) := ptV_small hp hsm
    obtain ⟨fn, tmps, assign, body, hy, hR⟩ := hY [] ((s[0].toNat : Int) % pw b, true) W h0 (by rw [HV.out]; simp)
    dsimp only [encP] at hy
    refine callsIn_of_wp Tryz.func256 rfl trivial ?_ rfl
    simp only [Tryz.ntmps256, List.size_toArray, List.length_cons, List.length_nil, Nat.reduceAdd, Nat.reduceSub, Array.replicate_succ, Array.replicate_zero, List.push_toArray, List.append_toArray, List.nil_append, List.cons_append]
    gi_wp2_with (refine ⟨trivial, ?_⟩; gi_at_call 171; refine (callsIn_wide.2 (implLowest b _ h1 h8)).mono ?_; rintro e w' ⟨rfl, rfl⟩)
    refine hR.mono ?_
    rintro e W3 (⟨rfl, hJ3, hk3⟩ | ⟨rfl, hJx3⟩)
    · gi_wp2
      refine bodyPost_ret (results_none rfl _ _ _) rfl ?_
      exact ⟨⟨_, rfl⟩, .inl ⟨_, HV.out.symm, hJ3⟩⟩
    · gi_wp2
      refine bodyPost_ret (results_none rfl _ _ _) rfl ?_
      exact ⟨⟨_, rfl⟩, .inr ⟨_, trivial, hJx3⟩⟩
  · have hd : decide ((s[0].toNat : Int) % pw b < pw b - 1) = false := decide_eq_false hsm
    have HV : Hid (ptV s b = [((s[0].toNat : Int) % pw b, false)] ++ ptF 5 1 ((bys s).drop 1)) := ptV_more hp hsm
    obtain ⟨fn, tmps, assign, body, hy, hR⟩ := hY [] ((s[0].toNat : Int) % pw b, false) W h0 (by rw [HV.out]; simp)
    dsimp only [encP] at hy
    refine callsIn_of_wp Tryz.func256 rfl trivial ?_ rfl
    simp only [Tryz.ntmps256, List.size_toArray, List.length_cons, List.length_nil, Nat.reduceAdd, Nat.reduceSub, Array.replicate_succ, Array.replicate_zero, List.push_toArray, List.append_toArray, List.nil_append, List.cons_append]
    gi_wp2_with (refine ⟨trivial, ?_⟩; gi_at_call 171; refine (callsIn_wide.2 (implLowest b _ h1 h8)).mono ?_; rintro e w' ⟨rfl, rfl⟩)
    refine hR.mono ?_
    rintro e W3 (⟨rfl, hJ3, hk3⟩ | ⟨rfl, hJx3⟩)
    · have bs3 := hk3.boxed1 hBs
      gi_wp2
      gi_loopw [6, 7] (fun u t wr => ∃ (i : Nat) (p : Int) (pre : List (Int × Bool)), 1 ≤ i ∧ i ≤ 6 ∧ i ≤ s.size ∧ t = .int .i64 i ∧ u = .int .i64 p ∧ Plc i p ∧ Hid (ptV s b = pre ++ ptF (6 - i) p ((bys s).drop i)) ∧ Boxed wr Bs 9 (.string s) ∧ J pre wr) (fun _ t _ => 6 - (intOf t).toNat)
      case atStart => exact ⟨1, 1, _, by omega, by omega, by omega, rfl, rfl, .inl ⟨rfl, rfl⟩, HV, bs3, hJ3⟩
      case round =>
        obtain ⟨i, p, pre, hi1, hi6, his, rfl, rfl, hplc, HP, bs, hJs⟩ := hrel
        have cs4 := bs.cell
        obtain ⟨-, -, hpl1, hpl2, hpl3⟩ := hplc.lo
        by_cases hlt : i < s.size
        · by_cases h6 : i < 6
          · have hp28 : p ≤ 268435456 := hpl3.1 (by omega)
            have hc1 : (s[i].toNat : Int) ≤ 255 := by have := s[i].toNat_lt; omega
            have hc0 : 0 ≤ (s[i].toNat : Int) := by omega
            have hq0 : 0 ≤ (s[i].toNat : Int) % 128 * p := Int.mul_nonneg (by omega) (by omega)
            have hq1 : (s[i].toNat : Int) % 128 * p ≤ 127 * p := Int.mul_le_mul_of_nonneg_right (by omega) (by omega)
            have h6i : 6 - i = (5 - i) + 1 := by omega
            have hPP := HP.out
            rw [bys_drop s i hlt, h6i] at hPP
            clear HP h6i
            by_cases hc : (s[i].toNat : Int) < 128
            · rw [ptF_last hc] at hPP
              have HPP : Hid (ptV s b = pre ++ [((s[i].toNat : Int) % 128 * p, true)]) := hPP
              clear hPP
              obtain ⟨fn4, tmps4, assign4, body4, hy4, hR4⟩ := hY pre ((s[i].toNat : Int) % 128 * p, true) wr hJs (by rw [HPP.out]; simp)
              dsimp only [encP] at hy4
              gi_wp2
              refine hR4.mono ?_
              rintro e W4 (⟨rfl, hJ4, hk4⟩ | ⟨rfl, hJx4⟩)
              · gi_wp2
                refine bodyPost_ret (results_none rfl _ _ _) rfl ?_
                exact ⟨⟨_, rfl⟩, .inl ⟨_, HPP.out.symm, hJ4⟩⟩
              · gi_wp2
                refine bodyPost_ret (results_none rfl _ _ _) rfl ?_
                exact ⟨⟨_, rfl⟩, .inr ⟨_, trivial, hJx4⟩⟩
            · have hdc : decide ((s[i].toNat : Int) < 128) = false := decide_eq_false hc
              rw [ptF_more (by omega)] at hPP
              have HPP : Hid (ptV s b = (pre ++ [((s[i].toNat : Int) % 128 * p, false)]) ++ ptF (6 - (i + 1)) (p * 128) ((bys s).drop (i + 1))) := by
                show _ = _
                rw [hPP, show 6 - (i + 1) = 5 - i by omega]; simp
              have HPl := hplc.next (by omega)
              clear hPP hplc
              obtain ⟨fn4, tmps4, assign4, body4, hy4, hR4⟩ := hY pre ((s[i].toNat : Int) % 128 * p, false) wr hJs (by rw [HPP.out]; simp)
              dsimp only [encP] at hy4
              gi_wp2
              refine hR4.mono ?_
              rintro e W4 (⟨rfl, hJ4, hk4⟩ | ⟨rfl, hJx4⟩)
              · gi_wp2
                go_roundw
                case rel => exact ⟨i + 1, _, _, by omega, by omega, by omega, by go_num, rfl, HPl, HPP, hk4.boxed1 bs, hJ4⟩
                case measure => simp [intOf]; omega
              · gi_wp2
                refine bodyPost_ret (results_none rfl _ _ _) rfl ?_
                exact ⟨⟨_, rfl⟩, .inr ⟨_, trivial, hJx4⟩⟩
          · have hi : i = 6 := by omega
            have hp34 : ¬ p ≤ 268435456 := fun h => h6 (by have := hpl3.2 h; omega)
            have HPP : Hid (ptV s b = pre) := by show _ = _; rw [HP.out, hi]; simp [ptF]
            clear HP
            gi_wp2
            go_end0
            first | exact ⟨⟨_, rfl⟩, .inl ⟨_, HPP.out.symm, hJs⟩⟩ | exact ⟨⟨_, rfl⟩, .inl (by rw [HPP.out]; exact hJs)⟩
        · have HPP : Hid (ptV s b = pre) := by show _ = _; rw [HP.out, bys_end s i (by omega), ptF_nil]; simp
          clear HP
          gi_wp2
          go_end0
          exact ⟨⟨_, rfl⟩, .inl ⟨_, HPP.out.symm, hJs⟩⟩
    · gi_wp2
      refine bodyPost_ret (results_none rfl _ _ _) rfl ?_
      exact ⟨⟨_, rfl⟩, .inr ⟨_, trivial, hJx3⟩⟩

set_option maxHeartbeats 1000000 in
/-- The closure's maker: both arguments are boxed. -/
theorem prefixParts_in (m : Nat) (s : ByteArray) (b : Int) (w : World) :
    CallsIn Fence.wide m Tryz.prog 249 #[.string s, .int .i64 b] w fun e w' => e = .returned (.func (.func 256) #[] #[.pointer (some ⟨w.heap.size, 0, none⟩), .pointer (some ⟨w.heap.size + 1, 0, none⟩)])
      ∧ w' = (w.alloc (.cells #[.string s] 9)).alloc (.cells #[.int .i64 b] 2) := by
  refine callsIn_of_wp Tryz.func249 rfl trivial ?_ rfl
  simp only [Tryz.ntmps249, List.size_toArray, List.length_cons, List.length_nil, Nat.reduceAdd, Nat.reduceSub, Array.replicate_succ, Array.replicate_zero, List.push_toArray, List.append_toArray, List.nil_append, List.cons_append]
  gi_wp2
  go_ret
  exact ⟨rfl, rfl⟩

theorem parts_stops (m : Nat) (hm : 1 ≤ m) (Bs Bb : Nat) (s : ByteArray) (b : Int) (hs : s.size ≤ maxLen) (h1 : 1 ≤ b) (h8 : b ≤ 8) (w : World) (hBs : Boxed w Bs 9 (.string s)) (hBb : Boxed w Bb 2 (.int .i64 b)) :
    SeqStopsK Fence.wide m Tryz.prog 256 #[.pointer (some ⟨Bs, 0, none⟩), .pointer (some ⟨Bb, 0, none⟩)] encP (Kept2 Bs Bb) (fun ys => ys = ptV s b) (fun _ => True) (ptV s b).length w :=
  fun l J Jx W hW _ _ hY h0 => parts1_in m hm l Bs Bb s b hs h1 h8 J Jx hY W ((hW.block Bs hBs.lt).trans hBs) ((hW.block Bb hBb.lt).trans hBb) h0
end Go.Proofs.YtllaeakeaabiaaaGreat
/- Chapter 3's ReadPrefixed of the model. -/
namespace Go.Proofs.YtllaeakeaabiaaaGreat
open Go.RowKit
set_option maxRecDepth 100000
set_option linter.unusedSimpArgs false
set_option linter.unusedVariables false

theorem rdF_end (k : Nat) (n p : Int) (i : Nat) : rdF k n p i [] = (-1, 0) := by cases k <;> rfl
theorem rdF_last {k : Nat} {n p c : Int} {i : Nat} {cs : List Int} (h : c < 128) : rdF (k + 1) n p i (c :: cs) = if 268435456 < n + c % 128 * p ∨ (1 < i ∧ c = 0) then (-1, 0) else (n + c % 128 * p, (i : Int) + 1) := by simp only [rdF, if_pos h]
theorem rdF_more {k : Nat} {n p c : Int} {i : Nat} {cs : List Int} (h : ¬ c < 128) : rdF (k + 1) n p i (c :: cs) = rdF k (n + c % 128 * p) (p * 128) (i + 1) cs := by simp only [rdF, if_neg h]

set_option maxRecDepth 100000 in
set_option maxHeartbeats 4000000 in
theorem specRead (s : ByteArray) (b : Int) (w : World) (hs : s.size ≤ maxLen) : Calls Tryz.prog 188 #[.string s, .int .i64 b] w fun e w' => e = .returned (.tuple #[.int .i64 (rdV s b).1, .int .i64 (rdV s b).2]) ∧ Below w.heap.size w w' := by
  unfold maxLen at hs
  by_cases h0 : s.size = 0
  · rw [rdV_empty h0]
    obtain rfl := size0 h0
    go_enter Tryz.func188, Tryz.ntmps188
    go_wp2_with fail
    go_ret2
    exact ⟨rfl, Below.refl _ _⟩
  have hp : 0 < s.size := by omega
  have hne := list_ne hp
  have hne' := list_isEmpty hp
  cases hb : inB b 1 8
  · rw [rdV_bits hb]
    go_enter Tryz.func188, Tryz.ntmps188
    go_wp2_with (go_at_call 51; refine (specIn _ _ _ _).mono ?_; rw [hb]; rintro e w' ⟨rfl, rfl⟩)
    go_ret2
    exact ⟨rfl, Below.refl _ _⟩
  obtain ⟨h1, h8⟩ := inB_true hb
  obtain ⟨hp1, hp2⟩ := pw_lo h1 h8
  have hpw : (2 : Int) ^ b.toNat = pw b := rfl
  have hx : (s[0].toNat : Int) ≤ 255 := by have := s[0].toNat_lt; omega
  have hx0 : 0 ≤ (s[0].toNat : Int) := by omega
  have hand := and_pw hx0 hx h1 h8
  have hm := Int.emod_lt_of_pos (s[0].toNat : Int) (show (0 : Int) < pw b by omega)
  have hm0 := Int.emod_nonneg (s[0].toNat : Int) (show pw b ≠ 0 by omega)
  by_cases hsm : (s[0].toNat : Int) % pw b < pw b - 1
  · rw [rdV_small hp hb hsm]
    go_enter Tryz.func188, Tryz.ntmps188
    go_wp2_with (go_at_call 51; refine (specIn _ _ _ _).mono ?_; rw [hb]; rintro e w' ⟨rfl, rfl⟩)
    go_ret2
    exact ⟨rfl, Below.refl _ _⟩
  · obtain ⟨R, hR⟩ : ∃ R, rdV s b = R := ⟨_, rfl⟩
    have hR5 := (rdV_more hp hb hsm).symm.trans hR
    rw [hR]
    clear hR
    have HR5 : Hid (rdF 5 ((s[0].toNat : Int) % pw b) 1 1 ((bys s).drop 1) = R) := hR5
    clear hR5
    go_enter Tryz.func188, Tryz.ntmps188
    go_wp2_with (go_at_call 51; refine (specIn _ _ _ _).mono ?_; rw [hb]; rintro e w' ⟨rfl, rfl⟩)
    go_loop [7, 8, 9] (fun u v t => ∃ (i : Nat) (n p : Int), 1 ≤ i ∧ i ≤ 6 ∧ i ≤ s.size ∧ t = .int .i64 i ∧ u = .int .i64 n ∧ v = .int .i64 p ∧ Plc i p ∧ 0 ≤ n ∧ n ≤ 255 + p ∧ Hid (rdF (6 - i) n p i ((bys s).drop i) = R)) (fun _ _ t => 6 - (intOf t).toNat)
    case atStart => exact ⟨1, (s[0].toNat : Int) % pw b, 1, by omega, by omega, by omega, rfl, rfl, rfl, .inl ⟨rfl, rfl⟩, by omega, by omega, HR5⟩
    case round =>
      obtain ⟨i, n, p, hi1, hi6, his, rfl, rfl, rfl, hplc, hn0, hn1, HR⟩ := hrel
      obtain ⟨-, -, hpl1, hpl2, hpl3⟩ := hplc.lo
      by_cases hlt : i < s.size
      · by_cases h6 : i < 6
        · have hp28 : p ≤ 268435456 := hpl3.1 (by omega)
          have hc1 : (s[i].toNat : Int) ≤ 255 := by have := s[i].toNat_lt; omega
          have hc0 : 0 ≤ (s[i].toNat : Int) := by omega
          have hq0 : 0 ≤ (s[i].toNat : Int) % 128 * p := Int.mul_nonneg (by omega) (by omega)
          have hq1 : (s[i].toNat : Int) % 128 * p ≤ 127 * p := Int.mul_le_mul_of_nonneg_right (by omega) (by omega)
          have hdr := bys_drop s i hlt
          have h6i : 6 - i = (5 - i) + 1 := by omega
          have hRR := HR.out
          rw [hdr, h6i] at hRR
          clear HR hdr h6i
          by_cases hc : (s[i].toNat : Int) < 128
          · rw [rdF_last hc] at hRR
            by_cases hbig : 268435456 < n + (s[i].toNat : Int) % 128 * p
            · rw [if_pos (.inl hbig)] at hRR
              have HRR : Hid ((-1, 0) = R) := hRR
              clear hRR
              go_wp2_with fail
              go_ret2
              exact ⟨by rw [← HRR.out]; rfl, Below.refl _ _⟩
            · by_cases hz : 1 < i ∧ (s[i].toNat : Int) = 0
              · rw [if_pos (.inr hz)] at hRR
                have HRR : Hid ((-1, 0) = R) := hRR
                obtain ⟨hz1, hz2⟩ := hz
                clear hRR
                go_wp2_with fail
                go_ret2
                exact ⟨by rw [← HRR.out]; rfl, Below.refl _ _⟩
              · rw [if_neg (by intro hh; rcases hh with hh | hh; exact hbig hh; exact hz hh)] at hRR
                have HRR : Hid ((n + (s[i].toNat : Int) % 128 * p, (i : Int) + 1) = R) := hRR
                clear hRR
                by_cases hz1 : 1 < i
                · have hz2 : ¬ (s[i].toNat : Int) = 0 := fun e => hz ⟨hz1, e⟩
                  clear hz
                  go_wp2_with fail
                  go_ret2
                  exact ⟨by rw [← HRR.out]; rfl, Below.refl _ _⟩
                · clear hz
                  go_wp2_with fail
                  go_ret2
                  exact ⟨by rw [← HRR.out]; rfl, Below.refl _ _⟩
          · rw [rdF_more hc] at hRR
            have HRR : Hid (rdF (6 - (i + 1)) (n + (s[i].toNat : Int) % 128 * p) (p * 128) (i + 1) ((bys s).drop (i + 1)) = R) := by show _ = _; rw [← hRR]; congr 1; omega
            have HP := hplc.next (by omega)
            clear hRR hplc
            go_wp2_with fail
            go_round
            case rel => exact ⟨i + 1, _, _, by omega, by omega, by omega, by go_num, rfl, rfl, HP, by omega, by omega, HRR⟩
            case measure => simp [intOf]; omega
        · have hi : i = 6 := by omega
          have HRR : Hid ((-1, 0) = R) := by show _ = _; rw [← HR.out, hi]; rfl
          clear HR
          go_wp2_with fail
          go_ret2
          exact ⟨by rw [← HRR.out]; rfl, Below.refl _ _⟩
      · have HRR : Hid ((-1, 0) = R) := by show _ = _; rw [← HR.out, bys_end s i (by omega), rdF_end]
        clear HR
        go_wp2_with fail
        go_ret2
        exact ⟨by rw [← HRR.out]; rfl, Below.refl _ _⟩
end Go.Proofs.YtllaeakeaabiaaaGreat
/- The ring's own functions: where a row stands, a row put last, the last one dropped. -/
namespace Go.Proofs.YtllaeakeaabiaaaGreat
open Go.RowKit
set_option maxRecDepth 100000
set_option linter.unusedSimpArgs false
set_option linter.unusedVariables false

/-- What the loads of a region read. -/
def S3 (b o : Nat) (v : Value) (g : Nat) (x y : Value) (u : World) : Prop := u.cell? ⟨b, o, none⟩ = some v ∧ u.cell? ⟨g, 0, none⟩ = some x ∧ u.cell? ⟨g, 1, none⟩ = some y
theorem slot1 (b first n : Nat) (sl : List Fd) (c g : Int) (w : World) (hs : sl.length = 112) (hr : RowIs w b 199 (rC sl first c g)) (hf : first < 112) (hn : n ≤ 112) :
    Calls Tryz.prog 227 #[.pointer (some ⟨b, 0, none⟩), .int .i64 n] w fun x w' => x = .returned (.pointer (some ⟨b, (first + n) % 112 * 2, none⟩)) ∧ Below w.heap.size w w' := by
  have c0 := hr.cell (rC_num hs first c g).1
  have hi1 : (0 : Int) ≤ ((first : Int) + n) % 112 ∧ ((first : Int) + n) % 112 < 112 := by omega
  have hi2 : (((first : Int) + n) % 112).toNat = (first + n) % 112 := by omega
  go_enter Tryz.func227, Tryz.ntmps227
  go_wp2_with fail
  go_quiet (fail)
  go_wp2_with fail
  go_ret
  exact ⟨rfl, (by repeat' (first | (with_reducible exact Below.refl _ _) | (with_reducible refine Below.drew ?_) | (with_reducible refine bo_drewN _ ?_) | (with_reducible refine bo_alloc ?_ _) | (refine bchain ?_ (by with_reducible assumption)) | (with_reducible refine Below.setCell ?_ ?_ _) | go_size))⟩

set_option maxHeartbeats 2000000 in
theorem putLast1 (b first n : Nat) (sl : List Fd) (g : Int) (f : Fd) (w : World) (hs : sl.length = 112) (hr : RowIs w b 199 (rC sl first n g)) (hf : first < 112) (hn : n ≤ 111) (hff : f.fine) (hg0 : 0 ≤ g) (hg1 : g ≤ 1000000) :
    Calls Tryz.prog 202 #[.pointer (some ⟨b, 0, none⟩), .agg #[.string f.n, .string f.v]] w fun x w' => x = .returned (.tuple #[]) ∧ RowIs w' b 199 (rC (sl.set ((first + n) % 112) f) first ((n + 1 : Nat) : Int) (g + wt f)) ∧ Turn b (b + 1) w w' := by
  have hbw := hr.lt
  go_enter Tryz.func202, Tryz.ntmps202
  go_wp2_with fail
  generalize hV : w.alloc (.cells #[.string f.n, .string f.v] 146) = V; have hbV : Below w.heap.size w V := (by rw [← hV]; exact (Below.refl _ _).alloc (Nat.le_refl _) _); have x0 : World.cell? V ⟨w.heap.size, 0, none⟩ = some (.string f.n) := (by rw [← hV]; simp); have x1 : World.cell? V ⟨w.heap.size, 1, none⟩ = some (.string f.v) := (by rw [← hV]; simp); have hlV : w.heap.size < (World.heap V).size := (by rw [← hV]; simp); clear hV
  have hrV := hr.new hbV
  have hbl : b < V.heap.size := hrV.lt
  have c1 := hrV.cell (rC_num hs first n g).2.1
  have hk : (first + n) % 112 < 112 := by omega
  obtain ⟨k, hkk⟩ : ∃ k, k = (first + n) % 112 := ⟨_, rfl⟩
  rw [← hkk] at hk
  obtain ⟨s0, s1⟩ := rC_slot hs first n g k hk
  have u0 := hrV.cell s0
  have u1 := hrV.cell s1
  have HK := hide hkk
  have z0 := hrV.frozen (k * 2)
  have z1 := hrV.frozen (k * 2 + 1)
  have hne : ¬ b = w.heap.size := by omega
  clear s0 s1 hkk
  have HRV := hide hrV
  clear hr hrV
  have hS0 := And.intro c1 (And.intro x0 x1)
  refine wp_region_held_drew (S := (S3 b 225 (.int .i64 n) w.heap.size (.string f.n) (.string f.v))) (by kernel_rfl) hS0 (fun hS => ?_)
  clear hS0
  refine wpAnyH_take (i := 0) (v := ?_) rfl (by kernel_rfl) (by kernel_rfl) (by kernel_rfl) (fun _ _ _ h => h) (Or.inl ⟨by rfl, ?_⟩) hS ?_; rotate_left; focus (intro w hw; clear hw; go_simp; try with_reducible rfl)
  refine wpAnyH_take (i := 1) (v := ?_) rfl (by kernel_rfl) (by kernel_rfl) (by kernel_rfl) (fun _ _ _ h => h) (Or.inl ⟨by rfl, ?_⟩) hS ?_; rotate_left; focus (intro w hw; clear hw; go_simp; try with_reducible rfl)
  refine wpAnyH_take (i := 2) (v := ?_) rfl (by kernel_rfl) (by kernel_rfl) (by kernel_rfl) (fun _ _ _ h => h) (Or.inl ⟨by rfl, ?_⟩) hS ?_; rotate_left; focus (intro w hw; clear hw; go_simp; try with_reducible rfl)
  refine wpAnyH_take (i := 3) (v := ?_) rfl (by kernel_rfl) (by kernel_rfl) (by kernel_rfl) (fun _ _ _ h => h) (Or.inl ⟨by rfl, ?_⟩) hS ?_; rotate_left; focus (intro w hw; clear hw; go_simp; try with_reducible rfl)
  refine wpAnyH_take (i := 4) (v := ?_) rfl (by kernel_rfl) (by kernel_rfl) (by kernel_rfl) (fun _ _ _ h => h) (Or.inl ⟨by rfl, ?_⟩) hS ?_; rotate_left; focus (intro w hw; obtain ⟨l0, l1, l2⟩ := hw; go_simp; try with_reducible rfl)
  refine wpAnyH_take (i := 6) (v := ?_) rfl (by kernel_rfl) (by kernel_rfl) (by kernel_rfl) (fun _ _ _ h => h) (Or.inl ⟨by rfl, ?_⟩) hS ?_; rotate_left; focus (intro w hw; obtain ⟨l0, l1, l2⟩ := hw; go_simp; try with_reducible rfl)
  refine wpAnyH_ready (rs := [5]) (by kernel_rfl) (by simp) ?_; refine AllReadyH.cons rfl (fun K hK => ?_) AllReadyH.nil; go_simp
  refine (slot1 b first n sl n g _ hs (HRV.out.new (bo_drewN 1 (Below.refl _ _))) hf (by omega)).mono ?_; rw [← HK.out]; rintro x w2 ⟨rfl, hb2⟩
  have hb2' : Below V.heap.size V w2 := bchain (bo_drewN 1 (Below.refl _ _)) hb2
  have c1' := (hb2'.cell (p := ⟨b, 225, none⟩) hbl).trans c1
  have x0' := (hb2'.cell (p := ⟨w.heap.size, 0, none⟩) hlV).trans x0
  have x1' := (hb2'.cell (p := ⟨w.heap.size, 1, none⟩) hlV).trans x1
  have u0' := (hb2'.cell (p := ⟨b, k * 2, none⟩) hbl).trans u0
  have u1' := (hb2'.cell (p := ⟨b, k * 2 + 1, none⟩) hbl).trans u1
  have z0' := (hb2'.frozen (p := ⟨b, k * 2, none⟩) hbl).trans z0
  have z1' := (hb2'.frozen (p := ⟨b, k * 2 + 1, none⟩) hbl).trans z1
  refine hK.out _ _ ⟨c1', x0', x1'⟩ (fun hS => ?_)
  clear hK K c1 u0 u1 z0 z1 hb2
  refine wpAnyH_take (i := 7) (v := ?_) rfl (by kernel_rfl) (by kernel_rfl) (by kernel_rfl) (fun _ _ _ h => h) (Or.inl ⟨by rfl, ?_⟩) hS ?_; rotate_left; focus (intro w hw; clear hw; go_simp; try with_reducible rfl)
  refine wpAnyH_ready (rs := [8]) (by kernel_rfl) (by simp) ?_; refine AllReadyH.cons rfl (fun K hK => ?_) AllReadyH.nil; go_simp
  have hk1 : ¬ k * 2 = 225 := by omega
  have hk2 : ¬ k * 2 + 1 = 225 := by omega
  have hr3 := ((HRV.out.new hb2').set (k * 2) (.string f.n)).set (k * 2 + 1) (.string f.v)
  rw [rC_setF hs _ _ _ k hk f] at hr3
  have hs' : (sl.set k f).length = 112 := by simp [hs]
  have ht3 : Turn b (b + 1) V ((w2.setCell ⟨b, k * 2, none⟩ (.string f.n)).setCell ⟨b, k * 2 + 1, none⟩ (.string f.v)) :=
    ((turn_new hb2' b (b + 1)).setCell _ (.inl ⟨Nat.le_refl _, by simp⟩)).setCell _ (.inl ⟨Nat.le_refl _, by simp⟩)
  generalize (w2.setCell ⟨b, k * 2, none⟩ (.string f.n)).setCell ⟨b, k * 2 + 1, none⟩ (.string f.v) = w3 at *
  have y0 := (ht3.cell w.heap.size 0 hlV (by omega)).trans x0
  have y1 := (ht3.cell w.heap.size 1 hlV (by omega)).trans x1
  have c3 := hr3.cell (rC_num hs' first n g).2.1
  have q3 := hr3.frozen 225
  refine hK.out _ _ ⟨c3, y0, y1⟩ (fun _ => ?_)
  clear hK K hS c1' x0' x1' u0' u1' z0' z1' hb2' w2
  refine wpAnyH_done (by kernel_rfl) ?_ _
  have HR3 := hide hr3
  clear hr3
  go_wp2_with fail
  have hr4 := HR3.out.set 225 (.int .i64 ((n : Int) + 1))
  rw [rC_set225 hs'] at hr4
  have ht4 := ht3.setCell (p := ⟨b, 225, none⟩) (.int .i64 ((n : Int) + 1)) (.inl ⟨Nat.le_refl _, by simp⟩)
  generalize w3.setCell ⟨b, 225, none⟩ (.int .i64 ((n : Int) + 1)) = w4 at *
  replace y0 := (ht4.cell w.heap.size 0 hlV (by omega)).trans x0
  replace y1 := (ht4.cell w.heap.size 1 hlV (by omega)).trans x1
  have d2 := hr4.cell (rC_num hs' first ((n : Int) + 1) g).2.2
  have d3 := hr4.frozen 226
  have hblW := hr4.lt
  have hzr := wt_range f
  obtain ⟨z, hz⟩ : ∃ z, wt f = z := ⟨_, rfl⟩
  rw [hz] at hzr
  have fin : ∀ w5, Below w4.heap.size w4 w5 → RowIs (w5.setCell ⟨b, 226, none⟩ (.int .i64 (g + z))) b 199 (rC (sl.set ((first + n) % 112) f) first ((n + 1 : Nat) : Int) (g + wt f)) ∧ Turn b (b + 1) w (w5.setCell ⟨b, 226, none⟩ (.int .i64 (g + z))) := fun w5 h5 => by
    have hr5 := (hr4.new h5).set 226 (.int .i64 (g + z))
    rw [rC_set226 hs', HK.out] at hr5
    rw [hz]
    refine ⟨hr5, ((turn_new hbV b (b + 1)).trans (ht4.trans (turn_new h5 b (b + 1)))).setCell _ (.inl ⟨Nat.le_refl _, by simp⟩)⟩
  have HZ := hide hz
  clear hz x0 x1 c3 q3 ht4 ht3 hr4 HR3 HRV
  have hzw : IntKind.i64.wrap (g + z) = g + z := by rw [IntKind.wrap_i64]; omega
  refine wp_region_any (by kernel_rfl) ?_; change wpAny _ _ _ _ _ _ _ (World.drew _)
  refine wpAny_take (i := 0) (v := ?_) rfl (by kernel_rfl) (by kernel_rfl) (by kernel_rfl) (fun _ _ _ h => h) (Or.inl ⟨by rfl, ?_⟩) ?_; rotate_left; focus (intro w; go_simp; try with_reducible rfl)
  refine wpAny_take (i := 1) (v := ?_) rfl (by kernel_rfl) (by kernel_rfl) (by kernel_rfl) (fun _ _ _ h => h) (Or.inl ⟨by rfl, ?_⟩) ?_; rotate_left; focus (intro w; go_simp; try with_reducible rfl)
  refine wpAny_take (i := 2) (v := ?_) rfl (by kernel_rfl) (by kernel_rfl) (by kernel_rfl) (fun _ _ _ h => h) (Or.inl ⟨by rfl, ?_⟩) ?_; rotate_left; focus (intro w; go_simp; try with_reducible rfl)
  refine wpAny_ready (rs := [3, 4]) (by kernel_rfl) (by simp) ?_; refine AllReady.cons rfl (fun K hK => ?_) (AllReady.cons rfl (fun K hK => ?_) AllReady.nil)
  · go_simp; refine hK _ _ ?_; clear hK K
    refine wpAny_ready (rs := [4]) (by kernel_rfl) (by simp) ?_; refine AllReady.cons rfl (fun K hK => ?_) AllReady.nil
    go_simp; refine hK _ _ ?_; clear hK K
    refine wpAny_ready (rs := [5]) (by kernel_rfl) (by simp) ?_; refine AllReady.cons rfl (fun K hK => ?_) AllReady.nil
    go_simp
    refine (implWt f _ hff).mono ?_; rw [HZ.out]; rintro x w5 ⟨rfl, hb5⟩
    have hb5' : Below w4.heap.size w4 w5 := bchain (bo_drewN 1 (Below.refl _ _)) hb5
    have e2 := (hb5'.cell (p := ⟨b, 226, none⟩) hblW).trans d2
    have e3 := (hb5'.frozen (p := ⟨b, 226, none⟩) hblW).trans d3
    refine hK _ _ ?_
    clear hK K
    refine wpAny_take (i := 6) (v := ?_) rfl (by kernel_rfl) (by kernel_rfl) (by kernel_rfl) (fun _ _ _ h => h) (Or.inl ⟨by rfl, ?_⟩) ?_; rotate_left; focus (intro w; go_simp; try with_reducible rfl)
    refine wpAny_take (i := 7) (v := ?_) rfl (by kernel_rfl) (by kernel_rfl) (by kernel_rfl) (fun _ _ _ h => h) (Or.inl ⟨by rfl, ?_⟩) ?_; rotate_left; focus (intro w; go_simp; try with_reducible rfl)
    refine wpAny_take (i := 8) (v := ?_) rfl (by kernel_rfl) (by kernel_rfl) (by kernel_rfl) (fun _ _ _ h => h) (Or.inl ⟨by rfl, ?_⟩) ?_; rotate_left; focus (intro w; go_simp; try with_reducible rfl)
    refine wpAny_ready (rs := [9]) (by kernel_rfl) (by simp) ?_; refine AllReady.cons rfl (fun K hK => ?_) AllReady.nil
    go_simp; refine hK _ _ ?_; clear hK K
    refine wpAny_done (by kernel_rfl) ?_ _
    go_wp2_with fail
    refine bodyPost_end (v := .tuple #[]) (by simp [results, Tryz.results202, go_sem]) rfl ?_
    exact ⟨rfl, fin _ hb5'⟩
  · go_simp; refine hK _ _ ?_; clear hK K
    refine wpAny_ready (rs := [3, 5]) (by kernel_rfl) (by simp) ?_; refine AllReady.cons rfl (fun K hK => ?_) (AllReady.cons rfl (fun K hK => ?_) AllReady.nil)
    · go_simp; refine hK _ _ ?_; clear hK K
      refine wpAny_ready (rs := [5]) (by kernel_rfl) (by simp) ?_; refine AllReady.cons rfl (fun K hK => ?_) AllReady.nil
      go_simp
      refine (implWt f _ hff).mono ?_; rw [HZ.out]; rintro x w5 ⟨rfl, hb5⟩
      have hb5' : Below w4.heap.size w4 w5 := bchain (bo_drewN 1 (Below.refl _ _)) hb5
      have e2 := (hb5'.cell (p := ⟨b, 226, none⟩) hblW).trans d2
      have e3 := (hb5'.frozen (p := ⟨b, 226, none⟩) hblW).trans d3
      refine hK _ _ ?_
      clear hK K
      refine wpAny_take (i := 6) (v := ?_) rfl (by kernel_rfl) (by kernel_rfl) (by kernel_rfl) (fun _ _ _ h => h) (Or.inl ⟨by rfl, ?_⟩) ?_; rotate_left; focus (intro w; go_simp; try with_reducible rfl)
      refine wpAny_take (i := 7) (v := ?_) rfl (by kernel_rfl) (by kernel_rfl) (by kernel_rfl) (fun _ _ _ h => h) (Or.inl ⟨by rfl, ?_⟩) ?_; rotate_left; focus (intro w; go_simp; try with_reducible rfl)
      refine wpAny_take (i := 8) (v := ?_) rfl (by kernel_rfl) (by kernel_rfl) (by kernel_rfl) (fun _ _ _ h => h) (Or.inl ⟨by rfl, ?_⟩) ?_; rotate_left; focus (intro w; go_simp; try with_reducible rfl)
      refine wpAny_ready (rs := [9]) (by kernel_rfl) (by simp) ?_; refine AllReady.cons rfl (fun K hK => ?_) AllReady.nil
      go_simp; refine hK _ _ ?_; clear hK K
      refine wpAny_done (by kernel_rfl) ?_ _
      go_wp2_with fail
      refine bodyPost_end (v := .tuple #[]) (by simp [results, Tryz.results202, go_sem]) rfl ?_
      exact ⟨rfl, fin _ hb5'⟩
    · go_simp
      refine (implWt f _ hff).mono ?_; rw [HZ.out]; rintro x w5 ⟨rfl, hb5⟩
      have hb5' : Below w4.heap.size w4 w5 := bchain (bo_drewN 1 (Below.refl _ _)) hb5
      have e2 := (hb5'.cell (p := ⟨b, 226, none⟩) hblW).trans d2
      have e3 := (hb5'.frozen (p := ⟨b, 226, none⟩) hblW).trans d3
      refine hK _ _ ?_
      clear hK K
      refine wpAny_ready (rs := [3]) (by kernel_rfl) (by simp) ?_; refine AllReady.cons rfl (fun K hK => ?_) AllReady.nil
      go_simp; refine hK _ _ ?_; clear hK K
      refine wpAny_take (i := 6) (v := ?_) rfl (by kernel_rfl) (by kernel_rfl) (by kernel_rfl) (fun _ _ _ h => h) (Or.inl ⟨by rfl, ?_⟩) ?_; rotate_left; focus (intro w; go_simp; try with_reducible rfl)
      refine wpAny_take (i := 7) (v := ?_) rfl (by kernel_rfl) (by kernel_rfl) (by kernel_rfl) (fun _ _ _ h => h) (Or.inl ⟨by rfl, ?_⟩) ?_; rotate_left; focus (intro w; go_simp; try with_reducible rfl)
      refine wpAny_take (i := 8) (v := ?_) rfl (by kernel_rfl) (by kernel_rfl) (by kernel_rfl) (fun _ _ _ h => h) (Or.inl ⟨by rfl, ?_⟩) ?_; rotate_left; focus (intro w; go_simp; try with_reducible rfl)
      refine wpAny_ready (rs := [9]) (by kernel_rfl) (by simp) ?_; refine AllReady.cons rfl (fun K hK => ?_) AllReady.nil
      go_simp; refine hK _ _ ?_; clear hK K
      refine wpAny_done (by kernel_rfl) ?_ _
      go_wp2_with fail
      refine bodyPost_end (v := .tuple #[]) (by simp [results, Tryz.results202, go_sem]) rfl ?_
      exact ⟨rfl, fin _ hb5'⟩
end Go.Proofs.YtllaeakeaabiaaaGreat
/- What Noted and Resized make of a Table, in plain words. -/
namespace Go.Proofs.YtllaeakeaabiaaaGreat
/-- What Noted makes of a Table of this Room and these Rows. -/
def notedD (room : Int) (L : List Fd) (f : Fd) : (Int × List Fd) × Bool := if okT room L then (if okF f then ((room, shr room (f :: L)), true) else ((room, L), false)) else ((0, []), false)
/-- What Resized makes of it. -/
def resizedD (room : Int) (L : List Fd) (r : Int) : (Int × List Fd) × Bool := if okT room L then (if inB r 0 1000 then ((r, shr r L), true) else ((room, L), false)) else ((0, []), false)
theorem own_nil (w : World) (base : Nat) (e : TypeId) : w.ownsRow base e 2 (.slice none 0 0) 0 (fv []) := ⟨rfl, .inl ⟨rfl, rfl⟩⟩
end Go.Proofs.YtllaeakeaabiaaaGreat
/- Chapter 16's model: NewTunnel, In, Out, Back, Torn, Over. -/
namespace Go.Proofs.YtllaeakeaabiaaaGreat
open Go.RowKit
set_option maxRecDepth 100000
set_option linter.unusedSimpArgs false
set_option linter.unusedVariables false
theorem specMin16 (a b : Int) (w : World) : Calls Tryz.prog 85 #[.int .i64 a, .int .i64 b] w fun x w' => x = .returned (.int .i64 (min a b)) ∧ w' = w := by
  by_cases h : a < b
  · rw [show min a b = a by omega]
    go_enter Tryz.func85, Tryz.ntmps85
    go_wp2_with fail
    go_ret
    exact ⟨rfl, rfl⟩
  · rw [show min a b = b by omega]
    go_enter Tryz.func85, Tryz.ntmps85
    go_wp2_with fail
    go_ret
    exact ⟨rfl, rfl⟩
theorem specMax16 (a b : Int) (w : World) : Calls Tryz.prog 141 #[.int .i64 a, .int .i64 b] w fun x w' => x = .returned (.int .i64 (max a b)) ∧ w' = w := by
  by_cases h : b < a
  · rw [show max a b = a by omega]
    go_enter Tryz.func141, Tryz.ntmps141
    go_wp2_with fail
    go_ret
    exact ⟨rfl, rfl⟩
  · rw [show max a b = b by omega]
    go_enter Tryz.func141, Tryz.ntmps141
    go_wp2_with fail
    go_ret
    exact ⟨rfl, rfl⟩
theorem specPushShut0 (r : Int) (b : ByteArray) (e k : Bool) (s : ByteArray) (g : Nat) (w : World) (hek : (e || k) = true)
    (hg2 : w.cell? ⟨g, 2, none⟩ = some (.bool e)) (hg3 : w.cell? ⟨g, 3, none⟩ = some (.bool k)) :
    Calls Tryz.prog 157 #[.pointer (some ⟨g, 0, none⟩), .string s] w fun x w' => x = .returned (.int .i64 0) ∧ w' = w := by
  cases e
  · cases k
    · cases hek
    · go_enter Tryz.func157, Tryz.ntmps157
      go_wp2_with fail
      go_ret
      exact ⟨rfl, rfl⟩
  · go_enter Tryz.func157, Tryz.ntmps157
    go_wp2_with fail
    go_ret
    exact ⟨rfl, rfl⟩
theorem specPushOpen0 (r : Int) (b : ByteArray) (s : ByteArray) (g : Nat) (w : World) (hs : s.size ≤ 1048576) (hr : r ≤ 2000) (hb : (b.size : Int) ≤ r)
    (n : Nat) (hn : min (s.size : Int) (r - b.size) = n)
    (hg0 : w.cell? ⟨g, 0, none⟩ = some (.int .i64 r)) (hg1 : w.cell? ⟨g, 1, none⟩ = some (.string b)) (hg2 : w.cell? ⟨g, 2, none⟩ = some (.bool false)) (hg3 : w.cell? ⟨g, 3, none⟩ = some (.bool false))
    (hf : w.frozen? ⟨g, 1, none⟩ = false) :
    Calls Tryz.prog 157 #[.pointer (some ⟨g, 0, none⟩), .string s] w fun x w' => x = .returned (.int .i64 n) ∧ ∃ q, w' = (w.drewN q).setCell ⟨g, 1, none⟩ (.string (b ++ s.extract 0 n)) := by
  have hns : n ≤ s.size := by omega
  go_enter Tryz.func157, Tryz.ntmps157
  go_wp2_with fail
  go_quiet ((go_at_call 85; exact Calls.quiet_of_same (specMin16 _ _ _)))
  go_wp2_with fail
  go_region
  go_wp2_with fail
  go_ret
  exact ⟨congrArg (fun z => Ending.returned (.int .i64 z)) hn, _, rfl⟩
theorem specPushShut4 (r : Int) (b : ByteArray) (e k : Bool) (s : ByteArray) (g : Nat) (w : World) (hek : (e || k) = true)
    (hg2 : w.cell? ⟨g, 6, none⟩ = some (.bool e)) (hg3 : w.cell? ⟨g, 7, none⟩ = some (.bool k)) :
    Calls Tryz.prog 157 #[.pointer (some ⟨g, 4, none⟩), .string s] w fun x w' => x = .returned (.int .i64 0) ∧ w' = w := by
  cases e
  · cases k
    · cases hek
    · go_enter Tryz.func157, Tryz.ntmps157
      go_wp2_with fail
      go_ret
      exact ⟨rfl, rfl⟩
  · go_enter Tryz.func157, Tryz.ntmps157
    go_wp2_with fail
    go_ret
    exact ⟨rfl, rfl⟩
theorem specPushOpen4 (r : Int) (b : ByteArray) (s : ByteArray) (g : Nat) (w : World) (hs : s.size ≤ 1048576) (hr : r ≤ 2000) (hb : (b.size : Int) ≤ r)
    (n : Nat) (hn : min (s.size : Int) (r - b.size) = n)
    (hg0 : w.cell? ⟨g, 4, none⟩ = some (.int .i64 r)) (hg1 : w.cell? ⟨g, 5, none⟩ = some (.string b)) (hg2 : w.cell? ⟨g, 6, none⟩ = some (.bool false)) (hg3 : w.cell? ⟨g, 7, none⟩ = some (.bool false))
    (hf : w.frozen? ⟨g, 5, none⟩ = false) :
    Calls Tryz.prog 157 #[.pointer (some ⟨g, 4, none⟩), .string s] w fun x w' => x = .returned (.int .i64 n) ∧ ∃ q, w' = (w.drewN q).setCell ⟨g, 5, none⟩ (.string (b ++ s.extract 0 n)) := by
  have hns : n ≤ s.size := by omega
  go_enter Tryz.func157, Tryz.ntmps157
  go_wp2_with fail
  go_quiet ((go_at_call 85; exact Calls.quiet_of_same (specMin16 _ _ _)))
  go_wp2_with fail
  go_region
  go_wp2_with fail
  go_ret
  exact ⟨congrArg (fun z => Ending.returned (.int .i64 z)) hn, _, rfl⟩
theorem specPull16 (b : ByteArray) (n : Int) (g : Nat) (w : World) (hb : b.size ≤ maxLen)
    (hg : w.cell? ⟨g, 1, none⟩ = some (.string b)) (hf : w.frozen? ⟨g, 1, none⟩ = false) :
    Calls Tryz.prog 86 #[.pointer (some ⟨g, 0, none⟩), .int .i64 n] w fun x w' => x = .returned (.string (b.extract 0 (max 0 (min n b.size)).toNat)) ∧ w' = w.setCell ⟨g, 1, none⟩ (.string (b.extract (max 0 (min n b.size)).toNat b.size)) := by
  unfold maxLen at hb
  have h1 : 0 ≤ max 0 (min n (b.size : Int)) := by omega
  have h2 : max 0 (min n (b.size : Int)) ≤ b.size := by omega
  go_enter Tryz.func86, Tryz.ntmps86
  go_wp2_with fail
  refine (specMin16 _ _ _).mono ?_; rintro x w1 ⟨rfl, rfl⟩
  go_wp2_with fail
  refine (specMax16 _ _ _).mono ?_; rintro x w1 ⟨rfl, rfl⟩
  go_wp2_with fail
  go_ret
  exact ⟨rfl, rfl⟩
set_option maxHeartbeats 1000000 in
theorem specL16In_e (r : Int) (b : ByteArray) (k : Bool) (r2 : Int) (b2 : ByteArray) (e2 k2 : Bool) (wt cm : Int) (s : ByteArray) (fin : Bool) (g : Nat) (w : World) (R : RowIs w g 87 [.int .i64 r, .string b, .bool true, .bool k, .int .i64 r2, .string b2, .bool e2, .bool k2, .int .i64 wt, .int .i64 cm]) :
    Calls Tryz.prog 111 #[.pointer (some ⟨g, 0, none⟩), .string s, .bool fin] w fun x w' => x = .returned (.bool false) ∧ w' = w.drewN 1 := by
  have hx0 := RowIs.cell (j := 0) R rfl
  have hx1 := RowIs.cell (j := 1) R rfl
  have hx2 := RowIs.cell (j := 2) R rfl
  have hx3 := RowIs.cell (j := 3) R rfl
  go_enter Tryz.func111, Tryz.ntmps111
  go_wp2_with fail
  refine wp_region_held_drew (S := (fun u => u.cell? ⟨g, 0, none⟩ = some (.int .i64 r) ∧ u.cell? ⟨g, 1, none⟩ = some (.string b) ∧ u.cell? ⟨g, 2, none⟩ = some (.bool true) ∧ u.cell? ⟨g, 3, none⟩ = some (.bool k))) (by kernel_rfl) (And.intro hx0 (And.intro hx1 (And.intro hx2 hx3))) (fun hS => ?_)
  refine wpAnyH_take (i := 0) (v := ?_) rfl (by kernel_rfl) (by kernel_rfl) (by kernel_rfl) (fun _ _ _ h => h) (Or.inl ⟨by kernel_rfl, ?_⟩) hS ?_; rotate_left; focus (intro uu hu; clear hu; go_simp; try with_reducible rfl)
  try simp only [Act.put, List.getElem_toArray, List.getElem_cons_succ, List.getElem_cons_zero, List.setIfInBounds_toArray, List.set_cons_zero, List.set_cons_succ]
  refine wpAnyH_take (i := 1) (v := ?_) rfl (by kernel_rfl) (by kernel_rfl) (by kernel_rfl) (fun _ _ _ h => h) (Or.inl ⟨by kernel_rfl, ?_⟩) hS ?_; rotate_left; focus (intro uu hu; clear hu; go_simp; try with_reducible rfl)
  try simp only [Act.put, List.getElem_toArray, List.getElem_cons_succ, List.getElem_cons_zero, List.setIfInBounds_toArray, List.set_cons_zero, List.set_cons_succ]
  refine wpAnyH_take (i := 2) (v := ?_) rfl (by kernel_rfl) (by kernel_rfl) (by kernel_rfl) (fun _ _ _ h => h) (Or.inl ⟨by kernel_rfl, ?_⟩) hS ?_; rotate_left; focus (intro uu hu; clear hu; go_simp; try with_reducible rfl)
  try simp only [Act.put, List.getElem_toArray, List.getElem_cons_succ, List.getElem_cons_zero, List.setIfInBounds_toArray, List.set_cons_zero, List.set_cons_succ]
  refine wpAnyH_take (i := 3) (v := ?_) rfl (by kernel_rfl) (by kernel_rfl) (by kernel_rfl) (fun _ _ _ h => h) (Or.inl ⟨by kernel_rfl, ?_⟩) hS ?_; rotate_left; focus (intro uu hu; clear hu; go_simp; try with_reducible rfl)
  try simp only [Act.put, List.getElem_toArray, List.getElem_cons_succ, List.getElem_cons_zero, List.setIfInBounds_toArray, List.set_cons_zero, List.set_cons_succ]
  refine wpAnyH_take (i := 4) (v := .bool true) rfl (by kernel_rfl) (by kernel_rfl) (by kernel_rfl) (fun _ _ _ h => h) (Or.inl ⟨by kernel_rfl, ?ld⟩) hS ?_; case ld => (intro uu hu; have hu2 := hu; obtain ⟨l0, l1, l2, l3⟩ := hu2; clear hu; go_simp)
  try simp only [Act.put, List.getElem_toArray, List.getElem_cons_succ, List.getElem_cons_zero, List.setIfInBounds_toArray, List.set_cons_zero, List.set_cons_succ]
  refine wpAnyH_take (i := 5) (v := ?_) rfl (by kernel_rfl) (by kernel_rfl) (by kernel_rfl) (fun _ _ _ h => h) (Or.inl ⟨by kernel_rfl, ?_⟩) hS ?_; rotate_left; focus (intro uu hu; clear hu; go_simp; try with_reducible rfl)
  try simp only [Act.put, List.getElem_toArray, List.getElem_cons_succ, List.getElem_cons_zero, List.setIfInBounds_toArray, List.set_cons_zero, List.set_cons_succ]
  refine wpAnyH_take (i := 6) (v := undef) rfl (by kernel_rfl) (by kernel_rfl) (by kernel_rfl) (fun _ _ _ h => h) (Or.inr ⟨by kernel_rfl, rfl⟩) hS ?_
  try simp only [Act.put, List.getElem_toArray, List.getElem_cons_succ, List.getElem_cons_zero, List.setIfInBounds_toArray, List.set_cons_zero, List.set_cons_succ]
  refine wpAnyH_take (i := 7) (v := undef) rfl (by kernel_rfl) (by kernel_rfl) (by kernel_rfl) (fun _ _ _ h => h) (Or.inr ⟨by kernel_rfl, rfl⟩) hS ?_
  try simp only [Act.put, List.getElem_toArray, List.getElem_cons_succ, List.getElem_cons_zero, List.setIfInBounds_toArray, List.set_cons_zero, List.set_cons_succ]
  refine wpAnyH_take (i := 8) (v := undef) rfl (by kernel_rfl) (by kernel_rfl) (by kernel_rfl) (fun _ _ _ h => h) (Or.inr ⟨by kernel_rfl, rfl⟩) hS ?_
  try simp only [Act.put, List.getElem_toArray, List.getElem_cons_succ, List.getElem_cons_zero, List.setIfInBounds_toArray, List.set_cons_zero, List.set_cons_succ]
  refine wpAnyH_take (i := 9) (v := undef) rfl (by kernel_rfl) (by kernel_rfl) (by kernel_rfl) (fun _ _ _ h => h) (Or.inr ⟨by kernel_rfl, rfl⟩) hS ?_
  try simp only [Act.put, List.getElem_toArray, List.getElem_cons_succ, List.getElem_cons_zero, List.setIfInBounds_toArray, List.set_cons_zero, List.set_cons_succ]
  refine wpAnyH_take (i := 10) (v := undef) rfl (by kernel_rfl) (by kernel_rfl) (by kernel_rfl) (fun _ _ _ h => h) (Or.inr ⟨by kernel_rfl, rfl⟩) hS ?_
  try simp only [Act.put, List.getElem_toArray, List.getElem_cons_succ, List.getElem_cons_zero, List.setIfInBounds_toArray, List.set_cons_zero, List.set_cons_succ]
  refine wpAnyH_take (i := 11) (v := ?_) rfl (by kernel_rfl) (by kernel_rfl) (by kernel_rfl) (fun _ _ _ h => h) (Or.inl ⟨by kernel_rfl, ?_⟩) hS ?_; rotate_left; focus (intro uu hu; clear hu; go_simp; try with_reducible rfl)
  try simp only [Act.put, List.getElem_toArray, List.getElem_cons_succ, List.getElem_cons_zero, List.setIfInBounds_toArray, List.set_cons_zero, List.set_cons_succ]
  refine wpAnyH_take (i := 12) (v := ?_) rfl (by kernel_rfl) (by kernel_rfl) (by kernel_rfl) (fun _ _ _ h => h) (Or.inl ⟨by kernel_rfl, ?_⟩) hS ?_; rotate_left; focus (intro uu hu; clear hu; go_simp; try with_reducible rfl)
  try simp only [Act.put, List.getElem_toArray, List.getElem_cons_succ, List.getElem_cons_zero, List.setIfInBounds_toArray, List.set_cons_zero, List.set_cons_succ]
  refine wpAnyH_take (i := 13) (v := undef) rfl (by kernel_rfl) (by kernel_rfl) (by kernel_rfl) (fun _ _ _ h => h) (Or.inr ⟨by kernel_rfl, rfl⟩) hS ?_
  try simp only [Act.put, List.getElem_toArray, List.getElem_cons_succ, List.getElem_cons_zero, List.setIfInBounds_toArray, List.set_cons_zero, List.set_cons_succ]
  refine wpAnyH_take (i := 14) (v := undef) rfl (by kernel_rfl) (by kernel_rfl) (by kernel_rfl) (fun _ _ _ h => h) (Or.inr ⟨by kernel_rfl, rfl⟩) hS ?_
  try simp only [Act.put, List.getElem_toArray, List.getElem_cons_succ, List.getElem_cons_zero, List.setIfInBounds_toArray, List.set_cons_zero, List.set_cons_succ]
  refine wpAnyH_take (i := 15) (v := undef) rfl (by kernel_rfl) (by kernel_rfl) (by kernel_rfl) (fun _ _ _ h => h) (Or.inr ⟨by kernel_rfl, rfl⟩) hS ?_
  try simp only [Act.put, List.getElem_toArray, List.getElem_cons_succ, List.getElem_cons_zero, List.setIfInBounds_toArray, List.set_cons_zero, List.set_cons_succ]
  refine wpAnyH_take (i := 16) (v := undef) rfl (by kernel_rfl) (by kernel_rfl) (by kernel_rfl) (fun _ _ _ h => h) (Or.inr ⟨by kernel_rfl, rfl⟩) hS ?_
  try simp only [Act.put, List.getElem_toArray, List.getElem_cons_succ, List.getElem_cons_zero, List.setIfInBounds_toArray, List.set_cons_zero, List.set_cons_succ]
  refine wpAnyH_take (i := 17) (v := undef) rfl (by kernel_rfl) (by kernel_rfl) (by kernel_rfl) (fun _ _ _ h => h) (Or.inr ⟨by kernel_rfl, rfl⟩) hS ?_
  try simp only [Act.put, List.getElem_toArray, List.getElem_cons_succ, List.getElem_cons_zero, List.setIfInBounds_toArray, List.set_cons_zero, List.set_cons_succ]
  refine wpAnyH_take (i := 18) (v := undef) rfl (by kernel_rfl) (by kernel_rfl) (by kernel_rfl) (fun _ _ _ h => h) (Or.inr ⟨by kernel_rfl, rfl⟩) hS ?_
  try simp only [Act.put, List.getElem_toArray, List.getElem_cons_succ, List.getElem_cons_zero, List.setIfInBounds_toArray, List.set_cons_zero, List.set_cons_succ]
  refine wpAnyH_take (i := 19) (v := undef) rfl (by kernel_rfl) (by kernel_rfl) (by kernel_rfl) (fun _ _ _ h => h) (Or.inr ⟨by kernel_rfl, rfl⟩) hS ?_
  try simp only [Act.put, List.getElem_toArray, List.getElem_cons_succ, List.getElem_cons_zero, List.setIfInBounds_toArray, List.set_cons_zero, List.set_cons_succ]
  refine wpAnyH_take (i := 20) (v := undef) rfl (by kernel_rfl) (by kernel_rfl) (by kernel_rfl) (fun _ _ _ h => h) (Or.inr ⟨by kernel_rfl, rfl⟩) hS ?_
  try simp only [Act.put, List.getElem_toArray, List.getElem_cons_succ, List.getElem_cons_zero, List.setIfInBounds_toArray, List.set_cons_zero, List.set_cons_succ]
  refine wpAnyH_take (i := 21) (v := undef) rfl (by kernel_rfl) (by kernel_rfl) (by kernel_rfl) (fun _ _ _ h => h) (Or.inr ⟨by kernel_rfl, rfl⟩) hS ?_
  try simp only [Act.put, List.getElem_toArray, List.getElem_cons_succ, List.getElem_cons_zero, List.setIfInBounds_toArray, List.set_cons_zero, List.set_cons_succ]
  refine wpAnyH_take (i := 22) (v := undef) rfl (by kernel_rfl) (by kernel_rfl) (by kernel_rfl) (fun _ _ _ h => h) (Or.inr ⟨by kernel_rfl, rfl⟩) hS ?_
  try simp only [Act.put, List.getElem_toArray, List.getElem_cons_succ, List.getElem_cons_zero, List.setIfInBounds_toArray, List.set_cons_zero, List.set_cons_succ]
  refine wpAnyH_take (i := 23) (v := undef) rfl (by kernel_rfl) (by kernel_rfl) (by kernel_rfl) (fun _ _ _ h => h) (Or.inr ⟨by kernel_rfl, rfl⟩) hS ?_
  try simp only [Act.put, List.getElem_toArray, List.getElem_cons_succ, List.getElem_cons_zero, List.setIfInBounds_toArray, List.set_cons_zero, List.set_cons_succ]
  refine wpAnyH_take (i := 24) (v := undef) rfl (by kernel_rfl) (by kernel_rfl) (by kernel_rfl) (fun _ _ _ h => h) (Or.inr ⟨by kernel_rfl, rfl⟩) hS ?_
  try simp only [Act.put, List.getElem_toArray, List.getElem_cons_succ, List.getElem_cons_zero, List.setIfInBounds_toArray, List.set_cons_zero, List.set_cons_succ]
  refine wpAnyH_take (i := 25) (v := undef) rfl (by kernel_rfl) (by kernel_rfl) (by kernel_rfl) (fun _ _ _ h => h) (Or.inr ⟨by kernel_rfl, rfl⟩) hS ?_
  try simp only [Act.put, List.getElem_toArray, List.getElem_cons_succ, List.getElem_cons_zero, List.setIfInBounds_toArray, List.set_cons_zero, List.set_cons_succ]
  refine wpAnyH_take (i := 26) (v := undef) rfl (by kernel_rfl) (by kernel_rfl) (by kernel_rfl) (fun _ _ _ h => h) (Or.inr ⟨by kernel_rfl, rfl⟩) hS ?_
  try simp only [Act.put, List.getElem_toArray, List.getElem_cons_succ, List.getElem_cons_zero, List.setIfInBounds_toArray, List.set_cons_zero, List.set_cons_succ]
  refine wpAnyH_take (i := 27) (v := undef) rfl (by kernel_rfl) (by kernel_rfl) (by kernel_rfl) (fun _ _ _ h => h) (Or.inr ⟨by kernel_rfl, rfl⟩) hS ?_
  try simp only [Act.put, List.getElem_toArray, List.getElem_cons_succ, List.getElem_cons_zero, List.setIfInBounds_toArray, List.set_cons_zero, List.set_cons_succ]
  refine wpAnyH_take (i := 28) (v := ?_) rfl (by kernel_rfl) (by kernel_rfl) (by kernel_rfl) (fun _ _ _ h => h) (Or.inl ⟨by kernel_rfl, ?_⟩) hS ?_; rotate_left; focus (intro uu hu; clear hu; go_simp; try with_reducible rfl)
  try simp only [Act.put, List.getElem_toArray, List.getElem_cons_succ, List.getElem_cons_zero, List.setIfInBounds_toArray, List.set_cons_zero, List.set_cons_succ]
  refine wpAnyH_done (by kernel_rfl) ?_ _
  clear hS
  go_wp2_with fail
  go_ret
  exact ⟨rfl, rfl⟩
set_option maxHeartbeats 1000000 in
theorem specL16In_k (r : Int) (b : ByteArray)  (r2 : Int) (b2 : ByteArray) (e2 k2 : Bool) (wt cm : Int) (s : ByteArray) (fin : Bool) (g : Nat) (w : World) (R : RowIs w g 87 [.int .i64 r, .string b, .bool false, .bool true, .int .i64 r2, .string b2, .bool e2, .bool k2, .int .i64 wt, .int .i64 cm]) :
    Calls Tryz.prog 111 #[.pointer (some ⟨g, 0, none⟩), .string s, .bool fin] w fun x w' => x = .returned (.bool false) ∧ w' = w.drewN 1 := by
  have hx0 := RowIs.cell (j := 0) R rfl
  have hx1 := RowIs.cell (j := 1) R rfl
  have hx2 := RowIs.cell (j := 2) R rfl
  have hx3 := RowIs.cell (j := 3) R rfl
  go_enter Tryz.func111, Tryz.ntmps111
  go_wp2_with fail
  refine wp_region_held_drew (S := (fun u => u.cell? ⟨g, 0, none⟩ = some (.int .i64 r) ∧ u.cell? ⟨g, 1, none⟩ = some (.string b) ∧ u.cell? ⟨g, 2, none⟩ = some (.bool false) ∧ u.cell? ⟨g, 3, none⟩ = some (.bool true))) (by kernel_rfl) (And.intro hx0 (And.intro hx1 (And.intro hx2 hx3))) (fun hS => ?_)
  refine wpAnyH_take (i := 0) (v := ?_) rfl (by kernel_rfl) (by kernel_rfl) (by kernel_rfl) (fun _ _ _ h => h) (Or.inl ⟨by kernel_rfl, ?_⟩) hS ?_; rotate_left; focus (intro uu hu; clear hu; go_simp; try with_reducible rfl)
  try simp only [Act.put, List.getElem_toArray, List.getElem_cons_succ, List.getElem_cons_zero, List.setIfInBounds_toArray, List.set_cons_zero, List.set_cons_succ]
  refine wpAnyH_take (i := 1) (v := ?_) rfl (by kernel_rfl) (by kernel_rfl) (by kernel_rfl) (fun _ _ _ h => h) (Or.inl ⟨by kernel_rfl, ?_⟩) hS ?_; rotate_left; focus (intro uu hu; clear hu; go_simp; try with_reducible rfl)
  try simp only [Act.put, List.getElem_toArray, List.getElem_cons_succ, List.getElem_cons_zero, List.setIfInBounds_toArray, List.set_cons_zero, List.set_cons_succ]
  refine wpAnyH_take (i := 2) (v := ?_) rfl (by kernel_rfl) (by kernel_rfl) (by kernel_rfl) (fun _ _ _ h => h) (Or.inl ⟨by kernel_rfl, ?_⟩) hS ?_; rotate_left; focus (intro uu hu; clear hu; go_simp; try with_reducible rfl)
  try simp only [Act.put, List.getElem_toArray, List.getElem_cons_succ, List.getElem_cons_zero, List.setIfInBounds_toArray, List.set_cons_zero, List.set_cons_succ]
  refine wpAnyH_take (i := 3) (v := ?_) rfl (by kernel_rfl) (by kernel_rfl) (by kernel_rfl) (fun _ _ _ h => h) (Or.inl ⟨by kernel_rfl, ?_⟩) hS ?_; rotate_left; focus (intro uu hu; clear hu; go_simp; try with_reducible rfl)
  try simp only [Act.put, List.getElem_toArray, List.getElem_cons_succ, List.getElem_cons_zero, List.setIfInBounds_toArray, List.set_cons_zero, List.set_cons_succ]
  refine wpAnyH_take (i := 4) (v := .bool false) rfl (by kernel_rfl) (by kernel_rfl) (by kernel_rfl) (fun _ _ _ h => h) (Or.inl ⟨by kernel_rfl, ?ld⟩) hS ?_; case ld => (intro uu hu; have hu2 := hu; obtain ⟨l0, l1, l2, l3⟩ := hu2; clear hu; go_simp)
  try simp only [Act.put, List.getElem_toArray, List.getElem_cons_succ, List.getElem_cons_zero, List.setIfInBounds_toArray, List.set_cons_zero, List.set_cons_succ]
  refine wpAnyH_take (i := 5) (v := ?_) rfl (by kernel_rfl) (by kernel_rfl) (by kernel_rfl) (fun _ _ _ h => h) (Or.inl ⟨by kernel_rfl, ?_⟩) hS ?_; rotate_left; focus (intro uu hu; clear hu; go_simp; try with_reducible rfl)
  try simp only [Act.put, List.getElem_toArray, List.getElem_cons_succ, List.getElem_cons_zero, List.setIfInBounds_toArray, List.set_cons_zero, List.set_cons_succ]
  refine wpAnyH_take (i := 6) (v := ?_) rfl (by kernel_rfl) (by kernel_rfl) (by kernel_rfl) (fun _ _ _ h => h) (Or.inl ⟨by kernel_rfl, ?_⟩) hS ?_; rotate_left; focus (intro uu hu; clear hu; go_simp; try with_reducible rfl)
  try simp only [Act.put, List.getElem_toArray, List.getElem_cons_succ, List.getElem_cons_zero, List.setIfInBounds_toArray, List.set_cons_zero, List.set_cons_succ]
  refine wpAnyH_take (i := 7) (v := ?_) rfl (by kernel_rfl) (by kernel_rfl) (by kernel_rfl) (fun _ _ _ h => h) (Or.inl ⟨by kernel_rfl, ?_⟩) hS ?_; rotate_left; focus (intro uu hu; clear hu; go_simp; try with_reducible rfl)
  try simp only [Act.put, List.getElem_toArray, List.getElem_cons_succ, List.getElem_cons_zero, List.setIfInBounds_toArray, List.set_cons_zero, List.set_cons_succ]
  refine wpAnyH_take (i := 8) (v := ?_) rfl (by kernel_rfl) (by kernel_rfl) (by kernel_rfl) (fun _ _ _ h => h) (Or.inl ⟨by kernel_rfl, ?_⟩) hS ?_; rotate_left; focus (intro uu hu; clear hu; go_simp; try with_reducible rfl)
  try simp only [Act.put, List.getElem_toArray, List.getElem_cons_succ, List.getElem_cons_zero, List.setIfInBounds_toArray, List.set_cons_zero, List.set_cons_succ]
  refine wpAnyH_take (i := 9) (v := ?_) rfl (by kernel_rfl) (by kernel_rfl) (by kernel_rfl) (fun _ _ _ h => h) (Or.inl ⟨by kernel_rfl, ?_⟩) hS ?_; rotate_left; focus (intro uu hu; clear hu; go_simp; try with_reducible rfl)
  try simp only [Act.put, List.getElem_toArray, List.getElem_cons_succ, List.getElem_cons_zero, List.setIfInBounds_toArray, List.set_cons_zero, List.set_cons_succ]
  refine wpAnyH_take (i := 10) (v := .bool true) rfl (by kernel_rfl) (by kernel_rfl) (by kernel_rfl) (fun _ _ _ h => h) (Or.inl ⟨by kernel_rfl, ?ld⟩) hS ?_; case ld => (intro uu hu; have hu2 := hu; obtain ⟨l0, l1, l2, l3⟩ := hu2; clear hu; go_simp)
  try simp only [Act.put, List.getElem_toArray, List.getElem_cons_succ, List.getElem_cons_zero, List.setIfInBounds_toArray, List.set_cons_zero, List.set_cons_succ]
  refine wpAnyH_take (i := 11) (v := ?_) rfl (by kernel_rfl) (by kernel_rfl) (by kernel_rfl) (fun _ _ _ h => h) (Or.inl ⟨by kernel_rfl, ?_⟩) hS ?_; rotate_left; focus (intro uu hu; clear hu; go_simp; try with_reducible rfl)
  try simp only [Act.put, List.getElem_toArray, List.getElem_cons_succ, List.getElem_cons_zero, List.setIfInBounds_toArray, List.set_cons_zero, List.set_cons_succ]
  refine wpAnyH_take (i := 12) (v := ?_) rfl (by kernel_rfl) (by kernel_rfl) (by kernel_rfl) (fun _ _ _ h => h) (Or.inl ⟨by kernel_rfl, ?_⟩) hS ?_; rotate_left; focus (intro uu hu; clear hu; go_simp; try with_reducible rfl)
  try simp only [Act.put, List.getElem_toArray, List.getElem_cons_succ, List.getElem_cons_zero, List.setIfInBounds_toArray, List.set_cons_zero, List.set_cons_succ]
  refine wpAnyH_take (i := 13) (v := undef) rfl (by kernel_rfl) (by kernel_rfl) (by kernel_rfl) (fun _ _ _ h => h) (Or.inr ⟨by kernel_rfl, rfl⟩) hS ?_
  try simp only [Act.put, List.getElem_toArray, List.getElem_cons_succ, List.getElem_cons_zero, List.setIfInBounds_toArray, List.set_cons_zero, List.set_cons_succ]
  refine wpAnyH_take (i := 14) (v := undef) rfl (by kernel_rfl) (by kernel_rfl) (by kernel_rfl) (fun _ _ _ h => h) (Or.inr ⟨by kernel_rfl, rfl⟩) hS ?_
  try simp only [Act.put, List.getElem_toArray, List.getElem_cons_succ, List.getElem_cons_zero, List.setIfInBounds_toArray, List.set_cons_zero, List.set_cons_succ]
  refine wpAnyH_take (i := 15) (v := undef) rfl (by kernel_rfl) (by kernel_rfl) (by kernel_rfl) (fun _ _ _ h => h) (Or.inr ⟨by kernel_rfl, rfl⟩) hS ?_
  try simp only [Act.put, List.getElem_toArray, List.getElem_cons_succ, List.getElem_cons_zero, List.setIfInBounds_toArray, List.set_cons_zero, List.set_cons_succ]
  refine wpAnyH_take (i := 16) (v := undef) rfl (by kernel_rfl) (by kernel_rfl) (by kernel_rfl) (fun _ _ _ h => h) (Or.inr ⟨by kernel_rfl, rfl⟩) hS ?_
  try simp only [Act.put, List.getElem_toArray, List.getElem_cons_succ, List.getElem_cons_zero, List.setIfInBounds_toArray, List.set_cons_zero, List.set_cons_succ]
  refine wpAnyH_take (i := 17) (v := undef) rfl (by kernel_rfl) (by kernel_rfl) (by kernel_rfl) (fun _ _ _ h => h) (Or.inr ⟨by kernel_rfl, rfl⟩) hS ?_
  try simp only [Act.put, List.getElem_toArray, List.getElem_cons_succ, List.getElem_cons_zero, List.setIfInBounds_toArray, List.set_cons_zero, List.set_cons_succ]
  refine wpAnyH_take (i := 18) (v := undef) rfl (by kernel_rfl) (by kernel_rfl) (by kernel_rfl) (fun _ _ _ h => h) (Or.inr ⟨by kernel_rfl, rfl⟩) hS ?_
  try simp only [Act.put, List.getElem_toArray, List.getElem_cons_succ, List.getElem_cons_zero, List.setIfInBounds_toArray, List.set_cons_zero, List.set_cons_succ]
  refine wpAnyH_take (i := 19) (v := undef) rfl (by kernel_rfl) (by kernel_rfl) (by kernel_rfl) (fun _ _ _ h => h) (Or.inr ⟨by kernel_rfl, rfl⟩) hS ?_
  try simp only [Act.put, List.getElem_toArray, List.getElem_cons_succ, List.getElem_cons_zero, List.setIfInBounds_toArray, List.set_cons_zero, List.set_cons_succ]
  refine wpAnyH_take (i := 20) (v := undef) rfl (by kernel_rfl) (by kernel_rfl) (by kernel_rfl) (fun _ _ _ h => h) (Or.inr ⟨by kernel_rfl, rfl⟩) hS ?_
  try simp only [Act.put, List.getElem_toArray, List.getElem_cons_succ, List.getElem_cons_zero, List.setIfInBounds_toArray, List.set_cons_zero, List.set_cons_succ]
  refine wpAnyH_take (i := 21) (v := undef) rfl (by kernel_rfl) (by kernel_rfl) (by kernel_rfl) (fun _ _ _ h => h) (Or.inr ⟨by kernel_rfl, rfl⟩) hS ?_
  try simp only [Act.put, List.getElem_toArray, List.getElem_cons_succ, List.getElem_cons_zero, List.setIfInBounds_toArray, List.set_cons_zero, List.set_cons_succ]
  refine wpAnyH_take (i := 22) (v := undef) rfl (by kernel_rfl) (by kernel_rfl) (by kernel_rfl) (fun _ _ _ h => h) (Or.inr ⟨by kernel_rfl, rfl⟩) hS ?_
  try simp only [Act.put, List.getElem_toArray, List.getElem_cons_succ, List.getElem_cons_zero, List.setIfInBounds_toArray, List.set_cons_zero, List.set_cons_succ]
  refine wpAnyH_take (i := 23) (v := undef) rfl (by kernel_rfl) (by kernel_rfl) (by kernel_rfl) (fun _ _ _ h => h) (Or.inr ⟨by kernel_rfl, rfl⟩) hS ?_
  try simp only [Act.put, List.getElem_toArray, List.getElem_cons_succ, List.getElem_cons_zero, List.setIfInBounds_toArray, List.set_cons_zero, List.set_cons_succ]
  refine wpAnyH_take (i := 24) (v := undef) rfl (by kernel_rfl) (by kernel_rfl) (by kernel_rfl) (fun _ _ _ h => h) (Or.inr ⟨by kernel_rfl, rfl⟩) hS ?_
  try simp only [Act.put, List.getElem_toArray, List.getElem_cons_succ, List.getElem_cons_zero, List.setIfInBounds_toArray, List.set_cons_zero, List.set_cons_succ]
  refine wpAnyH_take (i := 25) (v := undef) rfl (by kernel_rfl) (by kernel_rfl) (by kernel_rfl) (fun _ _ _ h => h) (Or.inr ⟨by kernel_rfl, rfl⟩) hS ?_
  try simp only [Act.put, List.getElem_toArray, List.getElem_cons_succ, List.getElem_cons_zero, List.setIfInBounds_toArray, List.set_cons_zero, List.set_cons_succ]
  refine wpAnyH_take (i := 26) (v := undef) rfl (by kernel_rfl) (by kernel_rfl) (by kernel_rfl) (fun _ _ _ h => h) (Or.inr ⟨by kernel_rfl, rfl⟩) hS ?_
  try simp only [Act.put, List.getElem_toArray, List.getElem_cons_succ, List.getElem_cons_zero, List.setIfInBounds_toArray, List.set_cons_zero, List.set_cons_succ]
  refine wpAnyH_take (i := 27) (v := undef) rfl (by kernel_rfl) (by kernel_rfl) (by kernel_rfl) (fun _ _ _ h => h) (Or.inr ⟨by kernel_rfl, rfl⟩) hS ?_
  try simp only [Act.put, List.getElem_toArray, List.getElem_cons_succ, List.getElem_cons_zero, List.setIfInBounds_toArray, List.set_cons_zero, List.set_cons_succ]
  refine wpAnyH_take (i := 28) (v := ?_) rfl (by kernel_rfl) (by kernel_rfl) (by kernel_rfl) (fun _ _ _ h => h) (Or.inl ⟨by kernel_rfl, ?_⟩) hS ?_; rotate_left; focus (intro uu hu; clear hu; go_simp; try with_reducible rfl)
  try simp only [Act.put, List.getElem_toArray, List.getElem_cons_succ, List.getElem_cons_zero, List.setIfInBounds_toArray, List.set_cons_zero, List.set_cons_succ]
  refine wpAnyH_done (by kernel_rfl) ?_ _
  clear hS
  go_wp2_with fail
  go_ret
  exact ⟨rfl, rfl⟩
set_option maxHeartbeats 1000000 in
theorem specL16In_room (r : Int) (b : ByteArray)  (r2 : Int) (b2 : ByteArray) (e2 k2 : Bool) (wt cm : Int) (s : ByteArray) (fin : Bool) (g : Nat) (w : World) (R : RowIs w g 87 [.int .i64 r, .string b, .bool false, .bool false, .int .i64 r2, .string b2, .bool e2, .bool k2, .int .i64 wt, .int .i64 cm]) (hb1 : b.size ≤ 2000) (hr1 : r ≤ 2000) (hr0 : 1 ≤ r) (hs : s.size ≤ maxLen) (hno : r - b.size < s.size) :
    Calls Tryz.prog 111 #[.pointer (some ⟨g, 0, none⟩), .string s, .bool fin] w fun x w' => x = .returned (.bool false) ∧ w' = w.drewN 1 := by
  have hx0 := RowIs.cell (j := 0) R rfl
  have hx1 := RowIs.cell (j := 1) R rfl
  have hx2 := RowIs.cell (j := 2) R rfl
  have hx3 := RowIs.cell (j := 3) R rfl
  unfold maxLen at hs
  have e1 : IntKind.i64.wrap (r - (b.size : Int)) = r - b.size := by rw [IntKind.wrap_i64]; omega
  have hgt : (s.size : Int) > r - b.size := by omega
  go_enter Tryz.func111, Tryz.ntmps111
  go_wp2_with fail
  refine wp_region_held_drew (S := (fun u => u.cell? ⟨g, 0, none⟩ = some (.int .i64 r) ∧ u.cell? ⟨g, 1, none⟩ = some (.string b) ∧ u.cell? ⟨g, 2, none⟩ = some (.bool false) ∧ u.cell? ⟨g, 3, none⟩ = some (.bool false))) (by kernel_rfl) (And.intro hx0 (And.intro hx1 (And.intro hx2 hx3))) (fun hS => ?_)
  refine wpAnyH_take (i := 0) (v := ?_) rfl (by kernel_rfl) (by kernel_rfl) (by kernel_rfl) (fun _ _ _ h => h) (Or.inl ⟨by kernel_rfl, ?_⟩) hS ?_; rotate_left; focus (intro uu hu; clear hu; go_simp; try with_reducible rfl)
  try simp only [Act.put, List.getElem_toArray, List.getElem_cons_succ, List.getElem_cons_zero, List.setIfInBounds_toArray, List.set_cons_zero, List.set_cons_succ]
  refine wpAnyH_take (i := 1) (v := ?_) rfl (by kernel_rfl) (by kernel_rfl) (by kernel_rfl) (fun _ _ _ h => h) (Or.inl ⟨by kernel_rfl, ?_⟩) hS ?_; rotate_left; focus (intro uu hu; clear hu; go_simp; try with_reducible rfl)
  try simp only [Act.put, List.getElem_toArray, List.getElem_cons_succ, List.getElem_cons_zero, List.setIfInBounds_toArray, List.set_cons_zero, List.set_cons_succ]
  refine wpAnyH_take (i := 2) (v := ?_) rfl (by kernel_rfl) (by kernel_rfl) (by kernel_rfl) (fun _ _ _ h => h) (Or.inl ⟨by kernel_rfl, ?_⟩) hS ?_; rotate_left; focus (intro uu hu; clear hu; go_simp; try with_reducible rfl)
  try simp only [Act.put, List.getElem_toArray, List.getElem_cons_succ, List.getElem_cons_zero, List.setIfInBounds_toArray, List.set_cons_zero, List.set_cons_succ]
  refine wpAnyH_take (i := 3) (v := ?_) rfl (by kernel_rfl) (by kernel_rfl) (by kernel_rfl) (fun _ _ _ h => h) (Or.inl ⟨by kernel_rfl, ?_⟩) hS ?_; rotate_left; focus (intro uu hu; clear hu; go_simp; try with_reducible rfl)
  try simp only [Act.put, List.getElem_toArray, List.getElem_cons_succ, List.getElem_cons_zero, List.setIfInBounds_toArray, List.set_cons_zero, List.set_cons_succ]
  refine wpAnyH_take (i := 4) (v := .bool false) rfl (by kernel_rfl) (by kernel_rfl) (by kernel_rfl) (fun _ _ _ h => h) (Or.inl ⟨by kernel_rfl, ?ld⟩) hS ?_; case ld => (intro uu hu; have hu2 := hu; obtain ⟨l0, l1, l2, l3⟩ := hu2; clear hu; go_simp)
  try simp only [Act.put, List.getElem_toArray, List.getElem_cons_succ, List.getElem_cons_zero, List.setIfInBounds_toArray, List.set_cons_zero, List.set_cons_succ]
  refine wpAnyH_take (i := 5) (v := ?_) rfl (by kernel_rfl) (by kernel_rfl) (by kernel_rfl) (fun _ _ _ h => h) (Or.inl ⟨by kernel_rfl, ?_⟩) hS ?_; rotate_left; focus (intro uu hu; clear hu; go_simp; try with_reducible rfl)
  try simp only [Act.put, List.getElem_toArray, List.getElem_cons_succ, List.getElem_cons_zero, List.setIfInBounds_toArray, List.set_cons_zero, List.set_cons_succ]
  refine wpAnyH_take (i := 6) (v := ?_) rfl (by kernel_rfl) (by kernel_rfl) (by kernel_rfl) (fun _ _ _ h => h) (Or.inl ⟨by kernel_rfl, ?_⟩) hS ?_; rotate_left; focus (intro uu hu; clear hu; go_simp; try with_reducible rfl)
  try simp only [Act.put, List.getElem_toArray, List.getElem_cons_succ, List.getElem_cons_zero, List.setIfInBounds_toArray, List.set_cons_zero, List.set_cons_succ]
  refine wpAnyH_take (i := 7) (v := ?_) rfl (by kernel_rfl) (by kernel_rfl) (by kernel_rfl) (fun _ _ _ h => h) (Or.inl ⟨by kernel_rfl, ?_⟩) hS ?_; rotate_left; focus (intro uu hu; clear hu; go_simp; try with_reducible rfl)
  try simp only [Act.put, List.getElem_toArray, List.getElem_cons_succ, List.getElem_cons_zero, List.setIfInBounds_toArray, List.set_cons_zero, List.set_cons_succ]
  refine wpAnyH_take (i := 8) (v := ?_) rfl (by kernel_rfl) (by kernel_rfl) (by kernel_rfl) (fun _ _ _ h => h) (Or.inl ⟨by kernel_rfl, ?_⟩) hS ?_; rotate_left; focus (intro uu hu; clear hu; go_simp; try with_reducible rfl)
  try simp only [Act.put, List.getElem_toArray, List.getElem_cons_succ, List.getElem_cons_zero, List.setIfInBounds_toArray, List.set_cons_zero, List.set_cons_succ]
  refine wpAnyH_take (i := 9) (v := ?_) rfl (by kernel_rfl) (by kernel_rfl) (by kernel_rfl) (fun _ _ _ h => h) (Or.inl ⟨by kernel_rfl, ?_⟩) hS ?_; rotate_left; focus (intro uu hu; clear hu; go_simp; try with_reducible rfl)
  try simp only [Act.put, List.getElem_toArray, List.getElem_cons_succ, List.getElem_cons_zero, List.setIfInBounds_toArray, List.set_cons_zero, List.set_cons_succ]
  refine wpAnyH_take (i := 10) (v := .bool false) rfl (by kernel_rfl) (by kernel_rfl) (by kernel_rfl) (fun _ _ _ h => h) (Or.inl ⟨by kernel_rfl, ?ld⟩) hS ?_; case ld => (intro uu hu; have hu2 := hu; obtain ⟨l0, l1, l2, l3⟩ := hu2; clear hu; go_simp)
  try simp only [Act.put, List.getElem_toArray, List.getElem_cons_succ, List.getElem_cons_zero, List.setIfInBounds_toArray, List.set_cons_zero, List.set_cons_succ]
  refine wpAnyH_take (i := 11) (v := ?_) rfl (by kernel_rfl) (by kernel_rfl) (by kernel_rfl) (fun _ _ _ h => h) (Or.inl ⟨by kernel_rfl, ?_⟩) hS ?_; rotate_left; focus (intro uu hu; clear hu; go_simp; try with_reducible rfl)
  try simp only [Act.put, List.getElem_toArray, List.getElem_cons_succ, List.getElem_cons_zero, List.setIfInBounds_toArray, List.set_cons_zero, List.set_cons_succ]
  refine wpAnyH_take (i := 12) (v := ?_) rfl (by kernel_rfl) (by kernel_rfl) (by kernel_rfl) (fun _ _ _ h => h) (Or.inl ⟨by kernel_rfl, ?_⟩) hS ?_; rotate_left; focus (intro uu hu; clear hu; go_simp; try with_reducible rfl)
  try simp only [Act.put, List.getElem_toArray, List.getElem_cons_succ, List.getElem_cons_zero, List.setIfInBounds_toArray, List.set_cons_zero, List.set_cons_succ]
  refine wpAnyH_take (i := 13) (v := ?_) rfl (by kernel_rfl) (by kernel_rfl) (by kernel_rfl) (fun _ _ _ h => h) (Or.inl ⟨by kernel_rfl, ?_⟩) hS ?_; rotate_left; focus (intro uu hu; clear hu; go_simp; try with_reducible rfl)
  try simp only [Act.put, List.getElem_toArray, List.getElem_cons_succ, List.getElem_cons_zero, List.setIfInBounds_toArray, List.set_cons_zero, List.set_cons_succ]
  refine wpAnyH_take (i := 14) (v := ?_) rfl (by kernel_rfl) (by kernel_rfl) (by kernel_rfl) (fun _ _ _ h => h) (Or.inl ⟨by kernel_rfl, ?_⟩) hS ?_; rotate_left; focus (intro uu hu; clear hu; go_simp; try with_reducible rfl)
  try simp only [Act.put, List.getElem_toArray, List.getElem_cons_succ, List.getElem_cons_zero, List.setIfInBounds_toArray, List.set_cons_zero, List.set_cons_succ]
  refine wpAnyH_take (i := 15) (v := ?_) rfl (by kernel_rfl) (by kernel_rfl) (by kernel_rfl) (fun _ _ _ h => h) (Or.inl ⟨by kernel_rfl, ?_⟩) hS ?_; rotate_left; focus (intro uu hu; clear hu; go_simp; try with_reducible rfl)
  try simp only [Act.put, List.getElem_toArray, List.getElem_cons_succ, List.getElem_cons_zero, List.setIfInBounds_toArray, List.set_cons_zero, List.set_cons_succ]
  refine wpAnyH_take (i := 16) (v := ?_) rfl (by kernel_rfl) (by kernel_rfl) (by kernel_rfl) (fun _ _ _ h => h) (Or.inl ⟨by kernel_rfl, ?_⟩) hS ?_; rotate_left; focus (intro uu hu; clear hu; go_simp; try with_reducible rfl)
  try simp only [Act.put, List.getElem_toArray, List.getElem_cons_succ, List.getElem_cons_zero, List.setIfInBounds_toArray, List.set_cons_zero, List.set_cons_succ]
  refine wpAnyH_take (i := 17) (v := ?_) rfl (by kernel_rfl) (by kernel_rfl) (by kernel_rfl) (fun _ _ _ h => h) (Or.inl ⟨by kernel_rfl, ?_⟩) hS ?_; rotate_left; focus (intro uu hu; clear hu; go_simp; try with_reducible rfl)
  try simp only [Act.put, List.getElem_toArray, List.getElem_cons_succ, List.getElem_cons_zero, List.setIfInBounds_toArray, List.set_cons_zero, List.set_cons_succ]
  refine wpAnyH_take (i := 18) (v := ?_) rfl (by kernel_rfl) (by kernel_rfl) (by kernel_rfl) (fun _ _ _ h => h) (Or.inl ⟨by kernel_rfl, ?_⟩) hS ?_; rotate_left; focus (intro uu hu; clear hu; go_simp; try with_reducible rfl)
  try simp only [Act.put, List.getElem_toArray, List.getElem_cons_succ, List.getElem_cons_zero, List.setIfInBounds_toArray, List.set_cons_zero, List.set_cons_succ]
  refine wpAnyH_take (i := 19) (v := .int .i64 r) rfl (by kernel_rfl) (by kernel_rfl) (by kernel_rfl) (fun _ _ _ h => h) (Or.inl ⟨by kernel_rfl, ?ld⟩) hS ?_; case ld => (intro uu hu; have hu2 := hu; obtain ⟨l0, l1, l2, l3⟩ := hu2; clear hu; go_simp)
  try simp only [Act.put, List.getElem_toArray, List.getElem_cons_succ, List.getElem_cons_zero, List.setIfInBounds_toArray, List.set_cons_zero, List.set_cons_succ]
  refine wpAnyH_take (i := 20) (v := ?_) rfl (by kernel_rfl) (by kernel_rfl) (by kernel_rfl) (fun _ _ _ h => h) (Or.inl ⟨by kernel_rfl, ?_⟩) hS ?_; rotate_left; focus (intro uu hu; clear hu; go_simp; try with_reducible rfl)
  try simp only [Act.put, List.getElem_toArray, List.getElem_cons_succ, List.getElem_cons_zero, List.setIfInBounds_toArray, List.set_cons_zero, List.set_cons_succ]
  refine wpAnyH_take (i := 21) (v := ?_) rfl (by kernel_rfl) (by kernel_rfl) (by kernel_rfl) (fun _ _ _ h => h) (Or.inl ⟨by kernel_rfl, ?_⟩) hS ?_; rotate_left; focus (intro uu hu; clear hu; go_simp; try with_reducible rfl)
  try simp only [Act.put, List.getElem_toArray, List.getElem_cons_succ, List.getElem_cons_zero, List.setIfInBounds_toArray, List.set_cons_zero, List.set_cons_succ]
  refine wpAnyH_take (i := 22) (v := ?_) rfl (by kernel_rfl) (by kernel_rfl) (by kernel_rfl) (fun _ _ _ h => h) (Or.inl ⟨by kernel_rfl, ?_⟩) hS ?_; rotate_left; focus (intro uu hu; clear hu; go_simp; try with_reducible rfl)
  try simp only [Act.put, List.getElem_toArray, List.getElem_cons_succ, List.getElem_cons_zero, List.setIfInBounds_toArray, List.set_cons_zero, List.set_cons_succ]
  refine wpAnyH_take (i := 23) (v := ?_) rfl (by kernel_rfl) (by kernel_rfl) (by kernel_rfl) (fun _ _ _ h => h) (Or.inl ⟨by kernel_rfl, ?_⟩) hS ?_; rotate_left; focus (intro uu hu; clear hu; go_simp; try with_reducible rfl)
  try simp only [Act.put, List.getElem_toArray, List.getElem_cons_succ, List.getElem_cons_zero, List.setIfInBounds_toArray, List.set_cons_zero, List.set_cons_succ]
  refine wpAnyH_take (i := 24) (v := .string b) rfl (by kernel_rfl) (by kernel_rfl) (by kernel_rfl) (fun _ _ _ h => h) (Or.inl ⟨by kernel_rfl, ?ld⟩) hS ?_; case ld => (intro uu hu; have hu2 := hu; obtain ⟨l0, l1, l2, l3⟩ := hu2; clear hu; go_simp)
  try simp only [Act.put, List.getElem_toArray, List.getElem_cons_succ, List.getElem_cons_zero, List.setIfInBounds_toArray, List.set_cons_zero, List.set_cons_succ]
  refine wpAnyH_take (i := 25) (v := ?_) rfl (by kernel_rfl) (by kernel_rfl) (by kernel_rfl) (fun _ _ _ h => h) (Or.inl ⟨by kernel_rfl, ?_⟩) hS ?_; rotate_left; focus (intro uu hu; clear hu; go_simp; try with_reducible rfl)
  try simp only [Act.put, List.getElem_toArray, List.getElem_cons_succ, List.getElem_cons_zero, List.setIfInBounds_toArray, List.set_cons_zero, List.set_cons_succ]
  refine wpAnyH_take (i := 26) (v := ?_) rfl (by kernel_rfl) (by kernel_rfl) (by kernel_rfl) (fun _ _ _ h => h) (Or.inl ⟨by kernel_rfl, ?_⟩) hS ?_; rotate_left; focus (intro uu hu; clear hu; go_simp; try with_reducible rfl)
  try simp only [Act.put, List.getElem_toArray, List.getElem_cons_succ, List.getElem_cons_zero, List.setIfInBounds_toArray, List.set_cons_zero, List.set_cons_succ]
  refine wpAnyH_take (i := 27) (v := .bool true) rfl (by kernel_rfl) (by kernel_rfl) (by kernel_rfl) (fun _ _ _ h => h) (Or.inl ⟨by kernel_rfl, ?ld⟩) hS ?_; case ld => (intro uu hu; clear hu; go_simp)
  try simp only [Act.put, List.getElem_toArray, List.getElem_cons_succ, List.getElem_cons_zero, List.setIfInBounds_toArray, List.set_cons_zero, List.set_cons_succ]
  refine wpAnyH_take (i := 28) (v := ?_) rfl (by kernel_rfl) (by kernel_rfl) (by kernel_rfl) (fun _ _ _ h => h) (Or.inl ⟨by kernel_rfl, ?_⟩) hS ?_; rotate_left; focus (intro uu hu; clear hu; go_simp; try with_reducible rfl)
  try simp only [Act.put, List.getElem_toArray, List.getElem_cons_succ, List.getElem_cons_zero, List.setIfInBounds_toArray, List.set_cons_zero, List.set_cons_succ]
  refine wpAnyH_done (by kernel_rfl) ?_ _
  clear hS
  go_wp2_with fail
  go_ret
  exact ⟨rfl, rfl⟩
set_option maxHeartbeats 1000000 in
theorem specL16In_yes (r : Int) (b : ByteArray)  (r2 : Int) (b2 : ByteArray) (e2 k2 : Bool) (wt cm : Int) (s : ByteArray) (fin : Bool) (g : Nat) (w : World) (R : RowIs w g 87 [.int .i64 r, .string b, .bool false, .bool false, .int .i64 r2, .string b2, .bool e2, .bool k2, .int .i64 wt, .int .i64 cm]) (hr1 : r ≤ 2000) (hb1 : (b.size : Int) ≤ r) (hs : s.size ≤ 1048576) (hyes : (s.size : Int) ≤ r - b.size) :
    Calls Tryz.prog 111 #[.pointer (some ⟨g, 0, none⟩), .string s, .bool fin] w fun x w' => x = .returned (.bool true) ∧ RowIs w' g 87 [.int .i64 r, .string (b ++ s), .bool fin, .bool false, .int .i64 r2, .string b2, .bool e2, .bool k2, .int .i64 wt, .int .i64 cm] ∧ Turn g (g + 1) w w' := by
  have hx0 := RowIs.cell (j := 0) R rfl
  have hx1 := RowIs.cell (j := 1) R rfl
  have hx2 := RowIs.cell (j := 2) R rfl
  have hx3 := RowIs.cell (j := 3) R rfl
  have e1 : IntKind.i64.wrap (r - (b.size : Int)) = r - b.size := by rw [IntKind.wrap_i64]; omega
  have hgt : ¬ (s.size : Int) > r - b.size := by omega
  go_enter Tryz.func111, Tryz.ntmps111
  go_wp2_with fail
  refine wp_region_held_drew (S := (fun u => u.cell? ⟨g, 0, none⟩ = some (.int .i64 r) ∧ u.cell? ⟨g, 1, none⟩ = some (.string b) ∧ u.cell? ⟨g, 2, none⟩ = some (.bool false) ∧ u.cell? ⟨g, 3, none⟩ = some (.bool false))) (by kernel_rfl) (And.intro hx0 (And.intro hx1 (And.intro hx2 hx3))) (fun hS => ?_)
  refine wpAnyH_take (i := 0) (v := ?_) rfl (by kernel_rfl) (by kernel_rfl) (by kernel_rfl) (fun _ _ _ h => h) (Or.inl ⟨by kernel_rfl, ?_⟩) hS ?_; rotate_left; focus (intro uu hu; clear hu; go_simp; try with_reducible rfl)
  try simp only [Act.put, List.getElem_toArray, List.getElem_cons_succ, List.getElem_cons_zero, List.setIfInBounds_toArray, List.set_cons_zero, List.set_cons_succ]
  refine wpAnyH_take (i := 1) (v := ?_) rfl (by kernel_rfl) (by kernel_rfl) (by kernel_rfl) (fun _ _ _ h => h) (Or.inl ⟨by kernel_rfl, ?_⟩) hS ?_; rotate_left; focus (intro uu hu; clear hu; go_simp; try with_reducible rfl)
  try simp only [Act.put, List.getElem_toArray, List.getElem_cons_succ, List.getElem_cons_zero, List.setIfInBounds_toArray, List.set_cons_zero, List.set_cons_succ]
  refine wpAnyH_take (i := 2) (v := ?_) rfl (by kernel_rfl) (by kernel_rfl) (by kernel_rfl) (fun _ _ _ h => h) (Or.inl ⟨by kernel_rfl, ?_⟩) hS ?_; rotate_left; focus (intro uu hu; clear hu; go_simp; try with_reducible rfl)
  try simp only [Act.put, List.getElem_toArray, List.getElem_cons_succ, List.getElem_cons_zero, List.setIfInBounds_toArray, List.set_cons_zero, List.set_cons_succ]
  refine wpAnyH_take (i := 3) (v := ?_) rfl (by kernel_rfl) (by kernel_rfl) (by kernel_rfl) (fun _ _ _ h => h) (Or.inl ⟨by kernel_rfl, ?_⟩) hS ?_; rotate_left; focus (intro uu hu; clear hu; go_simp; try with_reducible rfl)
  try simp only [Act.put, List.getElem_toArray, List.getElem_cons_succ, List.getElem_cons_zero, List.setIfInBounds_toArray, List.set_cons_zero, List.set_cons_succ]
  refine wpAnyH_take (i := 4) (v := .bool false) rfl (by kernel_rfl) (by kernel_rfl) (by kernel_rfl) (fun _ _ _ h => h) (Or.inl ⟨by kernel_rfl, ?ld⟩) hS ?_; case ld => (intro uu hu; have hu2 := hu; obtain ⟨l0, l1, l2, l3⟩ := hu2; clear hu; go_simp)
  try simp only [Act.put, List.getElem_toArray, List.getElem_cons_succ, List.getElem_cons_zero, List.setIfInBounds_toArray, List.set_cons_zero, List.set_cons_succ]
  refine wpAnyH_take (i := 5) (v := ?_) rfl (by kernel_rfl) (by kernel_rfl) (by kernel_rfl) (fun _ _ _ h => h) (Or.inl ⟨by kernel_rfl, ?_⟩) hS ?_; rotate_left; focus (intro uu hu; clear hu; go_simp; try with_reducible rfl)
  try simp only [Act.put, List.getElem_toArray, List.getElem_cons_succ, List.getElem_cons_zero, List.setIfInBounds_toArray, List.set_cons_zero, List.set_cons_succ]
  refine wpAnyH_take (i := 6) (v := ?_) rfl (by kernel_rfl) (by kernel_rfl) (by kernel_rfl) (fun _ _ _ h => h) (Or.inl ⟨by kernel_rfl, ?_⟩) hS ?_; rotate_left; focus (intro uu hu; clear hu; go_simp; try with_reducible rfl)
  try simp only [Act.put, List.getElem_toArray, List.getElem_cons_succ, List.getElem_cons_zero, List.setIfInBounds_toArray, List.set_cons_zero, List.set_cons_succ]
  refine wpAnyH_take (i := 7) (v := ?_) rfl (by kernel_rfl) (by kernel_rfl) (by kernel_rfl) (fun _ _ _ h => h) (Or.inl ⟨by kernel_rfl, ?_⟩) hS ?_; rotate_left; focus (intro uu hu; clear hu; go_simp; try with_reducible rfl)
  try simp only [Act.put, List.getElem_toArray, List.getElem_cons_succ, List.getElem_cons_zero, List.setIfInBounds_toArray, List.set_cons_zero, List.set_cons_succ]
  refine wpAnyH_take (i := 8) (v := ?_) rfl (by kernel_rfl) (by kernel_rfl) (by kernel_rfl) (fun _ _ _ h => h) (Or.inl ⟨by kernel_rfl, ?_⟩) hS ?_; rotate_left; focus (intro uu hu; clear hu; go_simp; try with_reducible rfl)
  try simp only [Act.put, List.getElem_toArray, List.getElem_cons_succ, List.getElem_cons_zero, List.setIfInBounds_toArray, List.set_cons_zero, List.set_cons_succ]
  refine wpAnyH_take (i := 9) (v := ?_) rfl (by kernel_rfl) (by kernel_rfl) (by kernel_rfl) (fun _ _ _ h => h) (Or.inl ⟨by kernel_rfl, ?_⟩) hS ?_; rotate_left; focus (intro uu hu; clear hu; go_simp; try with_reducible rfl)
  try simp only [Act.put, List.getElem_toArray, List.getElem_cons_succ, List.getElem_cons_zero, List.setIfInBounds_toArray, List.set_cons_zero, List.set_cons_succ]
  refine wpAnyH_take (i := 10) (v := .bool false) rfl (by kernel_rfl) (by kernel_rfl) (by kernel_rfl) (fun _ _ _ h => h) (Or.inl ⟨by kernel_rfl, ?ld⟩) hS ?_; case ld => (intro uu hu; have hu2 := hu; obtain ⟨l0, l1, l2, l3⟩ := hu2; clear hu; go_simp)
  try simp only [Act.put, List.getElem_toArray, List.getElem_cons_succ, List.getElem_cons_zero, List.setIfInBounds_toArray, List.set_cons_zero, List.set_cons_succ]
  refine wpAnyH_take (i := 11) (v := ?_) rfl (by kernel_rfl) (by kernel_rfl) (by kernel_rfl) (fun _ _ _ h => h) (Or.inl ⟨by kernel_rfl, ?_⟩) hS ?_; rotate_left; focus (intro uu hu; clear hu; go_simp; try with_reducible rfl)
  try simp only [Act.put, List.getElem_toArray, List.getElem_cons_succ, List.getElem_cons_zero, List.setIfInBounds_toArray, List.set_cons_zero, List.set_cons_succ]
  refine wpAnyH_take (i := 12) (v := ?_) rfl (by kernel_rfl) (by kernel_rfl) (by kernel_rfl) (fun _ _ _ h => h) (Or.inl ⟨by kernel_rfl, ?_⟩) hS ?_; rotate_left; focus (intro uu hu; clear hu; go_simp; try with_reducible rfl)
  try simp only [Act.put, List.getElem_toArray, List.getElem_cons_succ, List.getElem_cons_zero, List.setIfInBounds_toArray, List.set_cons_zero, List.set_cons_succ]
  refine wpAnyH_take (i := 13) (v := ?_) rfl (by kernel_rfl) (by kernel_rfl) (by kernel_rfl) (fun _ _ _ h => h) (Or.inl ⟨by kernel_rfl, ?_⟩) hS ?_; rotate_left; focus (intro uu hu; clear hu; go_simp; try with_reducible rfl)
  try simp only [Act.put, List.getElem_toArray, List.getElem_cons_succ, List.getElem_cons_zero, List.setIfInBounds_toArray, List.set_cons_zero, List.set_cons_succ]
  refine wpAnyH_take (i := 14) (v := ?_) rfl (by kernel_rfl) (by kernel_rfl) (by kernel_rfl) (fun _ _ _ h => h) (Or.inl ⟨by kernel_rfl, ?_⟩) hS ?_; rotate_left; focus (intro uu hu; clear hu; go_simp; try with_reducible rfl)
  try simp only [Act.put, List.getElem_toArray, List.getElem_cons_succ, List.getElem_cons_zero, List.setIfInBounds_toArray, List.set_cons_zero, List.set_cons_succ]
  refine wpAnyH_take (i := 15) (v := ?_) rfl (by kernel_rfl) (by kernel_rfl) (by kernel_rfl) (fun _ _ _ h => h) (Or.inl ⟨by kernel_rfl, ?_⟩) hS ?_; rotate_left; focus (intro uu hu; clear hu; go_simp; try with_reducible rfl)
  try simp only [Act.put, List.getElem_toArray, List.getElem_cons_succ, List.getElem_cons_zero, List.setIfInBounds_toArray, List.set_cons_zero, List.set_cons_succ]
  refine wpAnyH_take (i := 16) (v := ?_) rfl (by kernel_rfl) (by kernel_rfl) (by kernel_rfl) (fun _ _ _ h => h) (Or.inl ⟨by kernel_rfl, ?_⟩) hS ?_; rotate_left; focus (intro uu hu; clear hu; go_simp; try with_reducible rfl)
  try simp only [Act.put, List.getElem_toArray, List.getElem_cons_succ, List.getElem_cons_zero, List.setIfInBounds_toArray, List.set_cons_zero, List.set_cons_succ]
  refine wpAnyH_take (i := 17) (v := ?_) rfl (by kernel_rfl) (by kernel_rfl) (by kernel_rfl) (fun _ _ _ h => h) (Or.inl ⟨by kernel_rfl, ?_⟩) hS ?_; rotate_left; focus (intro uu hu; clear hu; go_simp; try with_reducible rfl)
  try simp only [Act.put, List.getElem_toArray, List.getElem_cons_succ, List.getElem_cons_zero, List.setIfInBounds_toArray, List.set_cons_zero, List.set_cons_succ]
  refine wpAnyH_take (i := 18) (v := ?_) rfl (by kernel_rfl) (by kernel_rfl) (by kernel_rfl) (fun _ _ _ h => h) (Or.inl ⟨by kernel_rfl, ?_⟩) hS ?_; rotate_left; focus (intro uu hu; clear hu; go_simp; try with_reducible rfl)
  try simp only [Act.put, List.getElem_toArray, List.getElem_cons_succ, List.getElem_cons_zero, List.setIfInBounds_toArray, List.set_cons_zero, List.set_cons_succ]
  refine wpAnyH_take (i := 19) (v := .int .i64 r) rfl (by kernel_rfl) (by kernel_rfl) (by kernel_rfl) (fun _ _ _ h => h) (Or.inl ⟨by kernel_rfl, ?ld⟩) hS ?_; case ld => (intro uu hu; have hu2 := hu; obtain ⟨l0, l1, l2, l3⟩ := hu2; clear hu; go_simp)
  try simp only [Act.put, List.getElem_toArray, List.getElem_cons_succ, List.getElem_cons_zero, List.setIfInBounds_toArray, List.set_cons_zero, List.set_cons_succ]
  refine wpAnyH_take (i := 20) (v := ?_) rfl (by kernel_rfl) (by kernel_rfl) (by kernel_rfl) (fun _ _ _ h => h) (Or.inl ⟨by kernel_rfl, ?_⟩) hS ?_; rotate_left; focus (intro uu hu; clear hu; go_simp; try with_reducible rfl)
  try simp only [Act.put, List.getElem_toArray, List.getElem_cons_succ, List.getElem_cons_zero, List.setIfInBounds_toArray, List.set_cons_zero, List.set_cons_succ]
  refine wpAnyH_take (i := 21) (v := ?_) rfl (by kernel_rfl) (by kernel_rfl) (by kernel_rfl) (fun _ _ _ h => h) (Or.inl ⟨by kernel_rfl, ?_⟩) hS ?_; rotate_left; focus (intro uu hu; clear hu; go_simp; try with_reducible rfl)
  try simp only [Act.put, List.getElem_toArray, List.getElem_cons_succ, List.getElem_cons_zero, List.setIfInBounds_toArray, List.set_cons_zero, List.set_cons_succ]
  refine wpAnyH_take (i := 22) (v := ?_) rfl (by kernel_rfl) (by kernel_rfl) (by kernel_rfl) (fun _ _ _ h => h) (Or.inl ⟨by kernel_rfl, ?_⟩) hS ?_; rotate_left; focus (intro uu hu; clear hu; go_simp; try with_reducible rfl)
  try simp only [Act.put, List.getElem_toArray, List.getElem_cons_succ, List.getElem_cons_zero, List.setIfInBounds_toArray, List.set_cons_zero, List.set_cons_succ]
  refine wpAnyH_take (i := 23) (v := ?_) rfl (by kernel_rfl) (by kernel_rfl) (by kernel_rfl) (fun _ _ _ h => h) (Or.inl ⟨by kernel_rfl, ?_⟩) hS ?_; rotate_left; focus (intro uu hu; clear hu; go_simp; try with_reducible rfl)
  try simp only [Act.put, List.getElem_toArray, List.getElem_cons_succ, List.getElem_cons_zero, List.setIfInBounds_toArray, List.set_cons_zero, List.set_cons_succ]
  refine wpAnyH_take (i := 24) (v := .string b) rfl (by kernel_rfl) (by kernel_rfl) (by kernel_rfl) (fun _ _ _ h => h) (Or.inl ⟨by kernel_rfl, ?ld⟩) hS ?_; case ld => (intro uu hu; have hu2 := hu; obtain ⟨l0, l1, l2, l3⟩ := hu2; clear hu; go_simp)
  try simp only [Act.put, List.getElem_toArray, List.getElem_cons_succ, List.getElem_cons_zero, List.setIfInBounds_toArray, List.set_cons_zero, List.set_cons_succ]
  refine wpAnyH_take (i := 25) (v := ?_) rfl (by kernel_rfl) (by kernel_rfl) (by kernel_rfl) (fun _ _ _ h => h) (Or.inl ⟨by kernel_rfl, ?_⟩) hS ?_; rotate_left; focus (intro uu hu; clear hu; go_simp; try with_reducible rfl)
  try simp only [Act.put, List.getElem_toArray, List.getElem_cons_succ, List.getElem_cons_zero, List.setIfInBounds_toArray, List.set_cons_zero, List.set_cons_succ]
  refine wpAnyH_take (i := 26) (v := ?_) rfl (by kernel_rfl) (by kernel_rfl) (by kernel_rfl) (fun _ _ _ h => h) (Or.inl ⟨by kernel_rfl, ?_⟩) hS ?_; rotate_left; focus (intro uu hu; clear hu; go_simp; try with_reducible rfl)
  try simp only [Act.put, List.getElem_toArray, List.getElem_cons_succ, List.getElem_cons_zero, List.setIfInBounds_toArray, List.set_cons_zero, List.set_cons_succ]
  refine wpAnyH_take (i := 27) (v := .bool false) rfl (by kernel_rfl) (by kernel_rfl) (by kernel_rfl) (fun _ _ _ h => h) (Or.inl ⟨by kernel_rfl, ?ld⟩) hS ?_; case ld => (intro uu hu; clear hu; go_simp)
  try simp only [Act.put, List.getElem_toArray, List.getElem_cons_succ, List.getElem_cons_zero, List.setIfInBounds_toArray, List.set_cons_zero, List.set_cons_succ]
  refine wpAnyH_take (i := 28) (v := ?_) rfl (by kernel_rfl) (by kernel_rfl) (by kernel_rfl) (fun _ _ _ h => h) (Or.inl ⟨by kernel_rfl, ?_⟩) hS ?_; rotate_left; focus (intro uu hu; clear hu; go_simp; try with_reducible rfl)
  try simp only [Act.put, List.getElem_toArray, List.getElem_cons_succ, List.getElem_cons_zero, List.setIfInBounds_toArray, List.set_cons_zero, List.set_cons_succ]
  refine wpAnyH_done (by kernel_rfl) ?_ _
  clear hS
  go_wp2_with fail
  have hmn : min (s.size : Int) (r - b.size) = (s.size : Nat) := by omega
  refine (specPushOpen0 r b s g (World.drew w) hs hr1 hb1 s.size hmn hx0 hx1 hx2 hx3 (R.frozen 1)).mono ?_; rintro x w1 ⟨rfl, q, rfl⟩
  have hse : s.extract 0 s.size = s := by simp
  rw [hse]
  have R1 : RowIs (((World.drew w).drewN q).setCell ⟨g, 1, none⟩ (.string (b ++ s))) g 87 [.int .i64 r, .string (b ++ s), .bool false, .bool false, .int .i64 r2, .string b2, .bool e2, .bool k2, .int .i64 wt, .int .i64 cm] := RowIs.set (w := (World.drew w).drewN q) R 1 (.string (b ++ s))
  have B1 : Turn g (g + 1) w (((World.drew w).drewN q).setCell ⟨g, 1, none⟩ (.string (b ++ s))) := ((Turn.refl g (g + 1) w).drew.drewN q).setCell _ (.inl ⟨Nat.le_refl _, Nat.lt_succ_self _⟩)
  clear hx0 hx1 hx2 hx3 R
  generalize ((World.drew w).drewN q).setCell ⟨g, 1, none⟩ (.string (b ++ s)) = V at *
  have hy2 := RowIs.cell (j := 2) R1 rfl
  have hyf := RowIs.frozen R1 2
  go_wp2_with fail
  go_ret
  exact ⟨rfl, R1.set 2 (.bool fin), B1.setCell _ (.inl ⟨Nat.le_refl _, Nat.lt_succ_self _⟩)⟩
set_option maxHeartbeats 1000000 in
theorem specL16Torn (r : Int) (b : ByteArray) (e k : Bool) (r2 : Int) (b2 : ByteArray) (e2 k2 : Bool) (wt cm : Int) (g : Nat) (w : World) (R : RowIs w g 87 [.int .i64 r, .string b, .bool e, .bool k, .int .i64 r2, .string b2, .bool e2, .bool k2, .int .i64 wt, .int .i64 cm]) :
    Calls Tryz.prog 65 #[.pointer (some ⟨g, 0, none⟩)] w fun x w' => x = .returned (.tuple #[]) ∧ RowIs w' g 87 [.int .i64 r, .string ⟨#[]⟩, .bool e, .bool true, .int .i64 r2, .string ⟨#[]⟩, .bool e2, .bool true, .int .i64 wt, .int .i64 cm] ∧ Turn g (g + 1) w w' := by
  have hx1 := RowIs.cell (j := 1) R rfl
  have hx3 := RowIs.cell (j := 3) R rfl
  have hx5 := RowIs.cell (j := 5) R rfl
  have hx7 := RowIs.cell (j := 7) R rfl
  have hxf := fun j => RowIs.frozen R j
  have hB : Turn g (g + 1) w ((((w.setCell ⟨g, 3, none⟩ (.bool true)).setCell ⟨g, 1, none⟩ (.string ⟨#[]⟩)).setCell ⟨g, 7, none⟩ (.bool true)).setCell ⟨g, 5, none⟩ (.string ⟨#[]⟩)) := ((((Turn.refl g (g + 1) w).setCell _ (.inl ⟨Nat.le_refl _, Nat.lt_succ_self _⟩)).setCell _ (.inl ⟨Nat.le_refl _, Nat.lt_succ_self _⟩)).setCell _ (.inl ⟨Nat.le_refl _, Nat.lt_succ_self _⟩)).setCell _ (.inl ⟨Nat.le_refl _, Nat.lt_succ_self _⟩)
  go_enter Tryz.func65, Tryz.ntmps65
  go_wp2_with fail
  refine bodyPost_end (v := .tuple #[]) (by simp [results, Tryz.results65, go_sem]) rfl ?_
  exact ⟨rfl, (((R.set 3 (.bool true)).set 1 (.string ⟨#[]⟩)).set 7 (.bool true)).set 5 (.string ⟨#[]⟩), hB⟩
end Go.Proofs.YtllaeakeaabiaaaGreat
/- Plain and FieldOf, of the program and of the model, in plain words. -/
namespace Go.Proofs.YtllaeakeaabiaaaGreat
open Go.RowKit
set_option maxRecDepth 100000
set_option linter.unusedSimpArgs false
set_option linter.unusedVariables false

theorem szL_mem {L : List Fd} : ∀ f ∈ L, szF f ≤ szL L := by
  induction L with
  | nil => intro f hf; cases hf
  | cons g L ih =>
    intro f hf
    have h1 := szF_pos g
    have h2 := szL_pos L
    simp only [szL]
    rcases List.mem_cons.1 hf with rfl | hf
    · omega
    · have := ih f hf; omega
/-- How many bytes the Names and Values have; -1: one of them is not right. -/
def plainV (L : List Fd) : Int := if L.all okF then szL L else -1
theorem plain_bad {L : List Fd} (k : Nat) (hk : k < L.length) (h : okF L[k] = false) : plainV L = -1 := by
  unfold plainV
  rw [if_neg]
  intro e
  have := List.all_eq_true.1 e _ (List.getElem_mem hk)
  rw [h] at this; cases this
theorem plain_good {L : List Fd} (h : ∀ f ∈ L, okF f = true) : plainV L = szL L := by unfold plainV; rw [if_pos (List.all_eq_true.2 h)]
theorem szF_ok {f : Fd} (h : okF f = true) : szF f ≤ 100 := by have := okF_parts h; unfold szF; omega
theorem szL_ok {L : List Fd} (h : ∀ f ∈ L, okF f = true) : szL L ≤ 100 * L.length := by
  induction L with
  | nil => simp [szL]
  | cons f L ih => have := szF_ok (h f (by simp)); have := ih fun g hg => h g (by simp [hg]); simp only [szL, List.length_cons]; omega

set_option maxHeartbeats 1000000 in
theorem implRights (L : List Fd) (v : Value) (w : World) (hr0 : Reads w v L.length 2 (fv L)) (hf : ∀ f ∈ L, f.fine) :
    Calls Tryz.prog 161 #[v] w fun x w' => x = .returned (.bool (L.all okF)) ∧ Below w.heap.size w w' := by
  obtain ⟨hl, ad, cap, rfl, h1, h2, h3⟩ := hr0
  have H3 := hide h3; have HF := hide hf
  clear h3 hf
  unfold maxLen at h2
  obtain ⟨R, hR⟩ : ∃ R, R = L.all okF := ⟨_, rfl⟩
  rw [← hR]
  have HR := hide hR
  clear hR
  go_enter Tryz.func161, Tryz.ntmps161
  go_wp2_with fail
  go_loopw [7] (fun i wr => ∃ (k : Nat), i = .int .i64 k ∧ k ≤ L.length ∧ (∀ f ∈ L.take k, okF f = true) ∧ Below w.heap.size w wr) (fun i _ => L.length - (intOf i).toNat)
  case atStart => exact ⟨0, rfl, Nat.zero_le _, by simp, Below.refl _ _⟩
  case round =>
    obtain ⟨k, rfl, hk, hall, hb⟩ := hrel
    by_cases hlt : k < L.length
    · obtain ⟨b, o, rfl, hbw, hc⟩ := H3.out (by omega)
      obtain ⟨s0, s1⟩ := fv_get L k hlt
      have hfk := HF.out _ (List.getElem_mem hlt)
      have HA := hide (all_take_succ L k hlt hall)
      have HB : Hid (okF L[k] = false → L.all okF = false) := fun h => by
        cases e : L.all okF
        · rfl
        · have := List.all_eq_true.1 e _ (List.getElem_mem hlt); rw [h] at this; cases this
      obtain ⟨f, hff⟩ : ∃ f, f = L[k] := ⟨_, rfl⟩
      rw [← hff] at s0 s1 hfk HA HB
      have c0 : wr.cell? ⟨b, o + k * 2, none⟩ = some (.string f.n) := by rw [hb.cell (p := ⟨b, o + k * 2, none⟩) hbw]; exact hc _ _ s0
      have c1 : wr.cell? ⟨b, o + k * 2 + 1, none⟩ = some (.string f.v) := by rw [hb.cell (p := ⟨b, o + k * 2 + 1, none⟩) hbw]; exact hc _ _ s1
      clear hc s0 s1 hff hall
      cases hok : okF f
      · have hRf := HR.out.trans (HB.out hok)
        subst hRf
        clear HB HR HA
        go_wp2_with fail
        refine (implRight f _ hfk).mono ?_; rw [hok]; rintro x w1 ⟨rfl, hb1⟩
        go_wp2_with fail
        go_ret
        exact ⟨rfl, bchain (bo_alloc hb _) hb1⟩
      · have HAA := hide (HA.out hok)
        clear HA HB
        go_wp2_with fail
        refine (implRight f _ hfk).mono ?_; rw [hok]; rintro x w1 ⟨rfl, hb1⟩
        go_wp2_with fail
        exact ⟨⟨k + 1, by go_num, by omega, HAA.out, bchain (bo_alloc hb _) hb1⟩, by simp [intOf]; omega⟩
    · obtain rfl : k = L.length := by omega
      rw [List.take_length] at hall
      have hRf := HR.out.trans (List.all_eq_true.2 hall)
      subst hRf
      clear HR hall
      go_wp2_with fail
      go_ret
      exact ⟨rfl, hb⟩
/-- The Value of the first Field with this Name. -/
def firstV (name : ByteArray) : List Fd → ByteArray × Bool
  | [] => (⟨#[]⟩, false)
  | f :: L => if (f.n.toList == name.toList) = true then (f.v, true) else firstV name L
theorem first_skip {name : ByteArray} {L : List Fd} (k : Nat) (h : ∀ f ∈ L.take k, (f.n.toList == name.toList) = false) : firstV name L = firstV name (L.drop k) := by
  induction k generalizing L with
  | zero => simp
  | succ k ih =>
    cases L with
    | nil => simp
    | cons f L =>
      rw [firstV, h f (by simp)]
      simp only [Bool.false_eq_true, if_false, List.drop_succ_cons]
      exact ih fun g hg => h g (by simp [hg])
theorem first_at {name : ByteArray} {L : List Fd} (k : Nat) (hk : k < L.length) (h : ∀ f ∈ L.take k, (f.n.toList == name.toList) = false) (hy : (L[k].n.toList == name.toList) = true) : firstV name L = (L[k].v, true) := by
  rw [first_skip k h, List.drop_eq_getElem_cons hk, firstV, if_pos hy]
theorem first_none {name : ByteArray} {L : List Fd} (h : ∀ f ∈ L, (f.n.toList == name.toList) = false) : firstV name L = (⟨#[]⟩, false) := by
  rw [first_skip L.length (by simpa using h)]; simp [firstV]
theorem no_take_succ {name : ByteArray} (L : List Fd) (k : Nat) (h : k < L.length) (ha : ∀ f ∈ L.take k, (f.n.toList == name.toList) = false) (hk : (L[k].n.toList == name.toList) = false) : ∀ f ∈ L.take (k + 1), (f.n.toList == name.toList) = false := by
  rw [List.take_succ_eq_append_getElem h]
  intro f hf
  rcases List.mem_append.1 hf with h | h
  · exact ha f h
  · simp only [List.mem_singleton] at h; rw [h]; exact hk

open Go.ChangeShapes Go.WideShapes Go.ChangeAt Go.Joins in
theorem open_FieldS {H : Type} {enc : TypeId × Value → H} {W : World} {base : Nat} {v : Value} {d : DataW H} {p : List MemPlace} (hv : Value.okWide Tryz.prog W .any base 25 v)
    (h : DataW.Trod enc Tryz.prog W 0 (fun _ => true) true 25 v d p) : ∃ L : List Fd, Reads W v L.length 2 (fv L) ∧ ∀ f ∈ L, f.fine := by
  obtain ⟨sa, sl, sc, rfl⟩ := okWide_slice Tryz.underlying25 hv
  obtain ⟨n1, hn1⟩ := h
  exact open_rows (α := Fd) ⟨⟨#[]⟩, ⟨#[]⟩⟩ Fd.cs 2 fcs_len Fd.fine Tryz.underlying25 (by kernel_rfl) (by decide) (fun cs n y hy => open_fcells hy) (v := .slice sa sl sc) (by simpa [Value.cells] using hn1)
end Go.Proofs.YtllaeakeaabiaaaGreat
/- Chapter 7's FrameOk, of the program and of the model. -/
namespace Go.Proofs.YtllaeakeaabiaaaGreat
open Go.RowKit
set_option maxRecDepth 100000
set_option linter.unusedSimpArgs false
set_option linter.unusedVariables false
def bodB (k fl : Int) (b : ByteArray) : Bool := if k = 1 ∧ 2 ≤ fl then decide (fst0 b ≤ (b.size : Int) - 1) else if k = 7 then !(b.toList == (⟨#[0, 0, 0]⟩ : ByteArray).toList) else true
theorem okFr_eq (f : Fr) : okFr f = (hdOk f.k f.fl f.st f.b.size && bodB f.k f.fl f.b) := rfl
theorem okFr_mk (k fl st : Int) (b : ByteArray) : okFr ⟨k, fl, st, b⟩ = (hdOk k fl st b.size && bodB k fl b) := rfl
theorem fst0_get {s : ByteArray} (h : 0 < s.size) : fst0 s = (s[0].toNat : Int) := by
  unfold fst0; rw [bys_cons h]
theorem zero3 {b : ByteArray} (h : b.size = 3) : (numV b = 0) ↔ b = ⟨#[0, 0, 0]⟩ := by
  constructor
  · intro e
    have := law_byt (s := b) (by omega)
    rw [h, e] at this
    rw [← this]; rfl
  · intro e; rw [e]; rfl
theorem tl000 : (⟨#[0, 0, 0]⟩ : ByteArray).toList = [0, 0, 0] := by rw [ByteArray.toList_eq]
theorem hd_pad {k fl st n : Int} (h : hdOk k fl st n = true) (hk : k = 1) (hf : 2 ≤ fl) : 0 < n := by
  have := hd_parts h
  subst hk
  unfold hdOk at h
  split at h
  · cases h
  · simp at h; omega
theorem hd_win {st fl n : Int} (h : hdOk 7 fl st n = true) : n = 3 := by
  unfold hdOk at h
  split at h
  · cases h
  · simp at h; omega

set_option maxHeartbeats 1000000 in
theorem implBody (k fl st : Int) (b : ByteArray) (w : World) (hb : b.size ≤ maxLen) (hh : hdOk k fl st b.size = true) : Calls Tryz.prog 72 #[.agg #[.int .i64 k, .int .i64 fl, .int .i64 st, .string b]] w fun e w' => e = .returned (.bool (bodB k fl b)) ∧ Below w.heap.size w w' := by
  have hbm := hb
  unfold maxLen at hb
  obtain ⟨p1, p2, p3, p4, p5, p6, p7, p8⟩ := hd_parts hh
  have HH := hide hh
  clear hh
  have hp := implPadded k fl st b
  by_cases hk : k = 1 ∧ 2 ≤ fl
  · obtain ⟨rfl, hf⟩ := hk
    have hpb : padB 1 fl = true := by simp [padB, hf]
    rw [hpb] at hp
    have hpos : 0 < b.size := by have := hd_pad HH.out rfl hf; omega
    have hv : bodB 1 fl b = decide (b[0].toNat < b.size) := by
      unfold bodB; rw [if_pos ⟨rfl, hf⟩, fst0_get hpos]
      exact decide_eq_decide.2 (by omega)
    rw [hv]
    have hby := byte_range b 0 hpos
    clear hv hpb
    go_enter Tryz.func72, Tryz.ntmps72
    go_wp2_with fail
    refine (hp _ p1 p2).mono ?_; rintro e w1 ⟨rfl, hb1⟩
    have c3 : w1.cell? ⟨w.heap.size, 3, none⟩ = some (.string b) := by rw [hb1.cell (p := ⟨w.heap.size, 3, none⟩) (by simp)]; simp
    go_wp2_with fail
    go_quiet (fail)
    go_wp2_with fail
    go_ret
    exact ⟨rfl, (by repeat' (first | (with_reducible exact Below.refl _ _) | (with_reducible refine Below.drew ?_) | (with_reducible refine bo_drewN _ ?_) | (with_reducible refine bo_alloc ?_ _) | (refine bchain ?_ (by with_reducible assumption)) | (with_reducible refine Below.setCell ?_ ?_ _) | go_size))⟩
  · have hpb : padB k fl = false := by
      cases e : padB k fl
      · rfl
      · simp [padB] at e; exact absurd e hk
    rw [hpb] at hp
    replace hk := hide hk
    by_cases h7 : k = 7
    · subst h7
      have h3 : b.size = 3 := by have := hd_win HH.out; omega
      have hz := zero3 h3
      have hv : bodB 7 fl b = !decide (numV b = 0) := by
        unfold bodB; rw [if_neg hk.out, if_pos rfl]
        by_cases e : b = ⟨#[0, 0, 0]⟩
        · rw [e, beq_self_eq_true, decide_eq_true (show numV (⟨#[0, 0, 0]⟩ : ByteArray) = 0 from rfl)]
        · rw [tl_ne e, decide_eq_false (fun x => e (hz.1 x))]
      rw [hv]
      clear hv hpb hz h3
      go_enter Tryz.func72, Tryz.ntmps72
      go_wp2_with fail
      refine (hp _ p1 p2).mono ?_; rintro e w1 ⟨rfl, hb1⟩
      have c0 : w1.cell? ⟨w.heap.size, 0, none⟩ = some (.int .i64 7) := by rw [hb1.cell (p := ⟨w.heap.size, 0, none⟩) (by simp)]; simp
      have c3 : w1.cell? ⟨w.heap.size, 3, none⟩ = some (.string b) := by rw [hb1.cell (p := ⟨w.heap.size, 3, none⟩) (by simp)]; simp
      go_wp2_with fail
      refine (implNumber b _ hbm).mono ?_; rintro e w2 ⟨rfl, rfl⟩
      go_wp2_with fail
      go_ret
      exact ⟨by refine congrArg (fun b => Ending.returned (Value.bool b)) ?_; show (!(numV b == 0)) = _; congr 1, (by repeat' (first | (with_reducible exact Below.refl _ _) | (with_reducible refine Below.drew ?_) | (with_reducible refine bo_drewN _ ?_) | (with_reducible refine bo_alloc ?_ _) | (refine bchain ?_ (by with_reducible assumption)) | (with_reducible refine Below.setCell ?_ ?_ _) | go_size))⟩
    · have hv : bodB k fl b = true := by unfold bodB; rw [if_neg hk.out, if_neg h7]
      rw [hv]
      go_enter Tryz.func72, Tryz.ntmps72
      go_wp2_with fail
      refine (hp _ p1 p2).mono ?_; rintro e w1 ⟨rfl, hb1⟩
      have c0 : w1.cell? ⟨w.heap.size, 0, none⟩ = some (.int .i64 k) := by rw [hb1.cell (p := ⟨w.heap.size, 0, none⟩) (by simp)]; simp
      go_wp2_with fail
      go_ret
      exact ⟨rfl, (by repeat' (first | (with_reducible exact Below.refl _ _) | (with_reducible refine Below.drew ?_) | (with_reducible refine bo_drewN _ ?_) | (with_reducible refine bo_alloc ?_ _) | (refine bchain ?_ (by with_reducible assumption)) | (with_reducible refine Below.setCell ?_ ?_ _) | go_size))⟩
set_option maxHeartbeats 1000000 in
theorem implFrameOk (k fl st : Int) (b : ByteArray) (w : World) (hb : b.size ≤ maxLen) : Calls Tryz.prog 30 #[.agg #[.int .i64 k, .int .i64 fl, .int .i64 st, .string b]] w fun e w' => e = .returned (.bool (okFr ⟨k, fl, st, b⟩)) ∧ Below w.heap.size w w' := by
  have hbm := hb
  unfold maxLen at hb
  rw [okFr_mk]
  cases hh : hdOk k fl st b.size
  · go_enter Tryz.func30, Tryz.ntmps30
    go_wp2_with fail
    refine (implHead k fl st b.size b _).mono ?_; rw [hh]; rintro e w1 ⟨rfl, hb1⟩
    go_wp2_with fail
    go_ret
    exact ⟨rfl, (by repeat' (first | (with_reducible exact Below.refl _ _) | (with_reducible refine Below.drew ?_) | (with_reducible refine bo_drewN _ ?_) | (with_reducible refine bo_alloc ?_ _) | (refine bchain ?_ (by with_reducible assumption)) | (with_reducible refine Below.setCell ?_ ?_ _) | go_size))⟩
  · have HH := hide hh
    go_enter Tryz.func30, Tryz.ntmps30
    go_wp2_with fail
    refine (implHead k fl st b.size b _).mono ?_; rw [hh]; rintro e w1 ⟨rfl, hb1⟩
    have c0 : w1.cell? ⟨w.heap.size, 0, none⟩ = some (.int .i64 k) := by rw [hb1.cell (p := ⟨w.heap.size, 0, none⟩) (by simp)]; simp
    have c1 : w1.cell? ⟨w.heap.size, 1, none⟩ = some (.int .i64 fl) := by rw [hb1.cell (p := ⟨w.heap.size, 1, none⟩) (by simp)]; simp
    have c2 : w1.cell? ⟨w.heap.size, 2, none⟩ = some (.int .i64 st) := by rw [hb1.cell (p := ⟨w.heap.size, 2, none⟩) (by simp)]; simp
    have c3 : w1.cell? ⟨w.heap.size, 3, none⟩ = some (.string b) := by rw [hb1.cell (p := ⟨w.heap.size, 3, none⟩) (by simp)]; simp
    clear hh
    go_wp2_with fail
    refine (implBody k fl st b _ hbm HH.out).mono ?_; rintro e w2 ⟨rfl, hb2⟩
    go_wp2_with fail
    go_ret
    exact ⟨rfl, (by repeat' (first | (with_reducible exact Below.refl _ _) | (with_reducible refine Below.drew ?_) | (with_reducible refine bo_drewN _ ?_) | (with_reducible refine bo_alloc ?_ _) | (refine bchain ?_ (by with_reducible assumption)) | (with_reducible refine Below.setCell ?_ ?_ _) | go_size))⟩
set_option maxHeartbeats 4000000 in
theorem specHead (k fl st n : Int) (w : World) : Calls Tryz.prog 56 #[.int .i64 k, .int .i64 fl, .int .i64 st, .int .i64 n] w fun e w' => e = .returned (.bool (hdOk k fl st n)) ∧ w' = w := by
  obtain ⟨R, hR⟩ : ∃ R, hdOk k fl st n = R := ⟨_, rfl⟩
  rw [hR]
  have HR := hide hR
  clear hR
  cases h1 : inB fl 0 3
  · go_enter Tryz.func56, Tryz.ntmps56
    go_wp2_with fail
    refine (specIn _ _ _ _).mono ?_; rw [h1]; rintro e w1 ⟨rfl, rfl⟩
    go_wp2_with fail
    go_ret
    exact ⟨by rw [← HR.out]; simp [hdOk, h1], rfl⟩
  obtain ⟨f0, f3⟩ := inB_true h1
  cases h2 : inB st 0 100000
  · go_enter Tryz.func56, Tryz.ntmps56
    go_wp2_with fail
    refine (specIn _ _ _ _).mono ?_; rw [h1]; rintro e w1 ⟨rfl, rfl⟩
    go_wp2_with fail
    refine (specIn _ _ _ _).mono ?_; rw [h2]; rintro e w1 ⟨rfl, rfl⟩
    go_wp2_with fail
    go_ret
    exact ⟨by rw [← HR.out]; simp [hdOk, h2], rfl⟩
  obtain ⟨s0, s1⟩ := inB_true h2
  cases h3 : inB n 0 1000
  · go_enter Tryz.func56, Tryz.ntmps56; go_wp2_with fail; refine (specIn _ _ _ _).mono ?_; rw [h1]; rintro e w1 ⟨rfl, rfl⟩; go_wp2_with fail; refine (specIn _ _ _ _).mono ?_; rw [h2]; rintro e w1 ⟨rfl, rfl⟩; go_wp2_with fail; refine (specIn _ _ _ _).mono ?_; rw [h3]; rintro e w1 ⟨rfl, rfl⟩
    go_wp2_with fail
    go_ret
    exact ⟨by rw [← HR.out]; simp [hdOk, h3], rfl⟩
  obtain ⟨n0, n1⟩ := inB_true h3
  have e0 : hdOk k fl st n = R := HR.out
  simp only [hdOk, h1, h2, h3, Bool.true_eq_false, or_self, if_false] at e0
  have HE := hide e0
  clear e0 HR
  have hk : k = 1 ∨ k = 2 ∨ k = 3 ∨ k = 4 ∨ k = 5 ∨ k = 6 ∨ k = 7 ∨ ¬ (1 ≤ k ∧ k ≤ 7) := by omega
  rcases hk with rfl | rfl | rfl | rfl | rfl | rfl | rfl | hk
  case inr.inr.inr.inr.inr.inr.inr =>
    have q1 : ¬ k = 1 := by omega
    have q2 : ¬ k = 2 := by omega
    have q3 : ¬ k = 3 := by omega
    have q4 : ¬ k = 4 := by omega
    have q5 : ¬ k = 5 := by omega
    have q6 : ¬ k = 6 := by omega
    have q7 : ¬ k = 7 := by omega
    have HF : Hid (R = false) := by show _ = _; rw [← HE.out]; simp [q1, q2, q3, q4, q5, q6, q7]
    clear HE
    go_enter Tryz.func56, Tryz.ntmps56; go_wp2_with fail; refine (specIn _ _ _ _).mono ?_; rw [h1]; rintro e w1 ⟨rfl, rfl⟩; go_wp2_with fail; refine (specIn _ _ _ _).mono ?_; rw [h2]; rintro e w1 ⟨rfl, rfl⟩; go_wp2_with fail; refine (specIn _ _ _ _).mono ?_; rw [h3]; rintro e w1 ⟨rfl, rfl⟩
    go_wp2_with fail
    go_ret
    exact ⟨by rw [HF.out]; rfl, rfl⟩
  all_goals
    go_enter Tryz.func56, Tryz.ntmps56; go_wp2_with fail; refine (specIn _ _ _ _).mono ?_; rw [h1]; rintro e w1 ⟨rfl, rfl⟩; go_wp2_with fail; refine (specIn _ _ _ _).mono ?_; rw [h2]; rintro e w1 ⟨rfl, rfl⟩; go_wp2_with fail; refine (specIn _ _ _ _).mono ?_; rw [h3]; rintro e w1 ⟨rfl, rfl⟩
    go_wp2_with fail
    all_goals go_ret
    all_goals exact ⟨by (refine congrArg (fun b => Ending.returned (Value.bool b)) ?_; rw [← HE.out, Bool.eq_iff_iff]; simp; try omega), rfl⟩
set_option maxHeartbeats 1000000 in
theorem specFrameOk (k fl st : Int) (b : ByteArray) (w : World) (hb : b.size ≤ maxLen) : Calls Tryz.prog 24 #[.agg #[.int .i64 k, .int .i64 fl, .int .i64 st, .string b]] w fun e w' => e = .returned (.bool (okFr ⟨k, fl, st, b⟩)) ∧ Below w.heap.size w w' := by
  unfold maxLen at hb
  rw [okFr_mk]
  cases hh : hdOk k fl st b.size
  · go_enter Tryz.func24, Tryz.ntmps24
    go_wp2_with fail
    refine (specHead k fl st b.size _).mono ?_; rw [hh]; rintro e w1 ⟨rfl, rfl⟩
    go_wp2_with fail
    go_ret
    exact ⟨rfl, (by repeat' (first | (with_reducible exact Below.refl _ _) | (with_reducible refine Below.drew ?_) | (with_reducible refine bo_drewN _ ?_) | (with_reducible refine bo_alloc ?_ _) | (refine bchain ?_ (by with_reducible assumption)) | (with_reducible refine Below.setCell ?_ ?_ _) | go_size))⟩
  · have HH := hide hh
    by_cases hk : k = 1 ∧ 2 ≤ fl
    · obtain ⟨rfl, hf⟩ := hk
      have hpos : 0 < b.size := by have := hd_pad hh rfl hf; omega
      have hv : bodB 1 fl b = decide ((b[0].toNat : Int) ≤ (b.size : Int) - 1) := by
        unfold bodB; rw [if_pos ⟨rfl, hf⟩, fst0_get hpos]
      rw [hv]
      have hby := byte_range b 0 hpos
      clear hv
      go_enter Tryz.func24, Tryz.ntmps24
      go_wp2_with fail
      refine (specHead 1 fl st b.size _).mono ?_; rw [hh]; rintro e w1 ⟨rfl, rfl⟩
      go_wp2_with fail
      go_quiet (fail)
      go_wp2_with fail
      go_ret
      exact ⟨rfl, (by repeat' (first | (with_reducible exact Below.refl _ _) | (with_reducible refine Below.drew ?_) | (with_reducible refine bo_drewN _ ?_) | (with_reducible refine bo_alloc ?_ _) | (refine bchain ?_ (by with_reducible assumption)) | (with_reducible refine Below.setCell ?_ ?_ _) | go_size))⟩
    · have hk2 : k = 1 → ¬ 2 ≤ fl := fun a c => hk ⟨a, c⟩
      by_cases h1 : k = 1
      · subst h1
        have hf := hk2 rfl
        have hv : bodB 1 fl b = true := by unfold bodB; rw [if_neg hk, if_neg (by decide)]
        rw [hv]
        clear hk hk2
        go_enter Tryz.func24, Tryz.ntmps24
        go_wp2_with fail
        refine (specHead 1 fl st b.size _).mono ?_; rw [hh]; rintro e w1 ⟨rfl, rfl⟩
        go_wp2_with fail
        go_ret
        exact ⟨rfl, (by repeat' (first | (with_reducible exact Below.refl _ _) | (with_reducible refine Below.drew ?_) | (with_reducible refine bo_drewN _ ?_) | (with_reducible refine bo_alloc ?_ _) | (refine bchain ?_ (by with_reducible assumption)) | (with_reducible refine Below.setCell ?_ ?_ _) | go_size))⟩
      · by_cases h7 : k = 7
        · subst h7
          have hv : bodB 7 fl b = !(b.toList == [0, 0, 0]) := by unfold bodB; rw [if_neg hk, if_pos rfl, tl000]
          rw [hv]
          clear hk hk2
          go_enter Tryz.func24, Tryz.ntmps24
          go_wp2_with fail
          refine (specHead 7 fl st b.size _).mono ?_; rw [hh]; rintro e w1 ⟨rfl, rfl⟩
          go_wp2_with fail
          go_ret
          exact ⟨rfl, (by repeat' (first | (with_reducible exact Below.refl _ _) | (with_reducible refine Below.drew ?_) | (with_reducible refine bo_drewN _ ?_) | (with_reducible refine bo_alloc ?_ _) | (refine bchain ?_ (by with_reducible assumption)) | (with_reducible refine Below.setCell ?_ ?_ _) | go_size))⟩
        · have hv : bodB k fl b = true := by unfold bodB; rw [if_neg hk, if_neg h7]
          rw [hv]
          clear hk hk2
          go_enter Tryz.func24, Tryz.ntmps24
          go_wp2_with fail
          refine (specHead k fl st b.size _).mono ?_; rw [hh]; rintro e w1 ⟨rfl, rfl⟩
          go_wp2_with fail
          go_ret
          exact ⟨rfl, (by repeat' (first | (with_reducible exact Below.refl _ _) | (with_reducible refine Below.drew ?_) | (with_reducible refine bo_drewN _ ?_) | (with_reducible refine bo_alloc ?_ _) | (refine bchain ?_ (by with_reducible assumption)) | (with_reducible refine Below.setCell ?_ ?_ _) | go_size))⟩
end Go.Proofs.YtllaeakeaabiaaaGreat
/- Chapter 16's program: lanes that embed a way up and a way down; in, out, back. -/
namespace Go.Proofs.YtllaeakeaabiaaaGreat
open Go.RowKit
set_option maxRecDepth 100000
set_option linter.unusedSimpArgs false
set_option linter.unusedVariables false
abbrev lncs (t : TuD) : List Value := [.int .i64 t.up.r, .string t.up.b, .bool t.up.e, .bool t.up.k, .int .i64 t.went, .int .i64 t.dn.r, .string t.dn.b, .bool t.dn.e, .bool t.dn.k, .int .i64 t.came]
abbrev lnv (t : TuD) : Value := .agg #[.int .i64 t.up.r, .string t.up.b, .bool t.up.e, .bool t.up.k, .int .i64 t.went, .int .i64 t.dn.r, .string t.dn.b, .bool t.dn.e, .bool t.dn.k, .int .i64 t.came]
theorem inTu_size (t : TuD) (s : ByteArray) (fin : Bool) (h : okTu t = true) (hs : s.size ≤ 1048576) : (inTu t s fin).1.up.b.size ≤ 2000000 ∧ (inTu t s fin).1.dn.b.size ≤ 2000000 := by
  obtain ⟨hu, hd, _, _⟩ := okTu_true h
  have h1 := okPp_true hu
  have h2 := okPp_true hd
  unfold inTu
  rw [if_neg (by rw [h]; decide)]
  split
  · exact ⟨by show t.up.b.size ≤ _; omega, by show t.dn.b.size ≤ _; omega⟩
  · refine ⟨?_, by show t.dn.b.size ≤ _; omega⟩
    show (t.up.b ++ s).size ≤ _
    rw [ByteArray.size_append]; omega
theorem outTu_size (t : TuD) (n : Int) (h : okTu t = true) : (outTu t n).1.up.b.size ≤ 2000000 ∧ (outTu t n).1.dn.b.size ≤ 2000000 := by
  obtain ⟨hu, hd, _, _⟩ := okTu_true h
  have h1 := okPp_true hu
  have h2 := okPp_true hd
  unfold outTu
  rw [if_neg (by rw [h]; decide)]
  refine ⟨?_, by show t.dn.b.size ≤ _; omega⟩
  show (t.up.b.extract _ _).size ≤ _
  rw [ByteArray.size_extract]; omega
theorem bckTu_size (t : TuD) (s : ByteArray) (fin : Bool) (h : okTu t = true) (hs : s.size ≤ 1048576) : (bckTu t s fin).1.up.b.size ≤ 2000000 ∧ (bckTu t s fin).1.dn.b.size ≤ 2000000 := by
  obtain ⟨hu, hd, _, _⟩ := okTu_true h
  have h1 := okPp_true hu
  have h2 := okPp_true hd
  unfold bckTu
  rw [if_neg (by rw [h]; decide)]
  refine ⟨by show t.up.b.size ≤ _; omega, ?_⟩
  show (t.dn.b ++ s.extract 0 _).size ≤ _
  rw [ByteArray.size_append, ByteArray.size_extract]; omega
set_option maxHeartbeats 1000000 in
theorem lanes16 (t : TuD) (w : World) : Calls Tryz.prog 168 #[tuv t] w fun x w' => x = .returned (lnv t) ∧ Below w.heap.size w w' := by
  obtain ⟨⟨r, b, e, k⟩, ⟨r2, b2, e2, k2⟩, wt, cm⟩ := t
  dsimp only [tuv, lnv] at *
  obtain ⟨W, hW⟩ : ∃ W, ((w.alloc (.cells #[.int .i64 r, .string b, .bool e, .bool k, .int .i64 r2, .string b2, .bool e2, .bool k2, .int .i64 wt, .int .i64 cm] 87)).alloc (.cells #[.int .i64 0, .string ⟨#[]⟩, .bool false, .bool false, .int .i64 0, .int .i64 0, .string ⟨#[]⟩, .bool false, .bool false, .int .i64 0] 213)) = W := ⟨_, rfl⟩
  have RX : RowIs W w.heap.size 87 [.int .i64 r, .string b, .bool e, .bool k, .int .i64 r2, .string b2, .bool e2, .bool k2, .int .i64 wt, .int .i64 cm] := by rw [← hW]; exact (rowIs_new w 87 [.int .i64 r, .string b, .bool e, .bool k, .int .i64 r2, .string b2, .bool e2, .bool k2, .int .i64 wt, .int .i64 cm]).alloc _
  have RY : RowIs W (w.heap.size + 1) 213 [.int .i64 0, .string ⟨#[]⟩, .bool false, .bool false, .int .i64 0, .int .i64 0, .string ⟨#[]⟩, .bool false, .bool false, .int .i64 0] := by have := rowIs_new (w.alloc (.cells #[.int .i64 r, .string b, .bool e, .bool k, .int .i64 r2, .string b2, .bool e2, .bool k2, .int .i64 wt, .int .i64 cm] 87)) 213 [.int .i64 0, .string ⟨#[]⟩, .bool false, .bool false, .int .i64 0, .int .i64 0, .string ⟨#[]⟩, .bool false, .bool false, .int .i64 0]; rw [hW] at this; simpa using this
  have HB : Below w.heap.size w W := by rw [← hW]; exact (((Below.refl _ _).alloc (Nat.le_refl _) _).alloc (by simp) _)
  go_enter Tryz.func168, Tryz.ntmps168
  have x0 := RowIs.cell (j := 0) RX rfl
  have x1 := RowIs.cell (j := 1) RX rfl
  have x2 := RowIs.cell (j := 2) RX rfl
  have x3 := RowIs.cell (j := 3) RX rfl
  have x4 := RowIs.cell (j := 4) RX rfl
  have x5 := RowIs.cell (j := 5) RX rfl
  have x6 := RowIs.cell (j := 6) RX rfl
  have x7 := RowIs.cell (j := 7) RX rfl
  have x8 := RowIs.cell (j := 8) RX rfl
  have x9 := RowIs.cell (j := 9) RX rfl
  have xf := fun j => RowIs.frozen RX j
  have xl := RX.lt
  go_wp2_with (refine wpList_store_row (by rfl) 213 _ _ (by rfl) (w.heap.size + 1) [.int .i64 r, .string b, .bool e, .bool k, .int .i64 wt, .int .i64 r2, .string b2, .bool e2, .bool k2, .int .i64 cm] (by rfl) (by rfl) 213 [.int .i64 0, .string ⟨#[]⟩, .bool false, .bool false, .int .i64 0, .int .i64 0, .string ⟨#[]⟩, .bool false, .bool false, .int .i64 0] RY (by kernel_rfl) rfl (by intro u hu; simp at hu; rcases hu with rfl | rfl | rfl | rfl | rfl | rfl | rfl | rfl | rfl | rfl <;> rfl) ?_)
  clear x0 x1 x2 x3 x4 x5 x6 x7 x8 x9 xf xl
  clear hW
  have NRX := RX.kept (setRow_other W (w.heap.size + 1) #[.int .i64 r, .string b, .bool e, .bool k, .int .i64 wt, .int .i64 r2, .string b2, .bool e2, .bool k2, .int .i64 cm] w.heap.size (by omega))
  have NRY : RowIs (W.setRow (w.heap.size + 1) #[.int .i64 r, .string b, .bool e, .bool k, .int .i64 wt, .int .i64 r2, .string b2, .bool e2, .bool k2, .int .i64 cm]) (w.heap.size + 1) 213 [.int .i64 r, .string b, .bool e, .bool k, .int .i64 wt, .int .i64 r2, .string b2, .bool e2, .bool k2, .int .i64 cm] := rowIs_setRow (cs' := [.int .i64 r, .string b, .bool e, .bool k, .int .i64 wt, .int .i64 r2, .string b2, .bool e2, .bool k2, .int .i64 cm]) RY
  have NHB := below_setRow HB (show w.heap.size ≤ (w.heap.size + 1) by omega) #[.int .i64 r, .string b, .bool e, .bool k, .int .i64 wt, .int .i64 r2, .string b2, .bool e2, .bool k2, .int .i64 cm]
  generalize hV : W.setRow (w.heap.size + 1) #[.int .i64 r, .string b, .bool e, .bool k, .int .i64 wt, .int .i64 r2, .string b2, .bool e2, .bool k2, .int .i64 cm] = V1 at *
  clear hV
  clear RX
  have RX := NRX
  clear NRX
  clear RY
  have RY := NRY
  clear NRY
  clear HB
  have HB := NHB
  clear NHB
  have y0 := RowIs.cell (j := 0) RY rfl
  have y1 := RowIs.cell (j := 1) RY rfl
  have y2 := RowIs.cell (j := 2) RY rfl
  have y3 := RowIs.cell (j := 3) RY rfl
  have y4 := RowIs.cell (j := 4) RY rfl
  have y5 := RowIs.cell (j := 5) RY rfl
  have y6 := RowIs.cell (j := 6) RY rfl
  have y7 := RowIs.cell (j := 7) RY rfl
  have y8 := RowIs.cell (j := 8) RY rfl
  have y9 := RowIs.cell (j := 9) RY rfl
  have yf := fun j => RowIs.frozen RY j
  have yl := RY.lt
  refine bodyPost_ret (v := .agg #[.int .i64 r, .string b, .bool e, .bool k, .int .i64 wt, .int .i64 r2, .string b2, .bool e2, .bool k2, .int .i64 cm]) (by simp [results, Tryz.results168, go_sem, *]) rfl ?_
  exact ⟨rfl, HB⟩
set_option maxHeartbeats 1000000 in
theorem lanesRight16 (t : TuD) (w : World) (h1 : t.up.b.size ≤ maxLen) (h2 : t.dn.b.size ≤ maxLen) : Calls Tryz.prog 204 #[lnv t] w fun x w' => x = .returned (.bool (okTu t)) ∧ Below w.heap.size w w' := by
  obtain ⟨⟨r, b, e, k⟩, ⟨r2, b2, e2, k2⟩, wt, cm⟩ := t
  unfold okTu
  dsimp only [lnv] at *
  have RX := rowIs_new w 213 [.int .i64 r, .string b, .bool e, .bool k, .int .i64 wt, .int .i64 r2, .string b2, .bool e2, .bool k2, .int .i64 cm]
  have HB : Below w.heap.size w (w.alloc (.cells #[.int .i64 r, .string b, .bool e, .bool k, .int .i64 wt, .int .i64 r2, .string b2, .bool e2, .bool k2, .int .i64 cm] 213)) := (Below.refl _ _).alloc (Nat.le_refl _) _
  cases hu : okPp ⟨r, b, e, k⟩
  · go_enter Tryz.func204, Tryz.ntmps204
    go_wp2_with fail
    refine (right r b e k _ h1).mono ?_; rw [show okB r b k = _ from hu]; rintro x w1 ⟨rfl, hb⟩
    replace RX := RX.new hb
    replace HB := bchain HB hb
    clear hb
    have x0 := RowIs.cell (j := 0) RX rfl
    have x1 := RowIs.cell (j := 1) RX rfl
    have x2 := RowIs.cell (j := 2) RX rfl
    have x3 := RowIs.cell (j := 3) RX rfl
    have x4 := RowIs.cell (j := 4) RX rfl
    have x5 := RowIs.cell (j := 5) RX rfl
    have x6 := RowIs.cell (j := 6) RX rfl
    have x7 := RowIs.cell (j := 7) RX rfl
    have x8 := RowIs.cell (j := 8) RX rfl
    have x9 := RowIs.cell (j := 9) RX rfl
    have xf := fun j => RowIs.frozen RX j
    have xl := RX.lt
    go_wp2_with fail
    go_ret
    exact ⟨rfl, HB⟩
  cases hd : okPp ⟨r2, b2, e2, k2⟩
  · go_enter Tryz.func204, Tryz.ntmps204
    go_wp2_with fail
    refine (right r b e k _ h1).mono ?_; rw [show okB r b k = _ from hu]; rintro x w1 ⟨rfl, hb⟩
    replace RX := RX.new hb
    replace HB := bchain HB hb
    clear hb
    have x0 := RowIs.cell (j := 0) RX rfl
    have x1 := RowIs.cell (j := 1) RX rfl
    have x2 := RowIs.cell (j := 2) RX rfl
    have x3 := RowIs.cell (j := 3) RX rfl
    have x4 := RowIs.cell (j := 4) RX rfl
    have x5 := RowIs.cell (j := 5) RX rfl
    have x6 := RowIs.cell (j := 6) RX rfl
    have x7 := RowIs.cell (j := 7) RX rfl
    have x8 := RowIs.cell (j := 8) RX rfl
    have x9 := RowIs.cell (j := 9) RX rfl
    have xf := fun j => RowIs.frozen RX j
    have xl := RX.lt
    go_wp2_with fail
    clear x0 x1 x2 x3 x4 x5 x6 x7 x8 x9 xf xl
    refine (right r2 b2 e2 k2 _ h2).mono ?_; rw [show okB r2 b2 k2 = _ from hd]; rintro x w2 ⟨rfl, hb⟩
    replace RX := RX.new hb
    replace HB := bchain HB hb
    clear hb
    have x0 := RowIs.cell (j := 0) RX rfl
    have x1 := RowIs.cell (j := 1) RX rfl
    have x2 := RowIs.cell (j := 2) RX rfl
    have x3 := RowIs.cell (j := 3) RX rfl
    have x4 := RowIs.cell (j := 4) RX rfl
    have x5 := RowIs.cell (j := 5) RX rfl
    have x6 := RowIs.cell (j := 6) RX rfl
    have x7 := RowIs.cell (j := 7) RX rfl
    have x8 := RowIs.cell (j := 8) RX rfl
    have x9 := RowIs.cell (j := 9) RX rfl
    have xf := fun j => RowIs.frozen RX j
    have xl := RX.lt
    go_wp2_with fail
    go_ret
    exact ⟨rfl, HB⟩
  cases hw : inB wt 0 1000000
  · go_enter Tryz.func204, Tryz.ntmps204
    go_wp2_with fail
    refine (right r b e k _ h1).mono ?_; rw [show okB r b k = _ from hu]; rintro x w1 ⟨rfl, hb⟩
    replace RX := RX.new hb
    replace HB := bchain HB hb
    clear hb
    have x0 := RowIs.cell (j := 0) RX rfl
    have x1 := RowIs.cell (j := 1) RX rfl
    have x2 := RowIs.cell (j := 2) RX rfl
    have x3 := RowIs.cell (j := 3) RX rfl
    have x4 := RowIs.cell (j := 4) RX rfl
    have x5 := RowIs.cell (j := 5) RX rfl
    have x6 := RowIs.cell (j := 6) RX rfl
    have x7 := RowIs.cell (j := 7) RX rfl
    have x8 := RowIs.cell (j := 8) RX rfl
    have x9 := RowIs.cell (j := 9) RX rfl
    have xf := fun j => RowIs.frozen RX j
    have xl := RX.lt
    go_wp2_with fail
    clear x0 x1 x2 x3 x4 x5 x6 x7 x8 x9 xf xl
    refine (right r2 b2 e2 k2 _ h2).mono ?_; rw [show okB r2 b2 k2 = _ from hd]; rintro x w2 ⟨rfl, hb⟩
    replace RX := RX.new hb
    replace HB := bchain HB hb
    clear hb
    have x0 := RowIs.cell (j := 0) RX rfl
    have x1 := RowIs.cell (j := 1) RX rfl
    have x2 := RowIs.cell (j := 2) RX rfl
    have x3 := RowIs.cell (j := 3) RX rfl
    have x4 := RowIs.cell (j := 4) RX rfl
    have x5 := RowIs.cell (j := 5) RX rfl
    have x6 := RowIs.cell (j := 6) RX rfl
    have x7 := RowIs.cell (j := 7) RX rfl
    have x8 := RowIs.cell (j := 8) RX rfl
    have x9 := RowIs.cell (j := 9) RX rfl
    have xf := fun j => RowIs.frozen RX j
    have xl := RX.lt
    go_wp2_with fail
    refine (implWithin _ _ _ _).mono ?_; rw [hw]; rintro e w7 ⟨rfl, hsame⟩; obtain rfl := hsame.symm; clear hsame
    go_wp2_with fail
    go_ret
    exact ⟨rfl, HB⟩
  cases hm : inB cm 0 1000000
  · go_enter Tryz.func204, Tryz.ntmps204
    go_wp2_with fail
    refine (right r b e k _ h1).mono ?_; rw [show okB r b k = _ from hu]; rintro x w1 ⟨rfl, hb⟩
    replace RX := RX.new hb
    replace HB := bchain HB hb
    clear hb
    have x0 := RowIs.cell (j := 0) RX rfl
    have x1 := RowIs.cell (j := 1) RX rfl
    have x2 := RowIs.cell (j := 2) RX rfl
    have x3 := RowIs.cell (j := 3) RX rfl
    have x4 := RowIs.cell (j := 4) RX rfl
    have x5 := RowIs.cell (j := 5) RX rfl
    have x6 := RowIs.cell (j := 6) RX rfl
    have x7 := RowIs.cell (j := 7) RX rfl
    have x8 := RowIs.cell (j := 8) RX rfl
    have x9 := RowIs.cell (j := 9) RX rfl
    have xf := fun j => RowIs.frozen RX j
    have xl := RX.lt
    go_wp2_with fail
    clear x0 x1 x2 x3 x4 x5 x6 x7 x8 x9 xf xl
    refine (right r2 b2 e2 k2 _ h2).mono ?_; rw [show okB r2 b2 k2 = _ from hd]; rintro x w2 ⟨rfl, hb⟩
    replace RX := RX.new hb
    replace HB := bchain HB hb
    clear hb
    have x0 := RowIs.cell (j := 0) RX rfl
    have x1 := RowIs.cell (j := 1) RX rfl
    have x2 := RowIs.cell (j := 2) RX rfl
    have x3 := RowIs.cell (j := 3) RX rfl
    have x4 := RowIs.cell (j := 4) RX rfl
    have x5 := RowIs.cell (j := 5) RX rfl
    have x6 := RowIs.cell (j := 6) RX rfl
    have x7 := RowIs.cell (j := 7) RX rfl
    have x8 := RowIs.cell (j := 8) RX rfl
    have x9 := RowIs.cell (j := 9) RX rfl
    have xf := fun j => RowIs.frozen RX j
    have xl := RX.lt
    go_wp2_with fail
    refine (implWithin _ _ _ _).mono ?_; rw [hw]; rintro e w7 ⟨rfl, hsame⟩; obtain rfl := hsame.symm; clear hsame
    go_wp2_with fail
    refine (implWithin _ _ _ _).mono ?_; rw [hm]; rintro e w8 ⟨rfl, hsame⟩; obtain rfl := hsame.symm; clear hsame
    go_wp2_with fail
    go_ret
    exact ⟨rfl, HB⟩
  go_enter Tryz.func204, Tryz.ntmps204
  go_wp2_with fail
  refine (right r b e k _ h1).mono ?_; rw [show okB r b k = _ from hu]; rintro x w1 ⟨rfl, hb⟩
  replace RX := RX.new hb
  replace HB := bchain HB hb
  clear hb
  have x0 := RowIs.cell (j := 0) RX rfl
  have x1 := RowIs.cell (j := 1) RX rfl
  have x2 := RowIs.cell (j := 2) RX rfl
  have x3 := RowIs.cell (j := 3) RX rfl
  have x4 := RowIs.cell (j := 4) RX rfl
  have x5 := RowIs.cell (j := 5) RX rfl
  have x6 := RowIs.cell (j := 6) RX rfl
  have x7 := RowIs.cell (j := 7) RX rfl
  have x8 := RowIs.cell (j := 8) RX rfl
  have x9 := RowIs.cell (j := 9) RX rfl
  have xf := fun j => RowIs.frozen RX j
  have xl := RX.lt
  go_wp2_with fail
  clear x0 x1 x2 x3 x4 x5 x6 x7 x8 x9 xf xl
  refine (right r2 b2 e2 k2 _ h2).mono ?_; rw [show okB r2 b2 k2 = _ from hd]; rintro x w2 ⟨rfl, hb⟩
  replace RX := RX.new hb
  replace HB := bchain HB hb
  clear hb
  have x0 := RowIs.cell (j := 0) RX rfl
  have x1 := RowIs.cell (j := 1) RX rfl
  have x2 := RowIs.cell (j := 2) RX rfl
  have x3 := RowIs.cell (j := 3) RX rfl
  have x4 := RowIs.cell (j := 4) RX rfl
  have x5 := RowIs.cell (j := 5) RX rfl
  have x6 := RowIs.cell (j := 6) RX rfl
  have x7 := RowIs.cell (j := 7) RX rfl
  have x8 := RowIs.cell (j := 8) RX rfl
  have x9 := RowIs.cell (j := 9) RX rfl
  have xf := fun j => RowIs.frozen RX j
  have xl := RX.lt
  go_wp2_with fail
  refine (implWithin _ _ _ _).mono ?_; rw [hw]; rintro e w7 ⟨rfl, hsame⟩; obtain rfl := hsame.symm; clear hsame
  go_wp2_with fail
  refine (implWithin _ _ _ _).mono ?_; rw [hm]; rintro e w8 ⟨rfl, hsame⟩; obtain rfl := hsame.symm; clear hsame
  go_wp2_with fail
  go_ret
  exact ⟨rfl, HB⟩
set_option maxHeartbeats 1000000 in
theorem lanesTunnel16 (t : TuD) (w : World) (h1 : t.up.b.size ≤ 281474976710656) (h2 : t.dn.b.size ≤ 281474976710656) : Calls Tryz.prog 169 #[lnv t] w fun x w' => x = .returned (tuv t) ∧ Below w.heap.size w w' := by
  obtain ⟨⟨r, b, e, k⟩, ⟨r2, b2, e2, k2⟩, wt, cm⟩ := t
  dsimp only [tuv, lnv] at *
  obtain ⟨W, hW⟩ : ∃ W, ((w.alloc (.cells #[.int .i64 r, .string b, .bool e, .bool k, .int .i64 wt, .int .i64 r2, .string b2, .bool e2, .bool k2, .int .i64 cm] 213)).alloc (.cells #[.int .i64 0, .string ⟨#[]⟩, .bool false, .bool false, .int .i64 0, .string ⟨#[]⟩, .bool false, .bool false, .int .i64 0, .int .i64 0] 87)) = W := ⟨_, rfl⟩
  have RX : RowIs W w.heap.size 213 [.int .i64 r, .string b, .bool e, .bool k, .int .i64 wt, .int .i64 r2, .string b2, .bool e2, .bool k2, .int .i64 cm] := by rw [← hW]; exact (rowIs_new w 213 [.int .i64 r, .string b, .bool e, .bool k, .int .i64 wt, .int .i64 r2, .string b2, .bool e2, .bool k2, .int .i64 cm]).alloc _
  have RY : RowIs W (w.heap.size + 1) 87 [.int .i64 0, .string ⟨#[]⟩, .bool false, .bool false, .int .i64 0, .string ⟨#[]⟩, .bool false, .bool false, .int .i64 0, .int .i64 0] := by have := rowIs_new (w.alloc (.cells #[.int .i64 r, .string b, .bool e, .bool k, .int .i64 wt, .int .i64 r2, .string b2, .bool e2, .bool k2, .int .i64 cm] 213)) 87 [.int .i64 0, .string ⟨#[]⟩, .bool false, .bool false, .int .i64 0, .string ⟨#[]⟩, .bool false, .bool false, .int .i64 0, .int .i64 0]; rw [hW] at this; simpa using this
  have HB : Below w.heap.size w W := by rw [← hW]; exact (((Below.refl _ _).alloc (Nat.le_refl _) _).alloc (by simp) _)
  go_enter Tryz.func169, Tryz.ntmps169
  go_upto_region 1 with fail
  try rw [hW]
  clear hW
  refine wp_region_held_drew (S := (fun u => RowIs u w.heap.size 213 [.int .i64 r, .string b, .bool e, .bool k, .int .i64 wt, .int .i64 r2, .string b2, .bool e2, .bool k2, .int .i64 cm])) (by kernel_rfl) (show RowIs (World.drew W) w.heap.size 213 [.int .i64 r, .string b, .bool e, .bool k, .int .i64 wt, .int .i64 r2, .string b2, .bool e2, .bool k2, .int .i64 cm] from RX) (fun hS => ?_)
  replace RY : RowIs (World.drew W) (w.heap.size + 1) 87 [.int .i64 0, .string ⟨#[]⟩, .bool false, .bool false, .int .i64 0, .string ⟨#[]⟩, .bool false, .bool false, .int .i64 0, .int .i64 0] := RY
  replace HB := HB.drew
  clear RX
  generalize World.drew W = u0 at *
  refine wpAnyH_take (i := 0) (v := ?_) rfl (by kernel_rfl) (by kernel_rfl) (by kernel_rfl) (fun _ _ _ h => h) (Or.inl ⟨by kernel_rfl, ?_⟩) hS ?_; rotate_left; focus (intro uu hu; clear hu; go_simp; try with_reducible rfl)
  try simp only [Act.put, List.getElem_toArray, List.getElem_cons_succ, List.getElem_cons_zero, List.setIfInBounds_toArray, List.set_cons_zero, List.set_cons_succ]
  refine wpAnyH_take (i := 1) (v := ?_) rfl (by kernel_rfl) (by kernel_rfl) (by kernel_rfl) (fun _ _ _ h => h) (Or.inl ⟨by kernel_rfl, ?_⟩) hS ?_; rotate_left; focus (intro uu hu; clear hu; go_simp; try with_reducible rfl)
  try simp only [Act.put, List.getElem_toArray, List.getElem_cons_succ, List.getElem_cons_zero, List.setIfInBounds_toArray, List.set_cons_zero, List.set_cons_succ]
  refine wpAnyH_take (i := 2) (v := .agg #[.int .i64 r, .string b, .bool e, .bool k]) rfl (by kernel_rfl) (by kernel_rfl) (by kernel_rfl) (fun _ _ _ h => h) (Or.inl ⟨by kernel_rfl, ?ld⟩) hS ?_; case ld => (intro uu hu; have l0 := RowIs.cell (j := 0) hu rfl; have l1 := RowIs.cell (j := 1) hu rfl; have l2 := RowIs.cell (j := 2) hu rfl; have l3 := RowIs.cell (j := 3) hu rfl; have ll := hu.lt; clear hu; go_simp)
  try simp only [Act.put, List.getElem_toArray, List.getElem_cons_succ, List.getElem_cons_zero, List.setIfInBounds_toArray, List.set_cons_zero, List.set_cons_succ]
  refine wpAnyH_take (i := 4) (v := ?_) rfl (by kernel_rfl) (by kernel_rfl) (by kernel_rfl) (fun _ _ _ h => h) (Or.inl ⟨by kernel_rfl, ?_⟩) hS ?_; rotate_left; focus (intro uu hu; clear hu; go_simp; try with_reducible rfl)
  try simp only [Act.put, List.getElem_toArray, List.getElem_cons_succ, List.getElem_cons_zero, List.setIfInBounds_toArray, List.set_cons_zero, List.set_cons_succ]
  refine wpAnyH_take (i := 5) (v := ?_) rfl (by kernel_rfl) (by kernel_rfl) (by kernel_rfl) (fun _ _ _ h => h) (Or.inl ⟨by kernel_rfl, ?_⟩) hS ?_; rotate_left; focus (intro uu hu; clear hu; go_simp; try with_reducible rfl)
  try simp only [Act.put, List.getElem_toArray, List.getElem_cons_succ, List.getElem_cons_zero, List.setIfInBounds_toArray, List.set_cons_zero, List.set_cons_succ]
  refine wpAnyH_take (i := 6) (v := .agg #[.int .i64 r2, .string b2, .bool e2, .bool k2]) rfl (by kernel_rfl) (by kernel_rfl) (by kernel_rfl) (fun _ _ _ h => h) (Or.inl ⟨by kernel_rfl, ?ld⟩) hS ?_; case ld => (intro uu hu; have l5 := RowIs.cell (j := 5) hu rfl; have l6 := RowIs.cell (j := 6) hu rfl; have l7 := RowIs.cell (j := 7) hu rfl; have l8 := RowIs.cell (j := 8) hu rfl; have ll := hu.lt; clear hu; go_simp)
  try simp only [Act.put, List.getElem_toArray, List.getElem_cons_succ, List.getElem_cons_zero, List.setIfInBounds_toArray, List.set_cons_zero, List.set_cons_succ]
  refine wpAnyH_take (i := 8) (v := ?_) rfl (by kernel_rfl) (by kernel_rfl) (by kernel_rfl) (fun _ _ _ h => h) (Or.inl ⟨by kernel_rfl, ?_⟩) hS ?_; rotate_left; focus (intro uu hu; clear hu; go_simp; try with_reducible rfl)
  try simp only [Act.put, List.getElem_toArray, List.getElem_cons_succ, List.getElem_cons_zero, List.setIfInBounds_toArray, List.set_cons_zero, List.set_cons_succ]
  refine wpAnyH_take (i := 9) (v := ?_) rfl (by kernel_rfl) (by kernel_rfl) (by kernel_rfl) (fun _ _ _ h => h) (Or.inl ⟨by kernel_rfl, ?_⟩) hS ?_; rotate_left; focus (intro uu hu; clear hu; go_simp; try with_reducible rfl)
  try simp only [Act.put, List.getElem_toArray, List.getElem_cons_succ, List.getElem_cons_zero, List.setIfInBounds_toArray, List.set_cons_zero, List.set_cons_succ]
  refine wpAnyH_take (i := 10) (v := .int .i64 wt) rfl (by kernel_rfl) (by kernel_rfl) (by kernel_rfl) (fun _ _ _ h => h) (Or.inl ⟨by kernel_rfl, ?ld⟩) hS ?_; case ld => (intro uu hu; have l4 := RowIs.cell (j := 4) hu rfl; have ll := hu.lt; clear hu; go_simp)
  try simp only [Act.put, List.getElem_toArray, List.getElem_cons_succ, List.getElem_cons_zero, List.setIfInBounds_toArray, List.set_cons_zero, List.set_cons_succ]
  refine wpAnyH_take (i := 11) (v := ?_) rfl (by kernel_rfl) (by kernel_rfl) (by kernel_rfl) (fun _ _ _ h => h) (Or.inl ⟨by kernel_rfl, ?_⟩) hS ?_; rotate_left; focus (intro uu hu; clear hu; go_simp; try with_reducible rfl)
  try simp only [Act.put, List.getElem_toArray, List.getElem_cons_succ, List.getElem_cons_zero, List.setIfInBounds_toArray, List.set_cons_zero, List.set_cons_succ]
  refine wpAnyH_take (i := 12) (v := ?_) rfl (by kernel_rfl) (by kernel_rfl) (by kernel_rfl) (fun _ _ _ h => h) (Or.inl ⟨by kernel_rfl, ?_⟩) hS ?_; rotate_left; focus (intro uu hu; clear hu; go_simp; try with_reducible rfl)
  try simp only [Act.put, List.getElem_toArray, List.getElem_cons_succ, List.getElem_cons_zero, List.setIfInBounds_toArray, List.set_cons_zero, List.set_cons_succ]
  refine wpAnyH_take (i := 13) (v := .int .i64 cm) rfl (by kernel_rfl) (by kernel_rfl) (by kernel_rfl) (fun _ _ _ h => h) (Or.inl ⟨by kernel_rfl, ?ld⟩) hS ?_; case ld => (intro uu hu; have l9 := RowIs.cell (j := 9) hu rfl; have ll := hu.lt; clear hu; go_simp)
  try simp only [Act.put, List.getElem_toArray, List.getElem_cons_succ, List.getElem_cons_zero, List.setIfInBounds_toArray, List.set_cons_zero, List.set_cons_succ]
  refine wpAnyH_ready (rs := [3]) (by kernel_rfl) (by simp) ?_; refine AllReadyH.cons rfl (fun K hK => ?_) AllReadyH.nil; rw [if_pos (by kernel_rfl)]; go_simp
  refine (apart r b e k _ (by omega)).mono ?_; rintro x u1 ⟨rfl, hb⟩
  replace RY := RY.new hb
  replace HB := bchain HB hb
  refine hK.out _ _ (hS.new hb) (fun hS => ?_)
  clear hK K hb
  try simp only [Act.put, List.getElem_toArray, List.getElem_cons_succ, List.getElem_cons_zero, List.setIfInBounds_toArray, List.set_cons_zero, List.set_cons_succ]
  refine wpAnyH_ready (rs := [7]) (by kernel_rfl) (by simp) ?_; refine AllReadyH.cons rfl (fun K hK => ?_) AllReadyH.nil; rw [if_pos (by kernel_rfl)]; go_simp
  refine (apart r2 b2 e2 k2 _ (by omega)).mono ?_; rintro x u2 ⟨rfl, hb⟩
  replace RY := RY.new hb
  replace HB := bchain HB hb
  refine hK.out _ _ (hS.new hb) (fun hS => ?_)
  clear hK K hb
  try simp only [Act.put, List.getElem_toArray, List.getElem_cons_succ, List.getElem_cons_zero, List.setIfInBounds_toArray, List.set_cons_zero, List.set_cons_succ]
  refine wpAnyH_take (i := 14) (v := ?_) rfl (by kernel_rfl) (by kernel_rfl) (by kernel_rfl) (fun _ _ _ h => h) (Or.inl ⟨by kernel_rfl, ?_⟩) hS ?_; rotate_left; focus (intro uu hu; clear hu; go_simp; try with_reducible rfl)
  try simp only [Act.put, List.getElem_toArray, List.getElem_cons_succ, List.getElem_cons_zero, List.setIfInBounds_toArray, List.set_cons_zero, List.set_cons_succ]
  refine wpAnyH_ready (rs := [15]) (by kernel_rfl) (by simp) ?_; refine AllReadyH.cons rfl (fun K hK => ?_) AllReadyH.nil; rw [if_pos (by kernel_rfl)]
  refine wp_store_row 87 (.tmp 2) (.tmp 17) rfl (w.heap.size + 1) #[.int .i64 r, .string b, .bool e, .bool k, .int .i64 r2, .string b2, .bool e2, .bool k2, .int .i64 wt, .int .i64 cm] rfl rfl 87 #[.int .i64 0, .string ⟨#[]⟩, .bool false, .bool false, .int .i64 0, .string ⟨#[]⟩, .bool false, .bool false, .int .i64 0, .int .i64 0] RY (by kernel_rfl) rfl (by simp [Value.oneCell']) ?_
  have NY : RowIs (u2.setRow (w.heap.size + 1) #[.int .i64 r, .string b, .bool e, .bool k, .int .i64 r2, .string b2, .bool e2, .bool k2, .int .i64 wt, .int .i64 cm]) (w.heap.size + 1) 87 [.int .i64 r, .string b, .bool e, .bool k, .int .i64 r2, .string b2, .bool e2, .bool k2, .int .i64 wt, .int .i64 cm] := rowIs_setRow (cs' := [.int .i64 r, .string b, .bool e, .bool k, .int .i64 r2, .string b2, .bool e2, .bool k2, .int .i64 wt, .int .i64 cm]) RY
  replace HB := below_setRow HB (show w.heap.size ≤ w.heap.size + 1 by omega) #[.int .i64 r, .string b, .bool e, .bool k, .int .i64 r2, .string b2, .bool e2, .bool k2, .int .i64 wt, .int .i64 cm]
  have hS2 := hS.kept (setRow_other u2 (w.heap.size + 1) #[.int .i64 r, .string b, .bool e, .bool k, .int .i64 r2, .string b2, .bool e2, .bool k2, .int .i64 wt, .int .i64 cm] w.heap.size (by omega))
  clear RY
  generalize hV : u2.setRow (w.heap.size + 1) #[.int .i64 r, .string b, .bool e, .bool k, .int .i64 r2, .string b2, .bool e2, .bool k2, .int .i64 wt, .int .i64 cm] = V9 at *
  clear hV
  refine hK.out _ _ hS2 (fun hS => ?_)
  clear hK K hS2
  try simp only [Act.put, List.getElem_toArray, List.getElem_cons_succ, List.getElem_cons_zero, List.setIfInBounds_toArray, List.set_cons_zero, List.set_cons_succ]
  refine wpAnyH_done (by kernel_rfl) ?_ _
  clear hS
  have RY := NY
  go_wp2_with fail
  have y0 := RowIs.cell (j := 0) RY rfl
  have y1 := RowIs.cell (j := 1) RY rfl
  have y2 := RowIs.cell (j := 2) RY rfl
  have y3 := RowIs.cell (j := 3) RY rfl
  have y4 := RowIs.cell (j := 4) RY rfl
  have y5 := RowIs.cell (j := 5) RY rfl
  have y6 := RowIs.cell (j := 6) RY rfl
  have y7 := RowIs.cell (j := 7) RY rfl
  have y8 := RowIs.cell (j := 8) RY rfl
  have y9 := RowIs.cell (j := 9) RY rfl
  have yf := fun j => RowIs.frozen RY j
  have yl := RY.lt
  refine bodyPost_ret (v := .agg #[.int .i64 r, .string b, .bool e, .bool k, .int .i64 r2, .string b2, .bool e2, .bool k2, .int .i64 wt, .int .i64 cm]) (by simp [results, Tryz.results169, go_sem, *]) rfl ?_
  exact ⟨rfl, HB⟩
set_option maxHeartbeats 1000000 in
theorem takeIn16_shut (r : Int) (b : ByteArray) (e k : Bool) (r2 : Int) (b2 : ByteArray) (e2 k2 : Bool) (wt cm : Int) (s : ByteArray) (fin : Bool) (g : Nat) (w : World) (R : RowIs w g 213 [.int .i64 r, .string b, .bool e, .bool k, .int .i64 wt, .int .i64 r2, .string b2, .bool e2, .bool k2, .int .i64 cm]) (hek : (e || k) = true) :
    Calls Tryz.prog 229 #[.pointer (some ⟨g, 0, none⟩), .string s, .bool fin] w fun x w' => x = .returned (.bool false) ∧ RowIs w' g 213 [.int .i64 r, .string b, .bool e, .bool k, .int .i64 wt, .int .i64 r2, .string b2, .bool e2, .bool k2, .int .i64 cm] ∧ Turn g (g + 1) w w' := by
  have HB : Turn g (g + 1) w w := Turn.refl _ _ _
  have x0 := RowIs.cell (j := 0) R rfl
  have x1 := RowIs.cell (j := 1) R rfl
  have x2 := RowIs.cell (j := 2) R rfl
  have x3 := RowIs.cell (j := 3) R rfl
  have xl := R.lt
  go_enter Tryz.func229, Tryz.ntmps229
  go_upto_region 1 with fail
  have y0 : ∀ y : Later w, y.w.cell? ⟨g, 0, none⟩ = some (.int .i64 r) := fun y => (y.b.cell (p := ⟨g, 0, none⟩) xl).trans x0
  have y1 : ∀ y : Later w, y.w.cell? ⟨g, 1, none⟩ = some (.string b) := fun y => (y.b.cell (p := ⟨g, 1, none⟩) xl).trans x1
  have y2 : ∀ y : Later w, y.w.cell? ⟨g, 2, none⟩ = some (.bool e) := fun y => (y.b.cell (p := ⟨g, 2, none⟩) xl).trans x2
  have y3 : ∀ y : Later w, y.w.cell? ⟨g, 3, none⟩ = some (.bool k) := fun y => (y.b.cell (p := ⟨g, 3, none⟩) xl).trans x3
  clear x0 x1 x2 x3
  have hsh := fun (u : World) => shut r b e k u
  rw [hek] at hsh
  have hne : Nonempty (Later w) := ⟨⟨w, Below.refl _ _⟩⟩; refine region_later (by kernel_rfl) (by kernel_rfl) ?_
  iterate 4 (go_big_quiet_step (fail))
  go_big_quiet_want; go_big_quiet_op; refine ⟨(.bool true), fun y => later_calls (x := y) (hsh y.w), ?_⟩; go_big_quiet_on
  repeat (go_big_quiet_step (fail))
  refine wpQuiet_nil ?_; intro _ hw'; obtain ⟨y, hw''⟩ := hw'; subst hw''; have hby := y.b
  generalize hV : y.w = V1 at *
  clear hV
  replace R := R.new hby
  replace HB := HB.trans (turn_new hby _ _)
  clear hby y0 y1 y2 y3 xl hne
  go_wp2_with fail
  go_ret
  exact ⟨rfl, R, HB⟩
set_option maxHeartbeats 1000000 in
theorem takeIn16_room (r : Int) (b : ByteArray) (r2 : Int) (b2 : ByteArray) (e2 k2 : Bool) (wt cm : Int) (s : ByteArray) (fin : Bool) (g : Nat) (w : World) (R : RowIs w g 213 [.int .i64 r, .string b, .bool false, .bool false, .int .i64 wt, .int .i64 r2, .string b2, .bool e2, .bool k2, .int .i64 cm]) (hb1 : b.size ≤ 2000) (hr1 : r ≤ 2000) (hr0 : 1 ≤ r) (hs : s.size ≤ maxLen) (hno : r - b.size < s.size) :
    Calls Tryz.prog 229 #[.pointer (some ⟨g, 0, none⟩), .string s, .bool fin] w fun x w' => x = .returned (.bool false) ∧ RowIs w' g 213 [.int .i64 r, .string b, .bool false, .bool false, .int .i64 wt, .int .i64 r2, .string b2, .bool e2, .bool k2, .int .i64 cm] ∧ Turn g (g + 1) w w' := by
  have HB : Turn g (g + 1) w w := Turn.refl _ _ _
  unfold maxLen at hs
  have e1 : IntKind.i64.wrap (r - (b.size : Int)) = r - b.size := by rw [IntKind.wrap_i64]; omega
  have hgt : (s.size : Int) > r - b.size := by omega
  have x0 := RowIs.cell (j := 0) R rfl
  have x1 := RowIs.cell (j := 1) R rfl
  have x2 := RowIs.cell (j := 2) R rfl
  have x3 := RowIs.cell (j := 3) R rfl
  have xl := R.lt
  go_enter Tryz.func229, Tryz.ntmps229
  go_upto_region 1 with fail
  have y0 : ∀ y : Later w, y.w.cell? ⟨g, 0, none⟩ = some (.int .i64 r) := fun y => (y.b.cell (p := ⟨g, 0, none⟩) xl).trans x0
  have y1 : ∀ y : Later w, y.w.cell? ⟨g, 1, none⟩ = some (.string b) := fun y => (y.b.cell (p := ⟨g, 1, none⟩) xl).trans x1
  have y2 : ∀ y : Later w, y.w.cell? ⟨g, 2, none⟩ = some (.bool false) := fun y => (y.b.cell (p := ⟨g, 2, none⟩) xl).trans x2
  have y3 : ∀ y : Later w, y.w.cell? ⟨g, 3, none⟩ = some (.bool false) := fun y => (y.b.cell (p := ⟨g, 3, none⟩) xl).trans x3
  clear x0 x1 x2 x3
  have hsh := fun (u : World) => shut r b false false u
  rw [show (false || false) = false from rfl] at hsh
  have hne : Nonempty (Later w) := ⟨⟨w, Below.refl _ _⟩⟩; refine region_later (by kernel_rfl) (by kernel_rfl) ?_
  iterate 4 (go_big_quiet_step (fail))
  go_big_quiet_want; go_big_quiet_op; refine ⟨(.bool false), fun y => later_calls (x := y) (hsh y.w), ?_⟩; go_big_quiet_on
  repeat (go_big_quiet_step (fail))
  refine wpQuiet_nil ?_; intro _ hw'; obtain ⟨y, hw''⟩ := hw'; subst hw''; have hby := y.b
  generalize hV : y.w = V1 at *
  clear hV
  replace R := R.new hby
  replace HB := HB.trans (turn_new hby _ _)
  clear hby y0 y1 y2 y3 xl hne
  go_wp2_with fail
  go_ret
  exact ⟨rfl, R, HB⟩
set_option maxHeartbeats 1000000 in
theorem takeIn16_yes (r : Int) (b : ByteArray) (r2 : Int) (b2 : ByteArray) (e2 k2 : Bool) (wt cm : Int) (s : ByteArray) (g : Nat) (w : World) (R : RowIs w g 213 [.int .i64 r, .string b, .bool false, .bool false, .int .i64 wt, .int .i64 r2, .string b2, .bool e2, .bool k2, .int .i64 cm]) (hr0 : 1 ≤ r) (hr1 : r ≤ 2000) (hb1 : (b.size : Int) ≤ r) (hs : s.size ≤ 1048576) (hyes : (s.size : Int) ≤ r - b.size) :
    Calls Tryz.prog 229 #[.pointer (some ⟨g, 0, none⟩), .string s, .bool false] w fun x w' => x = .returned (.bool true) ∧ RowIs w' g 213 [.int .i64 r, .string (b ++ s), .bool false, .bool false, .int .i64 wt, .int .i64 r2, .string b2, .bool e2, .bool k2, .int .i64 cm] ∧ Turn g (g + 1) w w' := by
  have HB : Turn g (g + 1) w w := Turn.refl _ _ _
  have e1 : IntKind.i64.wrap (r - (b.size : Int)) = r - b.size := by rw [IntKind.wrap_i64]; omega
  have hgt : ¬ (s.size : Int) > r - b.size := by omega
  have x0 := RowIs.cell (j := 0) R rfl
  have x1 := RowIs.cell (j := 1) R rfl
  have x2 := RowIs.cell (j := 2) R rfl
  have x3 := RowIs.cell (j := 3) R rfl
  have xl := R.lt
  go_enter Tryz.func229, Tryz.ntmps229
  go_upto_region 1 with fail
  have y0 : ∀ y : Later w, y.w.cell? ⟨g, 0, none⟩ = some (.int .i64 r) := fun y => (y.b.cell (p := ⟨g, 0, none⟩) xl).trans x0
  have y1 : ∀ y : Later w, y.w.cell? ⟨g, 1, none⟩ = some (.string b) := fun y => (y.b.cell (p := ⟨g, 1, none⟩) xl).trans x1
  have y2 : ∀ y : Later w, y.w.cell? ⟨g, 2, none⟩ = some (.bool false) := fun y => (y.b.cell (p := ⟨g, 2, none⟩) xl).trans x2
  have y3 : ∀ y : Later w, y.w.cell? ⟨g, 3, none⟩ = some (.bool false) := fun y => (y.b.cell (p := ⟨g, 3, none⟩) xl).trans x3
  clear x0 x1 x2 x3
  have hsh := fun (u : World) => shut r b false false u
  rw [show (false || false) = false from rfl] at hsh
  have hne : Nonempty (Later w) := ⟨⟨w, Below.refl _ _⟩⟩; refine region_later (by kernel_rfl) (by kernel_rfl) ?_
  iterate 4 (go_big_quiet_step (fail))
  go_big_quiet_want; go_big_quiet_op; refine ⟨(.bool false), fun y => later_calls (x := y) (hsh y.w), ?_⟩; go_big_quiet_on
  repeat (go_big_quiet_step (fail))
  refine wpQuiet_nil ?_; intro _ hw'; obtain ⟨y, hw''⟩ := hw'; subst hw''; have hby := y.b
  generalize hV : y.w = V1 at *
  clear hV
  replace R := R.new hby
  replace HB := HB.trans (turn_new hby _ _)
  clear hby y0 y1 y2 y3 xl hne
  have hsx : s.extract 0 s.size = s := by simp
  have hcm : comes r b s = s.size := by unfold comes; omega
  have hokb : okB r b false = true := by rw [okB_rest ⟨hr0, hr1, hb1⟩]; rfl
  have hpu := fun (u : World) => push r b s false false u hokb hs
  simp only [pushedV_open r b s false false rfl, hcm, hsx] at hpu
  have z0 := RowIs.cell (j := 0) R rfl
  have z1 := RowIs.cell (j := 1) R rfl
  have z2 := RowIs.cell (j := 2) R rfl
  have z3 := RowIs.cell (j := 3) R rfl
  have zf := fun j => RowIs.frozen R j
  have zl := R.lt
  go_wp2_with fail
  clear z0 z1 z2 z3 zf zl
  refine (hpu _).mono ?_; rintro x w1 ⟨rfl, hb⟩
  replace R := R.new hb
  replace HB := HB.trans (turn_new hb _ _)
  clear hb
  clear hpu
  have z0 := RowIs.cell (j := 0) R rfl
  have z1 := RowIs.cell (j := 1) R rfl
  have z2 := RowIs.cell (j := 2) R rfl
  have z3 := RowIs.cell (j := 3) R rfl
  have zf := fun j => RowIs.frozen R j
  have zl := R.lt
  go_upto_region 4 with fail
  clear z0 z1 z2 z3 zf zl
  have NR : RowIs ((((w1.setCell ⟨g, 0, none⟩ (.int .i64 r)).setCell ⟨g, 1, none⟩ (.string (b ++ s))).setCell ⟨g, 2, none⟩ (.bool false)).setCell ⟨g, 3, none⟩ (.bool false)) g 213 [.int .i64 r, .string (b ++ s), .bool false, .bool false, .int .i64 wt, .int .i64 r2, .string b2, .bool e2, .bool k2, .int .i64 cm] := ((((R.set 0 (.int .i64 r)).set 1 (.string (b ++ s))).set 2 (.bool false)).set 3 (.bool false))
  have NHB : Turn g (g + 1) w ((((w1.setCell ⟨g, 0, none⟩ (.int .i64 r)).setCell ⟨g, 1, none⟩ (.string (b ++ s))).setCell ⟨g, 2, none⟩ (.bool false)).setCell ⟨g, 3, none⟩ (.bool false)) := (Turn.setCell (Turn.setCell (Turn.setCell (Turn.setCell HB (p := ⟨g, 0, none⟩) (.int .i64 r) (.inl ⟨Nat.le_refl _, Nat.lt_succ_self _⟩)) (p := ⟨g, 1, none⟩) (.string (b ++ s)) (.inl ⟨Nat.le_refl _, Nat.lt_succ_self _⟩)) (p := ⟨g, 2, none⟩) (.bool false) (.inl ⟨Nat.le_refl _, Nat.lt_succ_self _⟩)) (p := ⟨g, 3, none⟩) (.bool false) (.inl ⟨Nat.le_refl _, Nat.lt_succ_self _⟩))
  generalize hV : ((((w1.setCell ⟨g, 0, none⟩ (.int .i64 r)).setCell ⟨g, 1, none⟩ (.string (b ++ s))).setCell ⟨g, 2, none⟩ (.bool false)).setCell ⟨g, 3, none⟩ (.bool false)) = V2 at *
  clear hV
  clear R
  have R := NR
  clear NR
  clear HB
  have HB := NHB
  clear NHB
  go_wp2_with fail
  go_ret
  exact ⟨rfl, R, HB⟩
set_option maxHeartbeats 1000000 in
theorem takeIn16_yesfin (r : Int) (b : ByteArray) (r2 : Int) (b2 : ByteArray) (e2 k2 : Bool) (wt cm : Int) (s : ByteArray) (g : Nat) (w : World) (R : RowIs w g 213 [.int .i64 r, .string b, .bool false, .bool false, .int .i64 wt, .int .i64 r2, .string b2, .bool e2, .bool k2, .int .i64 cm]) (hr0 : 1 ≤ r) (hr1 : r ≤ 2000) (hb1 : (b.size : Int) ≤ r) (hs : s.size ≤ 1048576) (hyes : (s.size : Int) ≤ r - b.size) :
    Calls Tryz.prog 229 #[.pointer (some ⟨g, 0, none⟩), .string s, .bool true] w fun x w' => x = .returned (.bool true) ∧ RowIs w' g 213 [.int .i64 r, .string (b ++ s), .bool true, .bool false, .int .i64 wt, .int .i64 r2, .string b2, .bool e2, .bool k2, .int .i64 cm] ∧ Turn g (g + 1) w w' := by
  have HB : Turn g (g + 1) w w := Turn.refl _ _ _
  have e1 : IntKind.i64.wrap (r - (b.size : Int)) = r - b.size := by rw [IntKind.wrap_i64]; omega
  have hgt : ¬ (s.size : Int) > r - b.size := by omega
  have x0 := RowIs.cell (j := 0) R rfl
  have x1 := RowIs.cell (j := 1) R rfl
  have x2 := RowIs.cell (j := 2) R rfl
  have x3 := RowIs.cell (j := 3) R rfl
  have xl := R.lt
  go_enter Tryz.func229, Tryz.ntmps229
  go_upto_region 1 with fail
  have y0 : ∀ y : Later w, y.w.cell? ⟨g, 0, none⟩ = some (.int .i64 r) := fun y => (y.b.cell (p := ⟨g, 0, none⟩) xl).trans x0
  have y1 : ∀ y : Later w, y.w.cell? ⟨g, 1, none⟩ = some (.string b) := fun y => (y.b.cell (p := ⟨g, 1, none⟩) xl).trans x1
  have y2 : ∀ y : Later w, y.w.cell? ⟨g, 2, none⟩ = some (.bool false) := fun y => (y.b.cell (p := ⟨g, 2, none⟩) xl).trans x2
  have y3 : ∀ y : Later w, y.w.cell? ⟨g, 3, none⟩ = some (.bool false) := fun y => (y.b.cell (p := ⟨g, 3, none⟩) xl).trans x3
  clear x0 x1 x2 x3
  have hsh := fun (u : World) => shut r b false false u
  rw [show (false || false) = false from rfl] at hsh
  have hne : Nonempty (Later w) := ⟨⟨w, Below.refl _ _⟩⟩; refine region_later (by kernel_rfl) (by kernel_rfl) ?_
  iterate 4 (go_big_quiet_step (fail))
  go_big_quiet_want; go_big_quiet_op; refine ⟨(.bool false), fun y => later_calls (x := y) (hsh y.w), ?_⟩; go_big_quiet_on
  repeat (go_big_quiet_step (fail))
  refine wpQuiet_nil ?_; intro _ hw'; obtain ⟨y, hw''⟩ := hw'; subst hw''; have hby := y.b
  generalize hV : y.w = V1 at *
  clear hV
  replace R := R.new hby
  replace HB := HB.trans (turn_new hby _ _)
  clear hby y0 y1 y2 y3 xl hne
  have hsx : s.extract 0 s.size = s := by simp
  have hcm : comes r b s = s.size := by unfold comes; omega
  have hokb : okB r b false = true := by rw [okB_rest ⟨hr0, hr1, hb1⟩]; rfl
  have hpu := fun (u : World) => push r b s false false u hokb hs
  simp only [pushedV_open r b s false false rfl, hcm, hsx] at hpu
  have z0 := RowIs.cell (j := 0) R rfl
  have z1 := RowIs.cell (j := 1) R rfl
  have z2 := RowIs.cell (j := 2) R rfl
  have z3 := RowIs.cell (j := 3) R rfl
  have zf := fun j => RowIs.frozen R j
  have zl := R.lt
  go_wp2_with fail
  clear z0 z1 z2 z3 zf zl
  refine (hpu _).mono ?_; rintro x w1 ⟨rfl, hb⟩
  replace R := R.new hb
  replace HB := HB.trans (turn_new hb _ _)
  clear hb
  clear hpu
  have z0 := RowIs.cell (j := 0) R rfl
  have z1 := RowIs.cell (j := 1) R rfl
  have z2 := RowIs.cell (j := 2) R rfl
  have z3 := RowIs.cell (j := 3) R rfl
  have zf := fun j => RowIs.frozen R j
  have zl := R.lt
  go_upto_region 4 with fail
  clear z0 z1 z2 z3 zf zl
  have NR : RowIs ((((w1.setCell ⟨g, 0, none⟩ (.int .i64 r)).setCell ⟨g, 1, none⟩ (.string (b ++ s))).setCell ⟨g, 2, none⟩ (.bool false)).setCell ⟨g, 3, none⟩ (.bool false)) g 213 [.int .i64 r, .string (b ++ s), .bool false, .bool false, .int .i64 wt, .int .i64 r2, .string b2, .bool e2, .bool k2, .int .i64 cm] := ((((R.set 0 (.int .i64 r)).set 1 (.string (b ++ s))).set 2 (.bool false)).set 3 (.bool false))
  have NHB : Turn g (g + 1) w ((((w1.setCell ⟨g, 0, none⟩ (.int .i64 r)).setCell ⟨g, 1, none⟩ (.string (b ++ s))).setCell ⟨g, 2, none⟩ (.bool false)).setCell ⟨g, 3, none⟩ (.bool false)) := (Turn.setCell (Turn.setCell (Turn.setCell (Turn.setCell HB (p := ⟨g, 0, none⟩) (.int .i64 r) (.inl ⟨Nat.le_refl _, Nat.lt_succ_self _⟩)) (p := ⟨g, 1, none⟩) (.string (b ++ s)) (.inl ⟨Nat.le_refl _, Nat.lt_succ_self _⟩)) (p := ⟨g, 2, none⟩) (.bool false) (.inl ⟨Nat.le_refl _, Nat.lt_succ_self _⟩)) (p := ⟨g, 3, none⟩) (.bool false) (.inl ⟨Nat.le_refl _, Nat.lt_succ_self _⟩))
  generalize hV : ((((w1.setCell ⟨g, 0, none⟩ (.int .i64 r)).setCell ⟨g, 1, none⟩ (.string (b ++ s))).setCell ⟨g, 2, none⟩ (.bool false)).setCell ⟨g, 3, none⟩ (.bool false)) = V2 at *
  clear hV
  clear R
  have R := NR
  clear NR
  clear HB
  have HB := NHB
  clear NHB
  have z0 := RowIs.cell (j := 0) R rfl
  have z1 := RowIs.cell (j := 1) R rfl
  have z2 := RowIs.cell (j := 2) R rfl
  have z3 := RowIs.cell (j := 3) R rfl
  have zf := fun j => RowIs.frozen R j
  have zl := R.lt
  go_wp2_with fail
  clear z0 z1 z2 z3 zf zl
  have hsz : (b ++ s).size ≤ 281474976710656 := by rw [ByteArray.size_append]; omega
  refine (endP r (b ++ s) false false _ hsz).mono ?_; rintro x w3 ⟨rfl, hb⟩
  replace R := R.new hb
  replace HB := HB.trans (turn_new hb _ _)
  clear hb
  have z0 := RowIs.cell (j := 0) R rfl
  have z1 := RowIs.cell (j := 1) R rfl
  have z2 := RowIs.cell (j := 2) R rfl
  have z3 := RowIs.cell (j := 3) R rfl
  have zf := fun j => RowIs.frozen R j
  have zl := R.lt
  go_upto_region 6 with fail
  clear z0 z1 z2 z3 zf zl
  have NR : RowIs ((((w3.setCell ⟨g, 0, none⟩ (.int .i64 r)).setCell ⟨g, 1, none⟩ (.string (b ++ s))).setCell ⟨g, 2, none⟩ (.bool true)).setCell ⟨g, 3, none⟩ (.bool false)) g 213 [.int .i64 r, .string (b ++ s), .bool true, .bool false, .int .i64 wt, .int .i64 r2, .string b2, .bool e2, .bool k2, .int .i64 cm] := ((((R.set 0 (.int .i64 r)).set 1 (.string (b ++ s))).set 2 (.bool true)).set 3 (.bool false))
  have NHB : Turn g (g + 1) w ((((w3.setCell ⟨g, 0, none⟩ (.int .i64 r)).setCell ⟨g, 1, none⟩ (.string (b ++ s))).setCell ⟨g, 2, none⟩ (.bool true)).setCell ⟨g, 3, none⟩ (.bool false)) := (Turn.setCell (Turn.setCell (Turn.setCell (Turn.setCell HB (p := ⟨g, 0, none⟩) (.int .i64 r) (.inl ⟨Nat.le_refl _, Nat.lt_succ_self _⟩)) (p := ⟨g, 1, none⟩) (.string (b ++ s)) (.inl ⟨Nat.le_refl _, Nat.lt_succ_self _⟩)) (p := ⟨g, 2, none⟩) (.bool true) (.inl ⟨Nat.le_refl _, Nat.lt_succ_self _⟩)) (p := ⟨g, 3, none⟩) (.bool false) (.inl ⟨Nat.le_refl _, Nat.lt_succ_self _⟩))
  generalize hV : ((((w3.setCell ⟨g, 0, none⟩ (.int .i64 r)).setCell ⟨g, 1, none⟩ (.string (b ++ s))).setCell ⟨g, 2, none⟩ (.bool true)).setCell ⟨g, 3, none⟩ (.bool false)) = V4 at *
  clear hV
  clear R
  have R := NR
  clear NR
  clear HB
  have HB := NHB
  clear NHB
  go_wp2_with fail
  go_ret
  exact ⟨rfl, R, HB⟩
theorem takeIn16 (t : TuD) (s : ByteArray) (fin : Bool) (g : Nat) (w : World) (ho : okTu t = true) (hs : s.size ≤ 1048576) (R : RowIs w g 213 (lncs t)) :
    Calls Tryz.prog 229 #[.pointer (some ⟨g, 0, none⟩), .string s, .bool fin] w fun x w' => x = .returned (.bool (inTu t s fin).2) ∧ RowIs w' g 213 (lncs (inTu t s fin).1) ∧ Turn g (g + 1) w w' := by
  obtain ⟨hu, hd, hw, hm⟩ := okTu_true ho
  obtain ⟨q1, q2, q3, q4⟩ := okPp_true hu
  have hv : inTu t s fin = if t.up.e = true ∨ t.up.k = true ∨ t.up.r - t.up.b.size < s.size then (t, false) else (⟨⟨t.up.r, t.up.b ++ s, fin, t.up.k⟩, t.dn, t.went, t.came⟩, true) := by
    unfold inTu; rw [if_neg (by rw [ho]; decide)]
  rw [hv]
  clear hv ho hu hd hw hm
  obtain ⟨⟨r, b, e, k⟩, ⟨r2, b2, e2, k2⟩, wt, cm⟩ := t
  dsimp only [lncs] at *
  have hsm : s.size ≤ maxLen := by unfold maxLen; omega
  cases hek : (e || k)
  · obtain ⟨rfl, rfl⟩ : e = false ∧ k = false := by revert hek; cases e <;> cases k <;> simp
    by_cases hr : r - b.size < s.size
    · rw [if_pos (by simp [hr])]
      exact takeIn16_room r b r2 b2 e2 k2 wt cm s fin g w R (by omega) q2 q1 hsm hr
    · rw [if_neg (by simp; omega)]
      cases fin
      · exact takeIn16_yes r b r2 b2 e2 k2 wt cm s g w R q1 q2 q3 hs (by omega)
      · exact takeIn16_yesfin r b r2 b2 e2 k2 wt cm s g w R q1 q2 q3 hs (by omega)
  · rw [if_pos (by revert hek; cases e <;> cases k <;> simp)]
    exact takeIn16_shut r b e k r2 b2 e2 k2 wt cm s fin g w R hek
set_option maxHeartbeats 1000000 in
theorem implTunnelOk (t : TuD) (w : World) (h1 : t.up.b.size ≤ maxLen) (h2 : t.dn.b.size ≤ maxLen) : Calls Tryz.prog 162 #[tuv t] w fun x w' => x = .returned (.bool (okTu t)) ∧ Below w.heap.size w w' := by
  obtain ⟨⟨r, b, e, k⟩, ⟨r2, b2, e2, k2⟩, wt, cm⟩ := t
  dsimp only [tuv] at *
  obtain ⟨W, hW⟩ : ∃ W, (w.alloc (.cells #[.int .i64 r, .string b, .bool e, .bool k, .int .i64 r2, .string b2, .bool e2, .bool k2, .int .i64 wt, .int .i64 cm] 87)) = W := ⟨_, rfl⟩
  have RX : RowIs W w.heap.size 87 [.int .i64 r, .string b, .bool e, .bool k, .int .i64 r2, .string b2, .bool e2, .bool k2, .int .i64 wt, .int .i64 cm] := by rw [← hW]; exact rowIs_new w 87 [.int .i64 r, .string b, .bool e, .bool k, .int .i64 r2, .string b2, .bool e2, .bool k2, .int .i64 wt, .int .i64 cm]
  have HB : Below w.heap.size w W := by rw [← hW]; exact (Below.refl _ _).alloc (Nat.le_refl _) _
  have hri := fun (u : World) => lanesRight16 ⟨⟨r, b, e, k⟩, ⟨r2, b2, e2, k2⟩, wt, cm⟩ u h1 h2
  go_enter Tryz.func162, Tryz.ntmps162
  go_wp2_with (refine wpList_load_row (by rfl) 87 _ (by rfl) w.heap.size (by rfl) [.int .i64 r, .string b, .bool e, .bool k, .int .i64 r2, .string b2, .bool e2, .bool k2, .int .i64 wt, .int .i64 cm] _ 87 RX Tryz.underlying87 rfl (by kernel_rfl) ?_)
  clear hW
  refine (lanes16 ⟨⟨r, b, e, k⟩, ⟨r2, b2, e2, k2⟩, wt, cm⟩ _).mono ?_; rintro x w1 ⟨rfl, hb⟩
  replace RX := RX.new hb
  replace HB := bchain HB hb
  clear hb
  go_wp2_with fail
  refine (hri _).mono ?_; rintro x w2 ⟨rfl, hb⟩
  replace RX := RX.new hb
  replace HB := bchain HB hb
  clear hb
  go_wp2_with fail
  go_ret
  exact ⟨rfl, HB⟩
set_option maxHeartbeats 2000000 in
theorem implIn16 (t : TuD) (s : ByteArray) (fin : Bool) (w : World) (h1 : t.up.b.size ≤ maxLen) (h2 : t.dn.b.size ≤ maxLen) (hs : s.size ≤ 1048576) : Calls Tryz.prog 209 #[tuv t, .string s, .bool fin] w fun x w' => x = .returned (.tuple #[tuv (inTu t s fin).1, .bool (inTu t s fin).2]) ∧ Below w.heap.size w w' := by
  obtain ⟨⟨r, b, e, k⟩, ⟨r2, b2, e2, k2⟩, wt, cm⟩ := t
  dsimp only [tuv] at *
  have hri := fun (u : World) => lanesRight16 ⟨⟨r, b, e, k⟩, ⟨r2, b2, e2, k2⟩, wt, cm⟩ u h1 h2
  cases hk : okTu ⟨⟨r, b, e, k⟩, ⟨r2, b2, e2, k2⟩, wt, cm⟩
  · have hv : inTu ⟨⟨r, b, e, k⟩, ⟨r2, b2, e2, k2⟩, wt, cm⟩ s fin = (zTu, false) := by unfold inTu; rw [if_pos hk]
    rw [hv]
    rw [hk] at hri
    dsimp only [zTu, zPp]
    obtain ⟨W, hW⟩ : ∃ W, ((w.alloc (.cells #[.int .i64 r, .string b, .bool e, .bool k, .int .i64 r2, .string b2, .bool e2, .bool k2, .int .i64 wt, .int .i64 cm] 87)).alloc (.cells #[.int .i64 0, .string ⟨#[]⟩, .bool false, .bool false, .int .i64 0, .string ⟨#[]⟩, .bool false, .bool false, .int .i64 0, .int .i64 0] 87)) = W := ⟨_, rfl⟩
    have RX : RowIs W w.heap.size 87 [.int .i64 r, .string b, .bool e, .bool k, .int .i64 r2, .string b2, .bool e2, .bool k2, .int .i64 wt, .int .i64 cm] := by rw [← hW]; exact (rowIs_new w 87 [.int .i64 r, .string b, .bool e, .bool k, .int .i64 r2, .string b2, .bool e2, .bool k2, .int .i64 wt, .int .i64 cm]).alloc _
    have RY : RowIs W (w.heap.size + 1) 87 [.int .i64 0, .string ⟨#[]⟩, .bool false, .bool false, .int .i64 0, .string ⟨#[]⟩, .bool false, .bool false, .int .i64 0, .int .i64 0] := by have := rowIs_new (w.alloc (.cells #[.int .i64 r, .string b, .bool e, .bool k, .int .i64 r2, .string b2, .bool e2, .bool k2, .int .i64 wt, .int .i64 cm] 87)) 87 [.int .i64 0, .string ⟨#[]⟩, .bool false, .bool false, .int .i64 0, .string ⟨#[]⟩, .bool false, .bool false, .int .i64 0, .int .i64 0]; rw [hW] at this; simpa using this
    have HB : Below w.heap.size w W := by rw [← hW]; exact (((Below.refl _ _).alloc (Nat.le_refl _) _).alloc (by simp) _)
    go_enter Tryz.func209, Tryz.ntmps209
    go_wp2_with (refine wpList_load_row (by rfl) 87 _ (by rfl) w.heap.size (by rfl) [.int .i64 r, .string b, .bool e, .bool k, .int .i64 r2, .string b2, .bool e2, .bool k2, .int .i64 wt, .int .i64 cm] _ 87 RX Tryz.underlying87 rfl (by kernel_rfl) ?_)
    clear hW
    refine (lanes16 ⟨⟨r, b, e, k⟩, ⟨r2, b2, e2, k2⟩, wt, cm⟩ _).mono ?_; rintro x w1 ⟨rfl, hb⟩
    replace RX := RX.new hb
    replace RY := RY.new hb
    replace HB := bchain HB hb
    clear hb
    dsimp only [lnv]
    go_upto_region 2 with (refine wpList_store_row (by rfl) 213 _ _ (by rfl) w1.heap.size [.int .i64 r, .string b, .bool e, .bool k, .int .i64 wt, .int .i64 r2, .string b2, .bool e2, .bool k2, .int .i64 cm] (by rfl) (by rfl) 213 [.int .i64 0, .string ⟨#[]⟩, .bool false, .bool false, .int .i64 0, .int .i64 0, .string ⟨#[]⟩, .bool false, .bool false, .int .i64 0] (rowIs_new w1 213 [.int .i64 0, .string ⟨#[]⟩, .bool false, .bool false, .int .i64 0, .int .i64 0, .string ⟨#[]⟩, .bool false, .bool false, .int .i64 0]) (by kernel_rfl) rfl (by intro u hu; simp at hu; rcases hu with rfl | rfl | rfl | rfl | rfl | rfl | rfl | rfl | rfl | rfl <;> rfl) ?_)
    have RL : RowIs ((w1.alloc (.cells #[.int .i64 0, .string ⟨#[]⟩, .bool false, .bool false, .int .i64 0, .int .i64 0, .string ⟨#[]⟩, .bool false, .bool false, .int .i64 0] 213)).setRow w1.heap.size #[.int .i64 r, .string b, .bool e, .bool k, .int .i64 wt, .int .i64 r2, .string b2, .bool e2, .bool k2, .int .i64 cm]) w1.heap.size 213 [.int .i64 r, .string b, .bool e, .bool k, .int .i64 wt, .int .i64 r2, .string b2, .bool e2, .bool k2, .int .i64 cm] := rowIs_setRow (cs' := [.int .i64 r, .string b, .bool e, .bool k, .int .i64 wt, .int .i64 r2, .string b2, .bool e2, .bool k2, .int .i64 cm]) (rowIs_new w1 213 [.int .i64 0, .string ⟨#[]⟩, .bool false, .bool false, .int .i64 0, .int .i64 0, .string ⟨#[]⟩, .bool false, .bool false, .int .i64 0])
    have hbV : Below w1.heap.size w1 ((w1.alloc (.cells #[.int .i64 0, .string ⟨#[]⟩, .bool false, .bool false, .int .i64 0, .int .i64 0, .string ⟨#[]⟩, .bool false, .bool false, .int .i64 0] 213)).setRow w1.heap.size #[.int .i64 r, .string b, .bool e, .bool k, .int .i64 wt, .int .i64 r2, .string b2, .bool e2, .bool k2, .int .i64 cm]) := below_setRow ((Below.refl _ _).alloc (Nat.le_refl _) _) (Nat.le_refl _) #[.int .i64 r, .string b, .bool e, .bool k, .int .i64 wt, .int .i64 r2, .string b2, .bool e2, .bool k2, .int .i64 cm]
    have hgl : w.heap.size + 1 < w1.heap.size := RY.lt
    replace RX := RX.new hbV
    replace RY := RY.new hbV
    replace HB := bchain HB hbV
    clear hbV
    generalize hV : (w1.alloc (.cells #[.int .i64 0, .string ⟨#[]⟩, .bool false, .bool false, .int .i64 0, .int .i64 0, .string ⟨#[]⟩, .bool false, .bool false, .int .i64 0] 213)).setRow w1.heap.size #[.int .i64 r, .string b, .bool e, .bool k, .int .i64 wt, .int .i64 r2, .string b2, .bool e2, .bool k2, .int .i64 cm] = V0 at *
    clear hV
    generalize w1.heap.size = gL at *
    go_wp2_with (refine wpList_load_row (by rfl) 213 _ (by rfl) gL (by rfl) [.int .i64 r, .string b, .bool e, .bool k, .int .i64 wt, .int .i64 r2, .string b2, .bool e2, .bool k2, .int .i64 cm] _ 213 RL Tryz.underlying213 rfl (by kernel_rfl) ?_)
    refine (hri _).mono ?_; rintro x w2 ⟨rfl, hb⟩
    replace RX := RX.new hb
    replace RY := RY.new hb
    replace RL := RL.new hb
    replace HB := bchain HB hb
    clear hb
    go_wp2_with (refine wpList_store_row (by rfl) 87 _ _ (by rfl) (w.heap.size + 1) [.int .i64 0, .string ⟨#[]⟩, .bool false, .bool false, .int .i64 0, .string ⟨#[]⟩, .bool false, .bool false, .int .i64 0, .int .i64 0] (by rfl) (by rfl) 87 [.int .i64 0, .string ⟨#[]⟩, .bool false, .bool false, .int .i64 0, .string ⟨#[]⟩, .bool false, .bool false, .int .i64 0, .int .i64 0] RY (by kernel_rfl) rfl (by intro u hu; simp at hu; rcases hu with rfl | rfl | rfl | rfl | rfl | rfl | rfl | rfl | rfl | rfl <;> rfl) ?_)
    have NRX := RX.kept (setRow_other w2 (w.heap.size + 1) #[.int .i64 0, .string ⟨#[]⟩, .bool false, .bool false, .int .i64 0, .string ⟨#[]⟩, .bool false, .bool false, .int .i64 0, .int .i64 0] w.heap.size (by omega))
    have NRY : RowIs (w2.setRow (w.heap.size + 1) #[.int .i64 0, .string ⟨#[]⟩, .bool false, .bool false, .int .i64 0, .string ⟨#[]⟩, .bool false, .bool false, .int .i64 0, .int .i64 0]) (w.heap.size + 1) 87 [.int .i64 0, .string ⟨#[]⟩, .bool false, .bool false, .int .i64 0, .string ⟨#[]⟩, .bool false, .bool false, .int .i64 0, .int .i64 0] := rowIs_setRow (cs' := [.int .i64 0, .string ⟨#[]⟩, .bool false, .bool false, .int .i64 0, .string ⟨#[]⟩, .bool false, .bool false, .int .i64 0, .int .i64 0]) RY
    have NRL := RL.kept (setRow_other w2 (w.heap.size + 1) #[.int .i64 0, .string ⟨#[]⟩, .bool false, .bool false, .int .i64 0, .string ⟨#[]⟩, .bool false, .bool false, .int .i64 0, .int .i64 0] gL (by omega))
    have NHB := below_setRow HB (show w.heap.size ≤ (w.heap.size + 1) by omega) #[.int .i64 0, .string ⟨#[]⟩, .bool false, .bool false, .int .i64 0, .string ⟨#[]⟩, .bool false, .bool false, .int .i64 0, .int .i64 0]
    generalize hV : w2.setRow (w.heap.size + 1) #[.int .i64 0, .string ⟨#[]⟩, .bool false, .bool false, .int .i64 0, .string ⟨#[]⟩, .bool false, .bool false, .int .i64 0, .int .i64 0] = V3 at *
    clear hV
    clear RX
    have RX := NRX
    clear NRX
    clear RY
    have RY := NRY
    clear NRY
    clear RL
    have RL := NRL
    clear NRL
    clear HB
    have HB := NHB
    clear NHB
    have y0 := RowIs.cell (j := 0) RY rfl
    have y1 := RowIs.cell (j := 1) RY rfl
    have y2 := RowIs.cell (j := 2) RY rfl
    have y3 := RowIs.cell (j := 3) RY rfl
    have y4 := RowIs.cell (j := 4) RY rfl
    have y5 := RowIs.cell (j := 5) RY rfl
    have y6 := RowIs.cell (j := 6) RY rfl
    have y7 := RowIs.cell (j := 7) RY rfl
    have y8 := RowIs.cell (j := 8) RY rfl
    have y9 := RowIs.cell (j := 9) RY rfl
    have yf := fun j => RowIs.frozen RY j
    have yl := RY.lt
    refine bodyPost_ret (v := .tuple #[.agg #[.int .i64 0, .string ⟨#[]⟩, .bool false, .bool false, .int .i64 0, .string ⟨#[]⟩, .bool false, .bool false, .int .i64 0, .int .i64 0], .bool false]) (by simp [results, Tryz.results209, go_sem, *]) rfl ?_
    exact ⟨rfl, HB⟩
  rw [hk] at hri
  obtain ⟨W, hW⟩ : ∃ W, ((w.alloc (.cells #[.int .i64 r, .string b, .bool e, .bool k, .int .i64 r2, .string b2, .bool e2, .bool k2, .int .i64 wt, .int .i64 cm] 87)).alloc (.cells #[.int .i64 0, .string ⟨#[]⟩, .bool false, .bool false, .int .i64 0, .string ⟨#[]⟩, .bool false, .bool false, .int .i64 0, .int .i64 0] 87)) = W := ⟨_, rfl⟩
  have RX : RowIs W w.heap.size 87 [.int .i64 r, .string b, .bool e, .bool k, .int .i64 r2, .string b2, .bool e2, .bool k2, .int .i64 wt, .int .i64 cm] := by rw [← hW]; exact (rowIs_new w 87 [.int .i64 r, .string b, .bool e, .bool k, .int .i64 r2, .string b2, .bool e2, .bool k2, .int .i64 wt, .int .i64 cm]).alloc _
  have RY : RowIs W (w.heap.size + 1) 87 [.int .i64 0, .string ⟨#[]⟩, .bool false, .bool false, .int .i64 0, .string ⟨#[]⟩, .bool false, .bool false, .int .i64 0, .int .i64 0] := by have := rowIs_new (w.alloc (.cells #[.int .i64 r, .string b, .bool e, .bool k, .int .i64 r2, .string b2, .bool e2, .bool k2, .int .i64 wt, .int .i64 cm] 87)) 87 [.int .i64 0, .string ⟨#[]⟩, .bool false, .bool false, .int .i64 0, .string ⟨#[]⟩, .bool false, .bool false, .int .i64 0, .int .i64 0]; rw [hW] at this; simpa using this
  have HB : Below w.heap.size w W := by rw [← hW]; exact (((Below.refl _ _).alloc (Nat.le_refl _) _).alloc (by simp) _)
  obtain ⟨sz1, sz2⟩ := inTu_size ⟨⟨r, b, e, k⟩, ⟨r2, b2, e2, k2⟩, wt, cm⟩ s fin hk hs
  have hpt := fun (g : Nat) (u : World) (R : RowIs u g 213 (lncs ⟨⟨r, b, e, k⟩, ⟨r2, b2, e2, k2⟩, wt, cm⟩)) => takeIn16 ⟨⟨r, b, e, k⟩, ⟨r2, b2, e2, k2⟩, wt, cm⟩ s fin g u hk hs R
  obtain ⟨⟨⟨⟨ar, ab, ae, ak⟩, ⟨ar2, ab2, ae2, ak2⟩, awt, acm⟩, z⟩, hv⟩ : ∃ v, inTu ⟨⟨r, b, e, k⟩, ⟨r2, b2, e2, k2⟩, wt, cm⟩ s fin = v := ⟨_, rfl⟩
  rw [hv] at sz1 sz2 hpt
  rw [hv]
  clear hv
  dsimp only [lncs] at *
  go_enter Tryz.func209, Tryz.ntmps209
  go_wp2_with (refine wpList_load_row (by rfl) 87 _ (by rfl) w.heap.size (by rfl) [.int .i64 r, .string b, .bool e, .bool k, .int .i64 r2, .string b2, .bool e2, .bool k2, .int .i64 wt, .int .i64 cm] _ 87 RX Tryz.underlying87 rfl (by kernel_rfl) ?_)
  clear hW
  refine (lanes16 ⟨⟨r, b, e, k⟩, ⟨r2, b2, e2, k2⟩, wt, cm⟩ _).mono ?_; rintro x w1 ⟨rfl, hb⟩
  replace RX := RX.new hb
  replace RY := RY.new hb
  replace HB := bchain HB hb
  clear hb
  dsimp only [lnv]
  go_upto_region 2 with (refine wpList_store_row (by rfl) 213 _ _ (by rfl) w1.heap.size [.int .i64 r, .string b, .bool e, .bool k, .int .i64 wt, .int .i64 r2, .string b2, .bool e2, .bool k2, .int .i64 cm] (by rfl) (by rfl) 213 [.int .i64 0, .string ⟨#[]⟩, .bool false, .bool false, .int .i64 0, .int .i64 0, .string ⟨#[]⟩, .bool false, .bool false, .int .i64 0] (rowIs_new w1 213 [.int .i64 0, .string ⟨#[]⟩, .bool false, .bool false, .int .i64 0, .int .i64 0, .string ⟨#[]⟩, .bool false, .bool false, .int .i64 0]) (by kernel_rfl) rfl (by intro u hu; simp at hu; rcases hu with rfl | rfl | rfl | rfl | rfl | rfl | rfl | rfl | rfl | rfl <;> rfl) ?_)
  have RL : RowIs ((w1.alloc (.cells #[.int .i64 0, .string ⟨#[]⟩, .bool false, .bool false, .int .i64 0, .int .i64 0, .string ⟨#[]⟩, .bool false, .bool false, .int .i64 0] 213)).setRow w1.heap.size #[.int .i64 r, .string b, .bool e, .bool k, .int .i64 wt, .int .i64 r2, .string b2, .bool e2, .bool k2, .int .i64 cm]) w1.heap.size 213 [.int .i64 r, .string b, .bool e, .bool k, .int .i64 wt, .int .i64 r2, .string b2, .bool e2, .bool k2, .int .i64 cm] := rowIs_setRow (cs' := [.int .i64 r, .string b, .bool e, .bool k, .int .i64 wt, .int .i64 r2, .string b2, .bool e2, .bool k2, .int .i64 cm]) (rowIs_new w1 213 [.int .i64 0, .string ⟨#[]⟩, .bool false, .bool false, .int .i64 0, .int .i64 0, .string ⟨#[]⟩, .bool false, .bool false, .int .i64 0])
  have hbV : Below w1.heap.size w1 ((w1.alloc (.cells #[.int .i64 0, .string ⟨#[]⟩, .bool false, .bool false, .int .i64 0, .int .i64 0, .string ⟨#[]⟩, .bool false, .bool false, .int .i64 0] 213)).setRow w1.heap.size #[.int .i64 r, .string b, .bool e, .bool k, .int .i64 wt, .int .i64 r2, .string b2, .bool e2, .bool k2, .int .i64 cm]) := below_setRow ((Below.refl _ _).alloc (Nat.le_refl _) _) (Nat.le_refl _) #[.int .i64 r, .string b, .bool e, .bool k, .int .i64 wt, .int .i64 r2, .string b2, .bool e2, .bool k2, .int .i64 cm]
  have hgl : w.heap.size + 1 < w1.heap.size := RY.lt
  replace RX := RX.new hbV
  replace RY := RY.new hbV
  replace HB := bchain HB hbV
  clear hbV
  generalize hV : (w1.alloc (.cells #[.int .i64 0, .string ⟨#[]⟩, .bool false, .bool false, .int .i64 0, .int .i64 0, .string ⟨#[]⟩, .bool false, .bool false, .int .i64 0] 213)).setRow w1.heap.size #[.int .i64 r, .string b, .bool e, .bool k, .int .i64 wt, .int .i64 r2, .string b2, .bool e2, .bool k2, .int .i64 cm] = V0 at *
  clear hV
  generalize w1.heap.size = gL at *
  go_wp2_with (refine wpList_load_row (by rfl) 213 _ (by rfl) gL (by rfl) [.int .i64 r, .string b, .bool e, .bool k, .int .i64 wt, .int .i64 r2, .string b2, .bool e2, .bool k2, .int .i64 cm] _ 213 RL Tryz.underlying213 rfl (by kernel_rfl) ?_)
  refine (hri _).mono ?_; rintro x w2 ⟨rfl, hb⟩
  replace RX := RX.new hb
  replace RY := RY.new hb
  replace RL := RL.new hb
  replace HB := bchain HB hb
  clear hb
  go_wp2_with fail
  refine (hpt _ _ RL).mono ?_; rintro x w7 ⟨rfl, hr, ht⟩
  replace RX := RX.kept (ht.block _ RX.lt (by omega))
  replace RY := RY.kept (ht.block _ RY.lt (by omega))
  replace HB := HB.trans (ht.below (show w.heap.size ≤ gL by omega) HB.size)
  clear RL ht hpt
  have RL := hr
  clear hr
  go_wp2_with (refine wpList_load_row (by rfl) 213 _ (by rfl) gL (by rfl) [.int .i64 ar, .string ab, .bool ae, .bool ak, .int .i64 awt, .int .i64 ar2, .string ab2, .bool ae2, .bool ak2, .int .i64 acm] _ 213 RL Tryz.underlying213 rfl (by kernel_rfl) ?_)
  refine (lanesTunnel16 ⟨⟨ar, ab, ae, ak⟩, ⟨ar2, ab2, ae2, ak2⟩, awt, acm⟩ _ (by show ab.size ≤ _; omega) (by show ab2.size ≤ _; omega)).mono ?_; rintro x w3 ⟨rfl, hb⟩
  replace RX := RX.new hb
  replace RY := RY.new hb
  replace RL := RL.new hb
  replace HB := bchain HB hb
  clear hb
  dsimp only [tuv]
  go_wp2_with (refine wpList_store_row (by rfl) 87 _ _ (by rfl) (w.heap.size + 1) [.int .i64 ar, .string ab, .bool ae, .bool ak, .int .i64 ar2, .string ab2, .bool ae2, .bool ak2, .int .i64 awt, .int .i64 acm] (by rfl) (by rfl) 87 [.int .i64 0, .string ⟨#[]⟩, .bool false, .bool false, .int .i64 0, .string ⟨#[]⟩, .bool false, .bool false, .int .i64 0, .int .i64 0] RY (by kernel_rfl) rfl (by intro u hu; simp at hu; rcases hu with rfl | rfl | rfl | rfl | rfl | rfl | rfl | rfl | rfl | rfl <;> rfl) ?_)
  have NRX := RX.kept (setRow_other w3 (w.heap.size + 1) #[.int .i64 ar, .string ab, .bool ae, .bool ak, .int .i64 ar2, .string ab2, .bool ae2, .bool ak2, .int .i64 awt, .int .i64 acm] w.heap.size (by omega))
  have NRY : RowIs (w3.setRow (w.heap.size + 1) #[.int .i64 ar, .string ab, .bool ae, .bool ak, .int .i64 ar2, .string ab2, .bool ae2, .bool ak2, .int .i64 awt, .int .i64 acm]) (w.heap.size + 1) 87 [.int .i64 ar, .string ab, .bool ae, .bool ak, .int .i64 ar2, .string ab2, .bool ae2, .bool ak2, .int .i64 awt, .int .i64 acm] := rowIs_setRow (cs' := [.int .i64 ar, .string ab, .bool ae, .bool ak, .int .i64 ar2, .string ab2, .bool ae2, .bool ak2, .int .i64 awt, .int .i64 acm]) RY
  have NRL := RL.kept (setRow_other w3 (w.heap.size + 1) #[.int .i64 ar, .string ab, .bool ae, .bool ak, .int .i64 ar2, .string ab2, .bool ae2, .bool ak2, .int .i64 awt, .int .i64 acm] gL (by omega))
  have NHB := below_setRow HB (show w.heap.size ≤ (w.heap.size + 1) by omega) #[.int .i64 ar, .string ab, .bool ae, .bool ak, .int .i64 ar2, .string ab2, .bool ae2, .bool ak2, .int .i64 awt, .int .i64 acm]
  generalize hV : w3.setRow (w.heap.size + 1) #[.int .i64 ar, .string ab, .bool ae, .bool ak, .int .i64 ar2, .string ab2, .bool ae2, .bool ak2, .int .i64 awt, .int .i64 acm] = V4 at *
  clear hV
  clear RX
  have RX := NRX
  clear NRX
  clear RY
  have RY := NRY
  clear NRY
  clear RL
  have RL := NRL
  clear NRL
  clear HB
  have HB := NHB
  clear NHB
  have y0 := RowIs.cell (j := 0) RY rfl
  have y1 := RowIs.cell (j := 1) RY rfl
  have y2 := RowIs.cell (j := 2) RY rfl
  have y3 := RowIs.cell (j := 3) RY rfl
  have y4 := RowIs.cell (j := 4) RY rfl
  have y5 := RowIs.cell (j := 5) RY rfl
  have y6 := RowIs.cell (j := 6) RY rfl
  have y7 := RowIs.cell (j := 7) RY rfl
  have y8 := RowIs.cell (j := 8) RY rfl
  have y9 := RowIs.cell (j := 9) RY rfl
  have yf := fun j => RowIs.frozen RY j
  have yl := RY.lt
  refine bodyPost_ret (v := .tuple #[.agg #[.int .i64 ar, .string ab, .bool ae, .bool ak, .int .i64 ar2, .string ab2, .bool ae2, .bool ak2, .int .i64 awt, .int .i64 acm], .bool z]) (by simp [results, Tryz.results209, go_sem, *]) rfl ?_
  exact ⟨rfl, HB⟩
set_option maxHeartbeats 2000000 in
theorem implTorn (t : TuD) (w : World) (h1 : t.up.b.size ≤ maxLen) (h2 : t.dn.b.size ≤ maxLen) : Calls Tryz.prog 172 #[tuv t] w fun x w' => x = .returned (tuv (trnTu t)) ∧ Below w.heap.size w w' := by
  obtain ⟨⟨r, b, e, k⟩, ⟨r2, b2, e2, k2⟩, wt, cm⟩ := t
  dsimp only [tuv] at *
  have hri := fun (u : World) => lanesRight16 ⟨⟨r, b, e, k⟩, ⟨r2, b2, e2, k2⟩, wt, cm⟩ u h1 h2
  cases hk : okTu ⟨⟨r, b, e, k⟩, ⟨r2, b2, e2, k2⟩, wt, cm⟩
  · have hv : trnTu ⟨⟨r, b, e, k⟩, ⟨r2, b2, e2, k2⟩, wt, cm⟩ = zTu := by unfold trnTu; rw [if_pos hk]
    rw [hv]
    rw [hk] at hri
    dsimp only [zTu, zPp]
    obtain ⟨W, hW⟩ : ∃ W, ((w.alloc (.cells #[.int .i64 r, .string b, .bool e, .bool k, .int .i64 r2, .string b2, .bool e2, .bool k2, .int .i64 wt, .int .i64 cm] 87)).alloc (.cells #[.int .i64 0, .string ⟨#[]⟩, .bool false, .bool false, .int .i64 0, .string ⟨#[]⟩, .bool false, .bool false, .int .i64 0, .int .i64 0] 87)) = W := ⟨_, rfl⟩
    have RX : RowIs W w.heap.size 87 [.int .i64 r, .string b, .bool e, .bool k, .int .i64 r2, .string b2, .bool e2, .bool k2, .int .i64 wt, .int .i64 cm] := by rw [← hW]; exact (rowIs_new w 87 [.int .i64 r, .string b, .bool e, .bool k, .int .i64 r2, .string b2, .bool e2, .bool k2, .int .i64 wt, .int .i64 cm]).alloc _
    have RY : RowIs W (w.heap.size + 1) 87 [.int .i64 0, .string ⟨#[]⟩, .bool false, .bool false, .int .i64 0, .string ⟨#[]⟩, .bool false, .bool false, .int .i64 0, .int .i64 0] := by have := rowIs_new (w.alloc (.cells #[.int .i64 r, .string b, .bool e, .bool k, .int .i64 r2, .string b2, .bool e2, .bool k2, .int .i64 wt, .int .i64 cm] 87)) 87 [.int .i64 0, .string ⟨#[]⟩, .bool false, .bool false, .int .i64 0, .string ⟨#[]⟩, .bool false, .bool false, .int .i64 0, .int .i64 0]; rw [hW] at this; simpa using this
    have HB : Below w.heap.size w W := by rw [← hW]; exact (((Below.refl _ _).alloc (Nat.le_refl _) _).alloc (by simp) _)
    go_enter Tryz.func172, Tryz.ntmps172
    go_wp2_with (refine wpList_load_row (by rfl) 87 _ (by rfl) w.heap.size (by rfl) [.int .i64 r, .string b, .bool e, .bool k, .int .i64 r2, .string b2, .bool e2, .bool k2, .int .i64 wt, .int .i64 cm] _ 87 RX Tryz.underlying87 rfl (by kernel_rfl) ?_)
    clear hW
    refine (lanes16 ⟨⟨r, b, e, k⟩, ⟨r2, b2, e2, k2⟩, wt, cm⟩ _).mono ?_; rintro x w1 ⟨rfl, hb⟩
    replace RX := RX.new hb
    replace RY := RY.new hb
    replace HB := bchain HB hb
    clear hb
    dsimp only [lnv]
    go_upto_region 2 with (refine wpList_store_row (by rfl) 213 _ _ (by rfl) w1.heap.size [.int .i64 r, .string b, .bool e, .bool k, .int .i64 wt, .int .i64 r2, .string b2, .bool e2, .bool k2, .int .i64 cm] (by rfl) (by rfl) 213 [.int .i64 0, .string ⟨#[]⟩, .bool false, .bool false, .int .i64 0, .int .i64 0, .string ⟨#[]⟩, .bool false, .bool false, .int .i64 0] (rowIs_new w1 213 [.int .i64 0, .string ⟨#[]⟩, .bool false, .bool false, .int .i64 0, .int .i64 0, .string ⟨#[]⟩, .bool false, .bool false, .int .i64 0]) (by kernel_rfl) rfl (by intro u hu; simp at hu; rcases hu with rfl | rfl | rfl | rfl | rfl | rfl | rfl | rfl | rfl | rfl <;> rfl) ?_)
    have RL : RowIs ((w1.alloc (.cells #[.int .i64 0, .string ⟨#[]⟩, .bool false, .bool false, .int .i64 0, .int .i64 0, .string ⟨#[]⟩, .bool false, .bool false, .int .i64 0] 213)).setRow w1.heap.size #[.int .i64 r, .string b, .bool e, .bool k, .int .i64 wt, .int .i64 r2, .string b2, .bool e2, .bool k2, .int .i64 cm]) w1.heap.size 213 [.int .i64 r, .string b, .bool e, .bool k, .int .i64 wt, .int .i64 r2, .string b2, .bool e2, .bool k2, .int .i64 cm] := rowIs_setRow (cs' := [.int .i64 r, .string b, .bool e, .bool k, .int .i64 wt, .int .i64 r2, .string b2, .bool e2, .bool k2, .int .i64 cm]) (rowIs_new w1 213 [.int .i64 0, .string ⟨#[]⟩, .bool false, .bool false, .int .i64 0, .int .i64 0, .string ⟨#[]⟩, .bool false, .bool false, .int .i64 0])
    have hbV : Below w1.heap.size w1 ((w1.alloc (.cells #[.int .i64 0, .string ⟨#[]⟩, .bool false, .bool false, .int .i64 0, .int .i64 0, .string ⟨#[]⟩, .bool false, .bool false, .int .i64 0] 213)).setRow w1.heap.size #[.int .i64 r, .string b, .bool e, .bool k, .int .i64 wt, .int .i64 r2, .string b2, .bool e2, .bool k2, .int .i64 cm]) := below_setRow ((Below.refl _ _).alloc (Nat.le_refl _) _) (Nat.le_refl _) #[.int .i64 r, .string b, .bool e, .bool k, .int .i64 wt, .int .i64 r2, .string b2, .bool e2, .bool k2, .int .i64 cm]
    have hgl : w.heap.size + 1 < w1.heap.size := RY.lt
    replace RX := RX.new hbV
    replace RY := RY.new hbV
    replace HB := bchain HB hbV
    clear hbV
    generalize hV : (w1.alloc (.cells #[.int .i64 0, .string ⟨#[]⟩, .bool false, .bool false, .int .i64 0, .int .i64 0, .string ⟨#[]⟩, .bool false, .bool false, .int .i64 0] 213)).setRow w1.heap.size #[.int .i64 r, .string b, .bool e, .bool k, .int .i64 wt, .int .i64 r2, .string b2, .bool e2, .bool k2, .int .i64 cm] = V0 at *
    clear hV
    generalize w1.heap.size = gL at *
    go_wp2_with (refine wpList_load_row (by rfl) 213 _ (by rfl) gL (by rfl) [.int .i64 r, .string b, .bool e, .bool k, .int .i64 wt, .int .i64 r2, .string b2, .bool e2, .bool k2, .int .i64 cm] _ 213 RL Tryz.underlying213 rfl (by kernel_rfl) ?_)
    refine (hri _).mono ?_; rintro x w2 ⟨rfl, hb⟩
    replace RX := RX.new hb
    replace RY := RY.new hb
    replace RL := RL.new hb
    replace HB := bchain HB hb
    clear hb
    go_wp2_with (refine wpList_store_row (by rfl) 87 _ _ (by rfl) (w.heap.size + 1) [.int .i64 0, .string ⟨#[]⟩, .bool false, .bool false, .int .i64 0, .string ⟨#[]⟩, .bool false, .bool false, .int .i64 0, .int .i64 0] (by rfl) (by rfl) 87 [.int .i64 0, .string ⟨#[]⟩, .bool false, .bool false, .int .i64 0, .string ⟨#[]⟩, .bool false, .bool false, .int .i64 0, .int .i64 0] RY (by kernel_rfl) rfl (by intro u hu; simp at hu; rcases hu with rfl | rfl | rfl | rfl | rfl | rfl | rfl | rfl | rfl | rfl <;> rfl) ?_)
    have NRX := RX.kept (setRow_other w2 (w.heap.size + 1) #[.int .i64 0, .string ⟨#[]⟩, .bool false, .bool false, .int .i64 0, .string ⟨#[]⟩, .bool false, .bool false, .int .i64 0, .int .i64 0] w.heap.size (by omega))
    have NRY : RowIs (w2.setRow (w.heap.size + 1) #[.int .i64 0, .string ⟨#[]⟩, .bool false, .bool false, .int .i64 0, .string ⟨#[]⟩, .bool false, .bool false, .int .i64 0, .int .i64 0]) (w.heap.size + 1) 87 [.int .i64 0, .string ⟨#[]⟩, .bool false, .bool false, .int .i64 0, .string ⟨#[]⟩, .bool false, .bool false, .int .i64 0, .int .i64 0] := rowIs_setRow (cs' := [.int .i64 0, .string ⟨#[]⟩, .bool false, .bool false, .int .i64 0, .string ⟨#[]⟩, .bool false, .bool false, .int .i64 0, .int .i64 0]) RY
    have NRL := RL.kept (setRow_other w2 (w.heap.size + 1) #[.int .i64 0, .string ⟨#[]⟩, .bool false, .bool false, .int .i64 0, .string ⟨#[]⟩, .bool false, .bool false, .int .i64 0, .int .i64 0] gL (by omega))
    have NHB := below_setRow HB (show w.heap.size ≤ (w.heap.size + 1) by omega) #[.int .i64 0, .string ⟨#[]⟩, .bool false, .bool false, .int .i64 0, .string ⟨#[]⟩, .bool false, .bool false, .int .i64 0, .int .i64 0]
    generalize hV : w2.setRow (w.heap.size + 1) #[.int .i64 0, .string ⟨#[]⟩, .bool false, .bool false, .int .i64 0, .string ⟨#[]⟩, .bool false, .bool false, .int .i64 0, .int .i64 0] = V3 at *
    clear hV
    clear RX
    have RX := NRX
    clear NRX
    clear RY
    have RY := NRY
    clear NRY
    clear RL
    have RL := NRL
    clear NRL
    clear HB
    have HB := NHB
    clear NHB
    have y0 := RowIs.cell (j := 0) RY rfl
    have y1 := RowIs.cell (j := 1) RY rfl
    have y2 := RowIs.cell (j := 2) RY rfl
    have y3 := RowIs.cell (j := 3) RY rfl
    have y4 := RowIs.cell (j := 4) RY rfl
    have y5 := RowIs.cell (j := 5) RY rfl
    have y6 := RowIs.cell (j := 6) RY rfl
    have y7 := RowIs.cell (j := 7) RY rfl
    have y8 := RowIs.cell (j := 8) RY rfl
    have y9 := RowIs.cell (j := 9) RY rfl
    have yf := fun j => RowIs.frozen RY j
    have yl := RY.lt
    refine bodyPost_ret (v := .agg #[.int .i64 0, .string ⟨#[]⟩, .bool false, .bool false, .int .i64 0, .string ⟨#[]⟩, .bool false, .bool false, .int .i64 0, .int .i64 0]) (by simp [results, Tryz.results172, go_sem, *]) rfl ?_
    exact ⟨rfl, HB⟩
  have hv : trnTu ⟨⟨r, b, e, k⟩, ⟨r2, b2, e2, k2⟩, wt, cm⟩ = ⟨⟨r, ⟨#[]⟩, e, true⟩, ⟨r2, ⟨#[]⟩, e2, true⟩, wt, cm⟩ := by unfold trnTu; rw [if_neg (by rw [hk]; decide)]
  rw [hv]
  rw [hk] at hri
  dsimp only
  obtain ⟨W, hW⟩ : ∃ W, ((w.alloc (.cells #[.int .i64 r, .string b, .bool e, .bool k, .int .i64 r2, .string b2, .bool e2, .bool k2, .int .i64 wt, .int .i64 cm] 87)).alloc (.cells #[.int .i64 0, .string ⟨#[]⟩, .bool false, .bool false, .int .i64 0, .string ⟨#[]⟩, .bool false, .bool false, .int .i64 0, .int .i64 0] 87)) = W := ⟨_, rfl⟩
  have RX : RowIs W w.heap.size 87 [.int .i64 r, .string b, .bool e, .bool k, .int .i64 r2, .string b2, .bool e2, .bool k2, .int .i64 wt, .int .i64 cm] := by rw [← hW]; exact (rowIs_new w 87 [.int .i64 r, .string b, .bool e, .bool k, .int .i64 r2, .string b2, .bool e2, .bool k2, .int .i64 wt, .int .i64 cm]).alloc _
  have RY : RowIs W (w.heap.size + 1) 87 [.int .i64 0, .string ⟨#[]⟩, .bool false, .bool false, .int .i64 0, .string ⟨#[]⟩, .bool false, .bool false, .int .i64 0, .int .i64 0] := by have := rowIs_new (w.alloc (.cells #[.int .i64 r, .string b, .bool e, .bool k, .int .i64 r2, .string b2, .bool e2, .bool k2, .int .i64 wt, .int .i64 cm] 87)) 87 [.int .i64 0, .string ⟨#[]⟩, .bool false, .bool false, .int .i64 0, .string ⟨#[]⟩, .bool false, .bool false, .int .i64 0, .int .i64 0]; rw [hW] at this; simpa using this
  have HB : Below w.heap.size w W := by rw [← hW]; exact (((Below.refl _ _).alloc (Nat.le_refl _) _).alloc (by simp) _)
  go_enter Tryz.func172, Tryz.ntmps172
  go_wp2_with (refine wpList_load_row (by rfl) 87 _ (by rfl) w.heap.size (by rfl) [.int .i64 r, .string b, .bool e, .bool k, .int .i64 r2, .string b2, .bool e2, .bool k2, .int .i64 wt, .int .i64 cm] _ 87 RX Tryz.underlying87 rfl (by kernel_rfl) ?_)
  clear hW
  refine (lanes16 ⟨⟨r, b, e, k⟩, ⟨r2, b2, e2, k2⟩, wt, cm⟩ _).mono ?_; rintro x w1 ⟨rfl, hb⟩
  replace RX := RX.new hb
  replace RY := RY.new hb
  replace HB := bchain HB hb
  clear hb
  dsimp only [lnv]
  go_upto_region 2 with (refine wpList_store_row (by rfl) 213 _ _ (by rfl) w1.heap.size [.int .i64 r, .string b, .bool e, .bool k, .int .i64 wt, .int .i64 r2, .string b2, .bool e2, .bool k2, .int .i64 cm] (by rfl) (by rfl) 213 [.int .i64 0, .string ⟨#[]⟩, .bool false, .bool false, .int .i64 0, .int .i64 0, .string ⟨#[]⟩, .bool false, .bool false, .int .i64 0] (rowIs_new w1 213 [.int .i64 0, .string ⟨#[]⟩, .bool false, .bool false, .int .i64 0, .int .i64 0, .string ⟨#[]⟩, .bool false, .bool false, .int .i64 0]) (by kernel_rfl) rfl (by intro u hu; simp at hu; rcases hu with rfl | rfl | rfl | rfl | rfl | rfl | rfl | rfl | rfl | rfl <;> rfl) ?_)
  have RL : RowIs ((w1.alloc (.cells #[.int .i64 0, .string ⟨#[]⟩, .bool false, .bool false, .int .i64 0, .int .i64 0, .string ⟨#[]⟩, .bool false, .bool false, .int .i64 0] 213)).setRow w1.heap.size #[.int .i64 r, .string b, .bool e, .bool k, .int .i64 wt, .int .i64 r2, .string b2, .bool e2, .bool k2, .int .i64 cm]) w1.heap.size 213 [.int .i64 r, .string b, .bool e, .bool k, .int .i64 wt, .int .i64 r2, .string b2, .bool e2, .bool k2, .int .i64 cm] := rowIs_setRow (cs' := [.int .i64 r, .string b, .bool e, .bool k, .int .i64 wt, .int .i64 r2, .string b2, .bool e2, .bool k2, .int .i64 cm]) (rowIs_new w1 213 [.int .i64 0, .string ⟨#[]⟩, .bool false, .bool false, .int .i64 0, .int .i64 0, .string ⟨#[]⟩, .bool false, .bool false, .int .i64 0])
  have hbV : Below w1.heap.size w1 ((w1.alloc (.cells #[.int .i64 0, .string ⟨#[]⟩, .bool false, .bool false, .int .i64 0, .int .i64 0, .string ⟨#[]⟩, .bool false, .bool false, .int .i64 0] 213)).setRow w1.heap.size #[.int .i64 r, .string b, .bool e, .bool k, .int .i64 wt, .int .i64 r2, .string b2, .bool e2, .bool k2, .int .i64 cm]) := below_setRow ((Below.refl _ _).alloc (Nat.le_refl _) _) (Nat.le_refl _) #[.int .i64 r, .string b, .bool e, .bool k, .int .i64 wt, .int .i64 r2, .string b2, .bool e2, .bool k2, .int .i64 cm]
  have hgl : w.heap.size + 1 < w1.heap.size := RY.lt
  replace RX := RX.new hbV
  replace RY := RY.new hbV
  replace HB := bchain HB hbV
  clear hbV
  generalize hV : (w1.alloc (.cells #[.int .i64 0, .string ⟨#[]⟩, .bool false, .bool false, .int .i64 0, .int .i64 0, .string ⟨#[]⟩, .bool false, .bool false, .int .i64 0] 213)).setRow w1.heap.size #[.int .i64 r, .string b, .bool e, .bool k, .int .i64 wt, .int .i64 r2, .string b2, .bool e2, .bool k2, .int .i64 cm] = V0 at *
  clear hV
  generalize w1.heap.size = gL at *
  go_wp2_with (refine wpList_load_row (by rfl) 213 _ (by rfl) gL (by rfl) [.int .i64 r, .string b, .bool e, .bool k, .int .i64 wt, .int .i64 r2, .string b2, .bool e2, .bool k2, .int .i64 cm] _ 213 RL Tryz.underlying213 rfl (by kernel_rfl) ?_)
  refine (hri _).mono ?_; rintro x w2 ⟨rfl, hb⟩
  replace RX := RX.new hb
  replace RY := RY.new hb
  replace RL := RL.new hb
  replace HB := bchain HB hb
  clear hb
  have z0 := RowIs.cell (j := 0) RL rfl
  have z1 := RowIs.cell (j := 1) RL rfl
  have z2 := RowIs.cell (j := 2) RL rfl
  have z3 := RowIs.cell (j := 3) RL rfl
  have zf := fun j => RowIs.frozen RL j
  have zl := RL.lt
  go_wp2_with fail
  clear z0 z1 z2 z3 zf zl
  refine (tear r b e k _).mono ?_; rintro x w3 ⟨rfl, hb⟩
  replace RX := RX.new hb
  replace RY := RY.new hb
  replace RL := RL.new hb
  replace HB := bchain HB hb
  clear hb
  have z0 := RowIs.cell (j := 0) RL rfl
  have z1 := RowIs.cell (j := 1) RL rfl
  have z2 := RowIs.cell (j := 2) RL rfl
  have z3 := RowIs.cell (j := 3) RL rfl
  have zf := fun j => RowIs.frozen RL j
  have zl := RL.lt
  go_upto_region 5 with fail
  clear z0 z1 z2 z3 zf zl
  have NRX : RowIs ((((w3.setCell ⟨gL, 0, none⟩ (.int .i64 r)).setCell ⟨gL, 1, none⟩ (.string ⟨#[]⟩)).setCell ⟨gL, 2, none⟩ (.bool e)).setCell ⟨gL, 3, none⟩ (.bool true)) w.heap.size 87 [.int .i64 r, .string b, .bool e, .bool k, .int .i64 r2, .string b2, .bool e2, .bool k2, .int .i64 wt, .int .i64 cm] := ((((RX.far ⟨gL, 0, none⟩ (.int .i64 r) (show gL ≠ w.heap.size by omega)).far ⟨gL, 1, none⟩ (.string ⟨#[]⟩) (show gL ≠ w.heap.size by omega)).far ⟨gL, 2, none⟩ (.bool e) (show gL ≠ w.heap.size by omega)).far ⟨gL, 3, none⟩ (.bool true) (show gL ≠ w.heap.size by omega))
  have NRY : RowIs ((((w3.setCell ⟨gL, 0, none⟩ (.int .i64 r)).setCell ⟨gL, 1, none⟩ (.string ⟨#[]⟩)).setCell ⟨gL, 2, none⟩ (.bool e)).setCell ⟨gL, 3, none⟩ (.bool true)) (w.heap.size + 1) 87 [.int .i64 0, .string ⟨#[]⟩, .bool false, .bool false, .int .i64 0, .string ⟨#[]⟩, .bool false, .bool false, .int .i64 0, .int .i64 0] := ((((RY.far ⟨gL, 0, none⟩ (.int .i64 r) (show gL ≠ (w.heap.size + 1) by omega)).far ⟨gL, 1, none⟩ (.string ⟨#[]⟩) (show gL ≠ (w.heap.size + 1) by omega)).far ⟨gL, 2, none⟩ (.bool e) (show gL ≠ (w.heap.size + 1) by omega)).far ⟨gL, 3, none⟩ (.bool true) (show gL ≠ (w.heap.size + 1) by omega))
  have NRL : RowIs ((((w3.setCell ⟨gL, 0, none⟩ (.int .i64 r)).setCell ⟨gL, 1, none⟩ (.string ⟨#[]⟩)).setCell ⟨gL, 2, none⟩ (.bool e)).setCell ⟨gL, 3, none⟩ (.bool true)) gL 213 [.int .i64 r, .string ⟨#[]⟩, .bool e, .bool true, .int .i64 wt, .int .i64 r2, .string b2, .bool e2, .bool k2, .int .i64 cm] := ((((RL.set 0 (.int .i64 r)).set 1 (.string ⟨#[]⟩)).set 2 (.bool e)).set 3 (.bool true))
  have NHB := ((((HB.setCell (p := ⟨gL, 0, none⟩) (show w.heap.size ≤ gL by omega) (.int .i64 r)).setCell (p := ⟨gL, 1, none⟩) (show w.heap.size ≤ gL by omega) (.string ⟨#[]⟩)).setCell (p := ⟨gL, 2, none⟩) (show w.heap.size ≤ gL by omega) (.bool e)).setCell (p := ⟨gL, 3, none⟩) (show w.heap.size ≤ gL by omega) (.bool true))
  generalize hV : ((((w3.setCell ⟨gL, 0, none⟩ (.int .i64 r)).setCell ⟨gL, 1, none⟩ (.string ⟨#[]⟩)).setCell ⟨gL, 2, none⟩ (.bool e)).setCell ⟨gL, 3, none⟩ (.bool true)) = V4 at *
  clear hV
  clear RX
  have RX := NRX
  clear NRX
  clear RY
  have RY := NRY
  clear NRY
  clear RL
  have RL := NRL
  clear NRL
  clear HB
  have HB := NHB
  clear NHB
  have z5 := RowIs.cell (j := 5) RL rfl
  have z6 := RowIs.cell (j := 6) RL rfl
  have z7 := RowIs.cell (j := 7) RL rfl
  have z8 := RowIs.cell (j := 8) RL rfl
  have zf := fun j => RowIs.frozen RL j
  have zl := RL.lt
  go_wp2_with fail
  clear z5 z6 z7 z8 zf zl
  refine (tear r2 b2 e2 k2 _).mono ?_; rintro x w5 ⟨rfl, hb⟩
  replace RX := RX.new hb
  replace RY := RY.new hb
  replace RL := RL.new hb
  replace HB := bchain HB hb
  clear hb
  have z5 := RowIs.cell (j := 5) RL rfl
  have z6 := RowIs.cell (j := 6) RL rfl
  have z7 := RowIs.cell (j := 7) RL rfl
  have z8 := RowIs.cell (j := 8) RL rfl
  have zf := fun j => RowIs.frozen RL j
  have zl := RL.lt
  go_upto_region 6 with fail
  clear z5 z6 z7 z8 zf zl
  have NRX : RowIs ((((w5.setCell ⟨gL, 5, none⟩ (.int .i64 r2)).setCell ⟨gL, 6, none⟩ (.string ⟨#[]⟩)).setCell ⟨gL, 7, none⟩ (.bool e2)).setCell ⟨gL, 8, none⟩ (.bool true)) w.heap.size 87 [.int .i64 r, .string b, .bool e, .bool k, .int .i64 r2, .string b2, .bool e2, .bool k2, .int .i64 wt, .int .i64 cm] := ((((RX.far ⟨gL, 5, none⟩ (.int .i64 r2) (show gL ≠ w.heap.size by omega)).far ⟨gL, 6, none⟩ (.string ⟨#[]⟩) (show gL ≠ w.heap.size by omega)).far ⟨gL, 7, none⟩ (.bool e2) (show gL ≠ w.heap.size by omega)).far ⟨gL, 8, none⟩ (.bool true) (show gL ≠ w.heap.size by omega))
  have NRY : RowIs ((((w5.setCell ⟨gL, 5, none⟩ (.int .i64 r2)).setCell ⟨gL, 6, none⟩ (.string ⟨#[]⟩)).setCell ⟨gL, 7, none⟩ (.bool e2)).setCell ⟨gL, 8, none⟩ (.bool true)) (w.heap.size + 1) 87 [.int .i64 0, .string ⟨#[]⟩, .bool false, .bool false, .int .i64 0, .string ⟨#[]⟩, .bool false, .bool false, .int .i64 0, .int .i64 0] := ((((RY.far ⟨gL, 5, none⟩ (.int .i64 r2) (show gL ≠ (w.heap.size + 1) by omega)).far ⟨gL, 6, none⟩ (.string ⟨#[]⟩) (show gL ≠ (w.heap.size + 1) by omega)).far ⟨gL, 7, none⟩ (.bool e2) (show gL ≠ (w.heap.size + 1) by omega)).far ⟨gL, 8, none⟩ (.bool true) (show gL ≠ (w.heap.size + 1) by omega))
  have NRL : RowIs ((((w5.setCell ⟨gL, 5, none⟩ (.int .i64 r2)).setCell ⟨gL, 6, none⟩ (.string ⟨#[]⟩)).setCell ⟨gL, 7, none⟩ (.bool e2)).setCell ⟨gL, 8, none⟩ (.bool true)) gL 213 [.int .i64 r, .string ⟨#[]⟩, .bool e, .bool true, .int .i64 wt, .int .i64 r2, .string ⟨#[]⟩, .bool e2, .bool true, .int .i64 cm] := ((((RL.set 5 (.int .i64 r2)).set 6 (.string ⟨#[]⟩)).set 7 (.bool e2)).set 8 (.bool true))
  have NHB := ((((HB.setCell (p := ⟨gL, 5, none⟩) (show w.heap.size ≤ gL by omega) (.int .i64 r2)).setCell (p := ⟨gL, 6, none⟩) (show w.heap.size ≤ gL by omega) (.string ⟨#[]⟩)).setCell (p := ⟨gL, 7, none⟩) (show w.heap.size ≤ gL by omega) (.bool e2)).setCell (p := ⟨gL, 8, none⟩) (show w.heap.size ≤ gL by omega) (.bool true))
  generalize hV : ((((w5.setCell ⟨gL, 5, none⟩ (.int .i64 r2)).setCell ⟨gL, 6, none⟩ (.string ⟨#[]⟩)).setCell ⟨gL, 7, none⟩ (.bool e2)).setCell ⟨gL, 8, none⟩ (.bool true)) = V6 at *
  clear hV
  clear RX
  have RX := NRX
  clear NRX
  clear RY
  have RY := NRY
  clear NRY
  clear RL
  have RL := NRL
  clear NRL
  clear HB
  have HB := NHB
  clear NHB
  go_wp2_with (refine wpList_load_row (by rfl) 213 _ (by rfl) gL (by rfl) [.int .i64 r, .string ⟨#[]⟩, .bool e, .bool true, .int .i64 wt, .int .i64 r2, .string ⟨#[]⟩, .bool e2, .bool true, .int .i64 cm] _ 213 RL Tryz.underlying213 rfl (by kernel_rfl) ?_)
  refine (lanesTunnel16 ⟨⟨r, ⟨#[]⟩, e, true⟩, ⟨r2, ⟨#[]⟩, e2, true⟩, wt, cm⟩ _ (by show ByteArray.size ⟨#[]⟩ ≤ _; decide) (by show ByteArray.size ⟨#[]⟩ ≤ _; decide)).mono ?_; rintro x w7 ⟨rfl, hb⟩
  replace RX := RX.new hb
  replace RY := RY.new hb
  replace RL := RL.new hb
  replace HB := bchain HB hb
  clear hb
  dsimp only [tuv]
  go_wp2_with (refine wpList_store_row (by rfl) 87 _ _ (by rfl) (w.heap.size + 1) [.int .i64 r, .string ⟨#[]⟩, .bool e, .bool true, .int .i64 r2, .string ⟨#[]⟩, .bool e2, .bool true, .int .i64 wt, .int .i64 cm] (by rfl) (by rfl) 87 [.int .i64 0, .string ⟨#[]⟩, .bool false, .bool false, .int .i64 0, .string ⟨#[]⟩, .bool false, .bool false, .int .i64 0, .int .i64 0] RY (by kernel_rfl) rfl (by intro u hu; simp at hu; rcases hu with rfl | rfl | rfl | rfl | rfl | rfl | rfl | rfl | rfl | rfl <;> rfl) ?_)
  have NRX := RX.kept (setRow_other w7 (w.heap.size + 1) #[.int .i64 r, .string ⟨#[]⟩, .bool e, .bool true, .int .i64 r2, .string ⟨#[]⟩, .bool e2, .bool true, .int .i64 wt, .int .i64 cm] w.heap.size (by omega))
  have NRY : RowIs (w7.setRow (w.heap.size + 1) #[.int .i64 r, .string ⟨#[]⟩, .bool e, .bool true, .int .i64 r2, .string ⟨#[]⟩, .bool e2, .bool true, .int .i64 wt, .int .i64 cm]) (w.heap.size + 1) 87 [.int .i64 r, .string ⟨#[]⟩, .bool e, .bool true, .int .i64 r2, .string ⟨#[]⟩, .bool e2, .bool true, .int .i64 wt, .int .i64 cm] := rowIs_setRow (cs' := [.int .i64 r, .string ⟨#[]⟩, .bool e, .bool true, .int .i64 r2, .string ⟨#[]⟩, .bool e2, .bool true, .int .i64 wt, .int .i64 cm]) RY
  have NRL := RL.kept (setRow_other w7 (w.heap.size + 1) #[.int .i64 r, .string ⟨#[]⟩, .bool e, .bool true, .int .i64 r2, .string ⟨#[]⟩, .bool e2, .bool true, .int .i64 wt, .int .i64 cm] gL (by omega))
  have NHB := below_setRow HB (show w.heap.size ≤ (w.heap.size + 1) by omega) #[.int .i64 r, .string ⟨#[]⟩, .bool e, .bool true, .int .i64 r2, .string ⟨#[]⟩, .bool e2, .bool true, .int .i64 wt, .int .i64 cm]
  generalize hV : w7.setRow (w.heap.size + 1) #[.int .i64 r, .string ⟨#[]⟩, .bool e, .bool true, .int .i64 r2, .string ⟨#[]⟩, .bool e2, .bool true, .int .i64 wt, .int .i64 cm] = V8 at *
  clear hV
  clear RX
  have RX := NRX
  clear NRX
  clear RY
  have RY := NRY
  clear NRY
  clear RL
  have RL := NRL
  clear NRL
  clear HB
  have HB := NHB
  clear NHB
  have y0 := RowIs.cell (j := 0) RY rfl
  have y1 := RowIs.cell (j := 1) RY rfl
  have y2 := RowIs.cell (j := 2) RY rfl
  have y3 := RowIs.cell (j := 3) RY rfl
  have y4 := RowIs.cell (j := 4) RY rfl
  have y5 := RowIs.cell (j := 5) RY rfl
  have y6 := RowIs.cell (j := 6) RY rfl
  have y7 := RowIs.cell (j := 7) RY rfl
  have y8 := RowIs.cell (j := 8) RY rfl
  have y9 := RowIs.cell (j := 9) RY rfl
  have yf := fun j => RowIs.frozen RY j
  have yl := RY.lt
  refine bodyPost_ret (v := .agg #[.int .i64 r, .string ⟨#[]⟩, .bool e, .bool true, .int .i64 r2, .string ⟨#[]⟩, .bool e2, .bool true, .int .i64 wt, .int .i64 cm]) (by simp [results, Tryz.results172, go_sem, *]) rfl ?_
  exact ⟨rfl, HB⟩
set_option maxHeartbeats 2000000 in
theorem implNewTunnel (r : Int) (w : World) : Calls Tryz.prog 216 #[.int .i64 r] w fun x w' => x = .returned (.tuple #[tuv (newTu r).1, .bool (newTu r).2]) ∧ Below w.heap.size w w' := by
  cases hk : newB r
  · have hv : newTu r = (zTu, false) := by unfold newTu; rw [if_neg (by rw [hk]; decide)]
    rw [hv]
    dsimp only [tuv, zTu, zPp]
    have hcl := implNew r (w.alloc (.cells #[.int .i64 0, .string ⟨#[]⟩, .bool false, .bool false, .int .i64 0, .string ⟨#[]⟩, .bool false, .bool false, .int .i64 0, .int .i64 0] 87))
    rw [hk] at hcl
    have RY := rowIs_new w 87 [.int .i64 0, .string ⟨#[]⟩, .bool false, .bool false, .int .i64 0, .string ⟨#[]⟩, .bool false, .bool false, .int .i64 0, .int .i64 0]
    have HB : Below w.heap.size w (w.alloc (.cells #[.int .i64 0, .string ⟨#[]⟩, .bool false, .bool false, .int .i64 0, .string ⟨#[]⟩, .bool false, .bool false, .int .i64 0, .int .i64 0] 87)) := (Below.refl _ _).alloc (Nat.le_refl _) _
    go_enter Tryz.func216, Tryz.ntmps216
    go_wp2_with fail
    refine hcl.mono ?_; clear hcl; rintro x w1 ⟨rfl, hb⟩
    replace RY := RY.new hb
    replace HB := bchain HB hb
    clear hb
    go_upto_region 2 with fail
    have hly := RY.lt
    obtain ⟨gRP, hgRP⟩ : ∃ g, g = w1.heap.size := ⟨_, rfl⟩
    have hltRYRP : w.heap.size < gRP := by have := RY.lt; omega
    have hleRP : w.heap.size ≤ gRP := by have := HB.size; omega
    have hbV : Below w1.heap.size w1 (w1.alloc (.cells #[.int .i64 0, .string ⟨#[]⟩, .bool false, .bool false] 85)) := (Below.refl _ _).alloc (Nat.le_refl _) _
    have RP : RowIs (w1.alloc (.cells #[.int .i64 0, .string ⟨#[]⟩, .bool false, .bool false] 85)) w1.heap.size 85 [.int .i64 0, .string ⟨#[]⟩, .bool false, .bool false] := rowIs_new w1 _ _
    replace RY := RY.new hbV
    replace HB := bchain HB hbV
    clear hbV
    rw [← hgRP] at RP
    try rw [← hgRP]
    generalize hV : w1.alloc (.cells #[.int .i64 0, .string ⟨#[]⟩, .bool false, .bool false] 85) = V2 at *
    clear hV hgRP
    go_wp2_with (refine wpList_store_row (by rfl) 87 _ _ (by rfl) w.heap.size [.int .i64 0, .string ⟨#[]⟩, .bool false, .bool false, .int .i64 0, .string ⟨#[]⟩, .bool false, .bool false, .int .i64 0, .int .i64 0] (by rfl) (by rfl) 87 [.int .i64 0, .string ⟨#[]⟩, .bool false, .bool false, .int .i64 0, .string ⟨#[]⟩, .bool false, .bool false, .int .i64 0, .int .i64 0] RY (by kernel_rfl) rfl (by intro u hu; simp at hu; rcases hu with rfl | rfl | rfl | rfl | rfl | rfl | rfl | rfl | rfl | rfl <;> rfl) ?_)
    have NRY : RowIs (V2.setRow w.heap.size #[.int .i64 0, .string ⟨#[]⟩, .bool false, .bool false, .int .i64 0, .string ⟨#[]⟩, .bool false, .bool false, .int .i64 0, .int .i64 0]) w.heap.size 87 [.int .i64 0, .string ⟨#[]⟩, .bool false, .bool false, .int .i64 0, .string ⟨#[]⟩, .bool false, .bool false, .int .i64 0, .int .i64 0] := rowIs_setRow (cs' := [.int .i64 0, .string ⟨#[]⟩, .bool false, .bool false, .int .i64 0, .string ⟨#[]⟩, .bool false, .bool false, .int .i64 0, .int .i64 0]) RY
    have NRP := RP.kept (setRow_other V2 w.heap.size #[.int .i64 0, .string ⟨#[]⟩, .bool false, .bool false, .int .i64 0, .string ⟨#[]⟩, .bool false, .bool false, .int .i64 0, .int .i64 0] gRP (by omega))
    have NHB := below_setRow HB (show w.heap.size ≤ w.heap.size by omega) #[.int .i64 0, .string ⟨#[]⟩, .bool false, .bool false, .int .i64 0, .string ⟨#[]⟩, .bool false, .bool false, .int .i64 0, .int .i64 0]
    generalize hV : V2.setRow w.heap.size #[.int .i64 0, .string ⟨#[]⟩, .bool false, .bool false, .int .i64 0, .string ⟨#[]⟩, .bool false, .bool false, .int .i64 0, .int .i64 0] = V3 at *
    clear hV
    clear RY
    have RY := NRY
    clear NRY
    clear RP
    have RP := NRP
    clear NRP
    clear HB
    have HB := NHB
    clear NHB
    have y0 := RowIs.cell (j := 0) RY rfl
    have y1 := RowIs.cell (j := 1) RY rfl
    have y2 := RowIs.cell (j := 2) RY rfl
    have y3 := RowIs.cell (j := 3) RY rfl
    have y4 := RowIs.cell (j := 4) RY rfl
    have y5 := RowIs.cell (j := 5) RY rfl
    have y6 := RowIs.cell (j := 6) RY rfl
    have y7 := RowIs.cell (j := 7) RY rfl
    have y8 := RowIs.cell (j := 8) RY rfl
    have y9 := RowIs.cell (j := 9) RY rfl
    have yf := fun j => RowIs.frozen RY j
    have yl := RY.lt
    refine bodyPost_ret (v := .tuple #[.agg #[.int .i64 0, .string ⟨#[]⟩, .bool false, .bool false, .int .i64 0, .string ⟨#[]⟩, .bool false, .bool false, .int .i64 0, .int .i64 0], .bool false]) (by simp [results, Tryz.results216, go_sem, *]) rfl ?_
    exact ⟨rfl, HB⟩
  have hv : newTu r = (⟨⟨r, ⟨#[]⟩, false, false⟩, ⟨r, ⟨#[]⟩, false, false⟩, 0, 0⟩, true) := by unfold newTu; rw [if_pos hk]
  rw [hv]
  dsimp only [tuv]
  have hcl := implNew r (w.alloc (.cells #[.int .i64 0, .string ⟨#[]⟩, .bool false, .bool false, .int .i64 0, .string ⟨#[]⟩, .bool false, .bool false, .int .i64 0, .int .i64 0] 87))
  rw [hk] at hcl
  have RY := rowIs_new w 87 [.int .i64 0, .string ⟨#[]⟩, .bool false, .bool false, .int .i64 0, .string ⟨#[]⟩, .bool false, .bool false, .int .i64 0, .int .i64 0]
  have HB : Below w.heap.size w (w.alloc (.cells #[.int .i64 0, .string ⟨#[]⟩, .bool false, .bool false, .int .i64 0, .string ⟨#[]⟩, .bool false, .bool false, .int .i64 0, .int .i64 0] 87)) := (Below.refl _ _).alloc (Nat.le_refl _) _
  go_enter Tryz.func216, Tryz.ntmps216
  go_wp2_with fail
  refine hcl.mono ?_; clear hcl; rintro x w1 ⟨rfl, hb⟩
  replace RY := RY.new hb
  replace HB := bchain HB hb
  clear hb
  go_upto_region 2 with fail
  have hly := RY.lt
  obtain ⟨gRP, hgRP⟩ : ∃ g, g = w1.heap.size := ⟨_, rfl⟩
  have hltRYRP : w.heap.size < gRP := by have := RY.lt; omega
  have hleRP : w.heap.size ≤ gRP := by have := HB.size; omega
  have hbV : Below w1.heap.size w1 (w1.alloc (.cells #[.int .i64 r, .string ⟨#[]⟩, .bool false, .bool false] 85)) := (Below.refl _ _).alloc (Nat.le_refl _) _
  have RP : RowIs (w1.alloc (.cells #[.int .i64 r, .string ⟨#[]⟩, .bool false, .bool false] 85)) w1.heap.size 85 [.int .i64 r, .string ⟨#[]⟩, .bool false, .bool false] := rowIs_new w1 _ _
  replace RY := RY.new hbV
  replace HB := bchain HB hbV
  clear hbV
  rw [← hgRP] at RP
  try rw [← hgRP]
  generalize hV : w1.alloc (.cells #[.int .i64 r, .string ⟨#[]⟩, .bool false, .bool false] 85) = V2 at *
  clear hV hgRP
  have p0 := RowIs.cell (j := 0) RP rfl
  have p1 := RowIs.cell (j := 1) RP rfl
  have p2 := RowIs.cell (j := 2) RP rfl
  have p3 := RowIs.cell (j := 3) RP rfl
  have pf := fun j => RowIs.frozen RP j
  have pl := RP.lt
  go_wp2_with (refine wpList_store_row (by rfl) 87 _ _ (by rfl) w.heap.size [.int .i64 r, .string ⟨#[]⟩, .bool false, .bool false, .int .i64 r, .string ⟨#[]⟩, .bool false, .bool false, .int .i64 0, .int .i64 0] (by rfl) (by rfl) 87 [.int .i64 0, .string ⟨#[]⟩, .bool false, .bool false, .int .i64 0, .string ⟨#[]⟩, .bool false, .bool false, .int .i64 0, .int .i64 0] RY (by kernel_rfl) rfl (by intro u hu; simp at hu; rcases hu with rfl | rfl | rfl | rfl | rfl | rfl | rfl | rfl | rfl | rfl <;> rfl) ?_)
  clear p0 p1 p2 p3 pf pl
  have NRY : RowIs (V2.setRow w.heap.size #[.int .i64 r, .string ⟨#[]⟩, .bool false, .bool false, .int .i64 r, .string ⟨#[]⟩, .bool false, .bool false, .int .i64 0, .int .i64 0]) w.heap.size 87 [.int .i64 r, .string ⟨#[]⟩, .bool false, .bool false, .int .i64 r, .string ⟨#[]⟩, .bool false, .bool false, .int .i64 0, .int .i64 0] := rowIs_setRow (cs' := [.int .i64 r, .string ⟨#[]⟩, .bool false, .bool false, .int .i64 r, .string ⟨#[]⟩, .bool false, .bool false, .int .i64 0, .int .i64 0]) RY
  have NRP := RP.kept (setRow_other V2 w.heap.size #[.int .i64 r, .string ⟨#[]⟩, .bool false, .bool false, .int .i64 r, .string ⟨#[]⟩, .bool false, .bool false, .int .i64 0, .int .i64 0] gRP (by omega))
  have NHB := below_setRow HB (show w.heap.size ≤ w.heap.size by omega) #[.int .i64 r, .string ⟨#[]⟩, .bool false, .bool false, .int .i64 r, .string ⟨#[]⟩, .bool false, .bool false, .int .i64 0, .int .i64 0]
  generalize hV : V2.setRow w.heap.size #[.int .i64 r, .string ⟨#[]⟩, .bool false, .bool false, .int .i64 r, .string ⟨#[]⟩, .bool false, .bool false, .int .i64 0, .int .i64 0] = V3 at *
  clear hV
  clear RY
  have RY := NRY
  clear NRY
  clear RP
  have RP := NRP
  clear NRP
  clear HB
  have HB := NHB
  clear NHB
  have y0 := RowIs.cell (j := 0) RY rfl
  have y1 := RowIs.cell (j := 1) RY rfl
  have y2 := RowIs.cell (j := 2) RY rfl
  have y3 := RowIs.cell (j := 3) RY rfl
  have y4 := RowIs.cell (j := 4) RY rfl
  have y5 := RowIs.cell (j := 5) RY rfl
  have y6 := RowIs.cell (j := 6) RY rfl
  have y7 := RowIs.cell (j := 7) RY rfl
  have y8 := RowIs.cell (j := 8) RY rfl
  have y9 := RowIs.cell (j := 9) RY rfl
  have yf := fun j => RowIs.frozen RY j
  have yl := RY.lt
  refine bodyPost_ret (v := .tuple #[.agg #[.int .i64 r, .string ⟨#[]⟩, .bool false, .bool false, .int .i64 r, .string ⟨#[]⟩, .bool false, .bool false, .int .i64 0, .int .i64 0], .bool true]) (by simp [results, Tryz.results216, go_sem, *]) rfl ?_
  exact ⟨rfl, HB⟩
end Go.Proofs.YtllaeakeaabiaaaGreat
