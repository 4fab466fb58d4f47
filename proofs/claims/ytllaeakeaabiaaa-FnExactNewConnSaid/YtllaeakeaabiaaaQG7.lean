/- Several small texts of one level, one behind the other. -/
import Derived.Test.YtllaeakeaabiaaaQG6
import Derived.Test.YtllaeakeaabiaaaQG2
import Derived.Test.YtllaeakeaabiaaaQG3
import Derived.Test.YtllaeakeaabiaaaQG5
import Derived.Test.YtllaeakeaabiaaaQG4
import Derived.Handy
import Derived.Deep.RegionHeld3
import Derived.OpenShut
import Derived.ChangeOld
import Derived.Deep.Cut
import Derived.Deep.DeepCutAuto
import Derived.Deep.QuietTactic
/- The registry in plain words: which is right, what is opened, what happens, what is swept; a registry stays right, and no number is opened twice. -/
namespace Go.Proofs.Ytllaeakeaabiaaa
open Go.RowKit
set_option maxRecDepth 100000
set_option linter.unusedSimpArgs false
set_option linter.unusedVariables false

/-- An odd number from 1 to 100000. -/
def idB (x : Int) : Bool := decide (1 ≤ x ∧ x ≤ 100000 ∧ x % 2 = 1)
theorem idB_iff {x : Int} : idB x = true ↔ 1 ≤ x ∧ x ≤ 100000 ∧ x % 2 = 1 := by unfold idB; exact decide_eq_true_iff
/-- One that is not closed counts 1. -/
def lv1 (e : EntryD) : Int := if e.state = 4 then 0 else 1
theorem lv1_nn (e : EntryD) : 0 ≤ lv1 e := by unfold lv1; split <;> omega
theorem lv1_le (e : EntryD) : lv1 e ≤ 1 := by unfold lv1; split <;> omega
def liveL (L : List EntryD) : Int := sumLs lv1 L
theorem live_le (L : List EntryD) : liveL L ≤ L.length := by
  unfold liveL
  induction L with
  | nil => simp [sumLs]
  | cons e L ih => have := lv1_le e; simp only [sumLs, List.length_cons]; omega
theorem live_nn (L : List EntryD) : 0 ≤ liveL L := sum_nn lv1 lv1_nn L
def entOk (top : Int) (e : EntryD) : Bool := idB e.id && decide (e.id ≤ top) && decide (1 ≤ e.state ∧ e.state ≤ 4)
theorem entOk_iff {top : Int} {e : EntryD} : entOk top e = true ↔ idB e.id = true ∧ e.id ≤ top ∧ 1 ≤ e.state ∧ e.state ≤ 4 := by unfold entOk; simp [and_assoc]
def risB : List EntryD → Bool
  | [] => true
  | [_] => true
  | a :: b :: L => decide (a.id < b.id) && risB (b :: L)
theorem risB_iff : ∀ (L : List EntryD), risB L = true ↔ ∀ i (h : i + 1 < L.length), L[i].id < L[i + 1].id
  | [] => by simp [risB]
  | [_] => by simp [risB]
  | a :: b :: L => by
    simp only [risB, Bool.and_eq_true, decide_eq_true_eq]
    rw [risB_iff (b :: L)]
    constructor
    · rintro ⟨h1, h2⟩ i h
      cases i with
      | zero => exact h1
      | succ i => exact h2 i (by simpa using h)
    · intro h
      exact ⟨h 0 (by simp), fun i hi => h (i + 1) (by simpa using hi)⟩
def okRg (r : RegistryD) : Bool := decide (0 ≤ r.lim ∧ r.lim ≤ 20) && decide (r.top = 0 ∨ idB r.top = true) && decide (r.es.length ≤ 60) && r.es.all (entOk r.top) && risB r.es && decide (liveL r.es ≤ r.lim)
theorem okRg_iff {r : RegistryD} : okRg r = true ↔ (0 ≤ r.lim ∧ r.lim ≤ 20) ∧ (r.top = 0 ∨ idB r.top = true) ∧ r.es.length ≤ 60 ∧ (∀ i (h : i < r.es.length), entOk r.top r.es[i] = true ∧ (0 < i → (r.es[i - 1]'(by omega)).id < r.es[i].id)) ∧ liveL r.es ≤ r.lim := by
  unfold okRg
  simp only [Bool.and_eq_true, decide_eq_true_eq, List.all_eq_true, risB_iff]
  constructor
  · rintro ⟨⟨⟨⟨⟨h1, h2⟩, h3⟩, h4⟩, h5⟩, h6⟩
    refine ⟨h1, h2, h3, fun i hi => ⟨h4 _ (List.getElem_mem hi), fun h0 => ?_⟩, h6⟩
    obtain ⟨j, rfl⟩ : ∃ j, i = j + 1 := ⟨i - 1, by omega⟩
    exact h5 j hi
  · rintro ⟨h1, h2, h3, h4, h6⟩
    refine ⟨⟨⟨⟨⟨h1, h2⟩, h3⟩, fun e he => ?_⟩, fun i hi => (h4 (i + 1) hi).2 (by omega)⟩, h6⟩
    obtain ⟨i, hi, rfl⟩ := List.mem_iff_getElem.1 he
    exact (h4 i hi).1
/-- The first with this number: its place. -/
def atE : List EntryD → Int → Option Nat
  | [], _ => none
  | e :: L, id => if e.id = id then some 0 else (atE L id).map (· + 1)
theorem atE_some {L : List EntryD} {id : Int} {k : Nat} (h : atE L id = some k) : ∃ hk : k < L.length, L[k].id = id ∧ ∀ j (hj : j < k), (L[j]'(by omega)).id ≠ id := by
  induction L generalizing k with
  | nil => simp [atE] at h
  | cons e L ih =>
    unfold atE at h
    split at h
    · rename_i he
      simp at h
      subst h
      exact ⟨by simp, he, fun j hj => absurd hj (Nat.not_lt_zero _)⟩
    · rename_i he
      cases hq : atE L id with
      | none => rw [hq] at h; simp at h
      | some q =>
        rw [hq] at h
        simp at h
        subst h
        obtain ⟨h1, h2, h3⟩ := ih hq
        refine ⟨by simpa using h1, by simpa using h2, fun j hj => ?_⟩
        cases j with
        | zero => simpa using he
        | succ j => simpa using h3 j (by omega)
theorem atE_none {L : List EntryD} {id : Int} (h : atE L id = none) : ∀ e ∈ L, e.id ≠ id := by
  induction L with
  | nil => simp
  | cons e L ih =>
    unfold atE at h
    split at h
    · simp at h
    · rename_i he
      intro x hx
      rcases List.mem_cons.1 hx with rfl | hx
      · exact he
      · exact ih (by cases hq : atE L id <;> rw [hq] at h <;> simp at h ⊢) x hx
theorem atE_of {L : List EntryD} {id : Int} (k : Nat) (hk : k < L.length) (h1 : L[k].id = id) (h2 : ∀ j (hj : j < k), (L[j]'(by omega)).id ≠ id) : atE L id = some k := by
  cases h : atE L id with
  | none => exact absurd h1 (atE_none h _ (List.getElem_mem hk))
  | some q =>
    obtain ⟨hq, e1, e2⟩ := atE_some h
    rcases Nat.lt_trichotomy q k with hlt | rfl | hgt
    · exact absurd e1 (h2 q hlt)
    · rfl
    · exact absurd h1 (e2 k hgt)
theorem atE_no {L : List EntryD} {id : Int} (h : ∀ e ∈ L, e.id ≠ id) : atE L id = none := by
  cases hq : atE L id with
  | none => rfl
  | some q => obtain ⟨hk, e1, _⟩ := atE_some hq; exact absurd e1 (h _ (List.getElem_mem hk))
/-- What opening does to a registry, right or not. -/
def openRaw (r : RegistryD) (id : Int) : RegistryD × Int :=
  if idB id = true ∧ r.top < id then
    (if r.lim ≤ liveL r.es ∨ r.es.length = 60 then (⟨r.lim, id, r.es⟩, 2) else (⟨r.lim, id, r.es ++ [⟨id, 1⟩]⟩, 0))
  else (r, 1)
def openedD (r : RegistryD) (id : Int) : RegistryD × Int := if okRg r = true then openRaw r id else (⟨0, 0, []⟩, 1)
def setSt (L : List EntryD) (k : Nat) (s : Int) : List EntryD := match L[k]? with | some e => L.set k ⟨e.id, s⟩ | none => L
def happenRaw (r : RegistryD) (id ev : Int) : RegistryD × Bool :=
  match atE r.es id with
  | none => (r, false)
  | some k => match r.es[k]? with
    | none => (r, false)
    | some e => (⟨r.lim, r.top, r.es.set k ⟨e.id, (nxV e.state ev).1⟩⟩, (nxV e.state ev).2)
def happenedD (r : RegistryD) (id ev : Int) : RegistryD × Bool := if okRg r = true then happenRaw r id ev else (⟨0, 0, []⟩, false)
def stateD (r : RegistryD) (id : Int) : Int :=
  match atE r.es id with
  | some k => match r.es[k]? with | some e => e.state | none => 0
  | none => if idB id = true ∧ id ≤ r.top then 4 else 0
def liveD (r : RegistryD) : Int := if okRg r = true then liveL r.es else -1
def sweptD (r : RegistryD) : RegistryD := if okRg r = true then ⟨r.lim, r.top, r.es.filter fun e => !decide (e.state = 4)⟩ else ⟨0, 0, []⟩
theorem happenRaw_none {r : RegistryD} {id ev : Int} (h : atE r.es id = none) : happenRaw r id ev = (r, false) := by unfold happenRaw; rw [h]
theorem happenRaw_some {r : RegistryD} {id ev : Int} {k : Nat} (h : atE r.es id = some k) (hk : k < r.es.length) : happenRaw r id ev = (⟨r.lim, r.top, r.es.set k ⟨r.es[k].id, (nxV r.es[k].state ev).1⟩⟩, (nxV r.es[k].state ev).2) := by
  unfold happenRaw; rw [h]; simp only [List.getElem?_eq_getElem hk]
theorem stateD_some {r : RegistryD} {id : Int} {k : Nat} (h : atE r.es id = some k) (hk : k < r.es.length) : stateD r id = r.es[k].state := by
  unfold stateD; rw [h]; simp only [List.getElem?_eq_getElem hk]
theorem stateD_none {r : RegistryD} {id : Int} (h : atE r.es id = none) : stateD r id = if idB id = true ∧ id ≤ r.top then 4 else 0 := by unfold stateD; rw [h]
-- the laws
theorem rise_lt {r : RegistryD} (h : okRg r = true) : ∀ i j (hi : i < j) (hj : j < r.es.length), (r.es[i]'(by omega)).id < r.es[j].id := by
  obtain ⟨_, _, _, h4, _⟩ := okRg_iff.1 h
  intro i j hi hj
  induction j with
  | zero => omega
  | succ j ih =>
    have h1 := (h4 (j + 1) hj).2 (by omega)
    simp only [Nat.add_sub_cancel] at h1
    by_cases e : i = j
    · subst e; exact h1
    · have := ih (by omega) (by omega); omega
theorem live_set (L : List EntryD) (k : Nat) (hk : k < L.length) (e : EntryD) : liveL (L.set k e) = liveL L - lv1 L[k] + lv1 e := by
  unfold liveL
  induction L generalizing k with
  | nil => exact absurd hk (Nat.not_lt_zero _)
  | cons a L ih =>
    cases k with
    | zero => simp [sumLs]; omega
    | succ k => have := ih k (by simpa using hk); simp only [List.set_cons_succ, sumLs, List.getElem_cons_succ]; omega
theorem live_app (A B : List EntryD) : liveL (A ++ B) = liveL A + liveL B := sum_app lv1 A B
theorem happen_ok {r : RegistryD} {id ev : Int} (h : okRg r = true) : okRg (happenRaw r id ev).1 = true ∧ liveL (happenRaw r id ev).1.es ≤ liveL r.es ∧ (happenRaw r id ev).1.top = r.top ∧ (happenRaw r id ev).1.lim = r.lim := by
  cases hq : atE r.es id with
  | none => rw [happenRaw_none hq]; exact ⟨h, Int.le_refl _, rfl, rfl⟩
  | some k =>
    obtain ⟨hk, e1, e2⟩ := atE_some hq
    rw [happenRaw_some hq hk]
    obtain ⟨h1, h2, h3, h4, h5⟩ := okRg_iff.1 h
    obtain ⟨n, b, hn⟩ : ∃ n b, nxV r.es[k].state ev = (n, b) := ⟨_, _, rfl⟩
    rw [hn]
    have hek := entOk_iff.1 (h4 k hk).1
    have hup : r.es[k].state ≤ n ∧ n ≤ 4 := by
      cases b
      · have := nx_no hn; omega
      · have := nx_up hn; omega
    have hlv : lv1 (⟨r.es[k].id, n⟩ : EntryD) ≤ lv1 r.es[k] := by
      have := lv1_le (⟨r.es[k].id, n⟩ : EntryD)
      have := lv1_nn r.es[k]
      by_cases e4 : r.es[k].state = 4
      · have : n = 4 := by omega
        subst this
        unfold lv1; simp [e4]
      · have : lv1 r.es[k] = 1 := by unfold lv1; rw [if_neg e4]
        omega
    have hls := live_set r.es k hk ⟨r.es[k].id, n⟩
    refine ⟨okRg_iff.2 ⟨h1, h2, by simpa using h3, fun i hi => ?_, by simp only; omega⟩, by simp only; omega, rfl, rfl⟩
    simp only [List.length_set] at hi
    have hget : ∀ j (hj : j < r.es.length), ((r.es.set k ⟨r.es[k].id, n⟩)[j]'(by simpa using hj)).id = r.es[j].id := fun j hj => by
      rw [List.getElem_set]; split
      · rename_i e; subst e; rfl
      · rfl
    refine ⟨?_, fun h0 => ?_⟩
    · rw [List.getElem_set]; split
      · exact entOk_iff.2 ⟨hek.1, hek.2.1, by simp only; omega, by simp only; omega⟩
      · exact (h4 i hi).1
    · rw [hget i hi, hget (i - 1) (by omega)]; exact (h4 i hi).2 h0
theorem happen_state {r : RegistryD} {id ev : Int} {y : RegistryD} (h : happenRaw r id ev = (y, true)) : stateD r id ≤ stateD y id := by
  cases hq : atE r.es id with
  | none => rw [happenRaw_none hq] at h; simp at h
  | some k =>
    obtain ⟨hk, e1, e2⟩ := atE_some hq
    rw [happenRaw_some hq hk] at h
    obtain ⟨n, b, hn⟩ : ∃ n b, nxV r.es[k].state ev = (n, b) := ⟨_, _, rfl⟩
    rw [hn] at h
    simp only [Prod.mk.injEq] at h
    obtain ⟨rfl, rfl⟩ := h
    have hat : atE (r.es.set k ⟨r.es[k].id, n⟩) id = some k := atE_of k (by simpa using hk) (by simpa using e1) (fun j hj => by rw [List.getElem_set_ne (by omega)]; exact e2 j hj)
    rw [stateD_some hq hk, stateD_some (r := ⟨r.lim, r.top, r.es.set k ⟨r.es[k].id, n⟩⟩) hat (by simpa using hk)]
    have := nx_up hn
    simpa using this.1
theorem happen_no {r : RegistryD} {id ev : Int} {y : RegistryD} (h : happenRaw r id ev = (y, false)) : y = r := by
  cases hq : atE r.es id with
  | none => rw [happenRaw_none hq] at h; simp at h; exact h.symm
  | some k =>
    obtain ⟨hk, e1, e2⟩ := atE_some hq
    rw [happenRaw_some hq hk] at h
    obtain ⟨n, b, hn⟩ : ∃ n b, nxV r.es[k].state ev = (n, b) := ⟨_, _, rfl⟩
    rw [hn] at h
    simp only [Prod.mk.injEq] at h
    obtain ⟨rfl, rfl⟩ := h
    have hs := nx_no hn
    obtain ⟨lim, top, es⟩ := r
    have : es.set k ⟨es[k].id, n⟩ = es := by
      rw [hs]
      exact List.set_getElem_self hk
    simp only [this]
theorem open_ok {r : RegistryD} {id : Int} (h : okRg r = true) : okRg (openRaw r id).1 = true := by
  obtain ⟨h1, h2, h3, h4, h5⟩ := okRg_iff.1 h
  unfold openRaw
  split
  · rename_i c
    have hid := idB_iff.1 c.1
    split
    · refine okRg_iff.2 ⟨h1, .inr c.1, h3, fun i hi => ⟨?_, (h4 i hi).2⟩, h5⟩
      have := entOk_iff.1 (h4 i hi).1
      exact entOk_iff.2 ⟨this.1, by simp only; omega, this.2.2⟩
    · rename_i hf
      refine okRg_iff.2 ⟨h1, .inr c.1, ?_, fun i hi => ?_, ?_⟩
      · simp only [List.length_append, List.length_cons, List.length_nil]; omega
      · simp only [List.length_append, List.length_cons, List.length_nil] at hi
        by_cases hl : i < r.es.length
        · rw [List.getElem_append_left hl]
          have hh := entOk_iff.1 (h4 i hl).1
          refine ⟨entOk_iff.2 ⟨hh.1, by simp only; omega, hh.2.2⟩, fun h0 => ?_⟩
          rw [List.getElem_append_left (by omega)]
          exact (h4 i hl).2 h0
        · obtain rfl : i = r.es.length := by omega
          simp only [List.getElem_concat_length]
          refine ⟨entOk_iff.2 ⟨c.1, Int.le_refl _, by simp, by simp⟩, fun h0 => ?_⟩
          rw [List.getElem_append_left (by omega)]
          have := entOk_iff.1 (h4 (r.es.length - 1) (by omega)).1
          omega
      · have e1 : liveL [(⟨id, 1⟩ : EntryD)] = 1 := rfl
        simp only [live_app, e1]; omega
  · exact h
theorem open_bad {r : RegistryD} {id : Int} {x : RegistryD} (h : openRaw r id = (x, 1)) : x = r := by
  unfold openRaw at h
  split at h
  · split at h <;> simp at h
  · simp at h; exact h.symm
theorem open_yes {r : RegistryD} {id : Int} {x : RegistryD} (hr : okRg r = true) (h : openRaw r id = (x, 0)) : stateD x id = 1 ∧ liveL x.es = liveL r.es + 1 ∧ r.top < id ∧ x.top = id := by
  unfold openRaw at h
  split at h
  · rename_i c
    split at h
    · simp at h
    · simp only [Prod.mk.injEq, and_true] at h
      subst h
      obtain ⟨h1, h2, h3, h4, h5⟩ := okRg_iff.1 hr
      have e1 : liveL [(⟨id, 1⟩ : EntryD)] = 1 := rfl
      refine ⟨?_, by simp only [live_app, e1], c.2, rfl⟩
      have hat : atE (r.es ++ [(⟨id, 1⟩ : EntryD)]) id = some r.es.length := atE_of _ (by simp) (by simp) (fun j hj => by
        rw [List.getElem_append_left hj]
        have := (entOk_iff.1 (h4 j hj).1).2.1
        omega)
      rw [stateD_some (r := ⟨r.lim, id, r.es ++ [(⟨id, 1⟩ : EntryD)]⟩) hat (by simp)]
      simp
  · simp at h
theorem open_top {r : RegistryD} {id k : Int} {x : RegistryD} (h : openRaw r id = (x, k)) (hk : k ≠ 1) : x.top = id := by
  unfold openRaw at h
  split at h
  · split at h <;> simp at h <;> rw [← h.1]
  · simp at h; omega
theorem open_again {r : RegistryD} {id : Int} (h : id ≤ r.top) : openRaw r id = (r, 1) := by unfold openRaw; rw [if_neg (by omega)]
theorem openRaw_code (r : RegistryD) (id : Int) : (openRaw r id).2 = 0 ∨ (openRaw r id).2 = 1 ∨ (openRaw r id).2 = 2 := by
  unfold openRaw
  split
  · split <;> simp
  · simp
theorem live_filter (L : List EntryD) : liveL (L.filter fun e => !decide (e.state = 4)) = liveL L ∧ ((L.filter fun e => !decide (e.state = 4)).length : Int) = liveL L := by
  unfold liveL
  induction L with
  | nil => simp [sumLs]
  | cons e L ih =>
    by_cases h : e.state = 4
    · rw [List.filter_cons_of_neg (by simp [h])]
      simp only [sumLs, lv1, h, if_true]; omega
    · rw [List.filter_cons_of_pos (by simp [h])]
      simp only [sumLs, List.length_cons, lv1, h, if_false]; omega
theorem rises_iff {r : RegistryD} : (∀ i (h : i < r.es.length), (0 < i → (r.es[i - 1]'(by omega)).id < r.es[i].id)) ↔ r.es.Pairwise fun a b => a.id < b.id := by
  constructor
  · intro h
    refine List.pairwise_iff_getElem.2 fun i j hi hj hij => ?_
    induction j with
    | zero => omega
    | succ j ih =>
      have h1 := h (j + 1) hj (by omega)
      simp only [Nat.add_sub_cancel] at h1
      by_cases e : i = j
      · subst e; exact h1
      · have := ih (by omega) (by omega); omega
  · intro h i hi h0
    exact List.pairwise_iff_getElem.1 h (i - 1) i (by omega) hi (by omega)
theorem swept_ok {r : RegistryD} (h : okRg r = true) : okRg ⟨r.lim, r.top, r.es.filter fun e => !decide (e.state = 4)⟩ = true := by
  obtain ⟨h1, h2, h3, h4, h5⟩ := okRg_iff.1 h
  have hp := (rises_iff (r := r)).1 fun i hi => (h4 i hi).2
  have hp2 := hp.filter (fun e => !decide (e.state = 4))
  have hr2 := (rises_iff (r := ⟨r.lim, r.top, r.es.filter fun e => !decide (e.state = 4)⟩)).2 hp2
  have hl := live_filter r.es
  refine okRg_iff.2 ⟨h1, h2, ?_, fun i hi => ⟨?_, hr2 i hi⟩, by simp only; omega⟩
  · have := live_le r.es; simp only; omega
  · have hm := List.getElem_mem hi
    obtain ⟨j, hj, hje⟩ := List.mem_iff_getElem.1 (List.mem_filter.1 hm).1
    simp only at hje ⊢
    rw [← hje]
    exact (h4 j hj).1
theorem atE_id {r : RegistryD} (h : okRg r = true) {e : EntryD} (he : e ∈ r.es) : ∃ k, ∃ hk : k < r.es.length, atE r.es e.id = some k ∧ r.es[k] = e := by
  obtain ⟨k, hk, rfl⟩ := List.mem_iff_getElem.1 he
  refine ⟨k, hk, atE_of k hk rfl (fun j hj => ?_), rfl⟩
  have := rise_lt h j k hj hk
  omega
theorem swept_state {r : RegistryD} (h : okRg r = true) (id : Int) : stateD ⟨r.lim, r.top, r.es.filter fun e => !decide (e.state = 4)⟩ id = stateD r id := by
  have hs := swept_ok h
  obtain ⟨h1, h2, h3, h4, h5⟩ := okRg_iff.1 h
  cases hq : atE r.es id with
  | none =>
    have hn : atE (r.es.filter fun e => !decide (e.state = 4)) id = none := atE_no fun e he => atE_none hq e (List.mem_filter.1 he).1
    rw [stateD_none hq, stateD_none (r := ⟨r.lim, r.top, r.es.filter fun e => !decide (e.state = 4)⟩) hn]
  | some k =>
    obtain ⟨hk, e1, e2⟩ := atE_some hq
    rw [stateD_some hq hk]
    by_cases h4' : r.es[k].state = 4
    · have hn : atE (r.es.filter fun e => !decide (e.state = 4)) id = none := atE_no fun e he => by
        intro hid
        obtain ⟨hm, hst⟩ := List.mem_filter.1 he
        obtain ⟨k2, hk2, ha, hb⟩ := atE_id h hm
        rw [hid, hq] at ha
        simp at ha
        subst ha
        rw [hb] at h4'
        simp [h4'] at hst
      rw [stateD_none (r := ⟨r.lim, r.top, r.es.filter fun e => !decide (e.state = 4)⟩) hn, h4']
      have := entOk_iff.1 (h4 k hk).1
      rw [e1] at this
      rw [if_pos ⟨this.1, this.2.1⟩]
    · have hm : r.es[k] ∈ (⟨r.lim, r.top, r.es.filter fun e => !decide (e.state = 4)⟩ : RegistryD).es := List.mem_filter.2 ⟨List.getElem_mem hk, by simp [h4']⟩
      obtain ⟨k2, hk2, ha, hb⟩ := atE_id hs hm
      rw [e1] at ha
      rw [stateD_some ha hk2, hb]
-- sizes
theorem cnt_entries (L : List EntryD) : cntEntryS L = 2 * L.length := by
  unfold cntEntryS
  induction L with
  | nil => rfl
  | cons e L ih => simp only [cntLs, cntEntry, List.length_cons, ih]; omega
theorem opened_len (r : RegistryD) (id : Int) : (openedD r id).1.es.length ≤ r.es.length + 1 := by
  unfold openedD openRaw
  repeat' split
  all_goals simp
theorem happened_len (r : RegistryD) (id ev : Int) : (happenedD r id ev).1.es.length ≤ r.es.length + 1 := by
  unfold happenedD
  split
  · cases hq : atE r.es id with
    | none => rw [happenRaw_none hq]; simp
    | some k => obtain ⟨hk, _⟩ := atE_some hq; rw [happenRaw_some hq hk]; simp
  · simp
theorem swept_len (r : RegistryD) : (sweptD r).es.length ≤ r.es.length + 1 := by
  unfold sweptD
  split
  · have := List.length_filter_le (fun e : EntryD => !decide (e.state = 4)) r.es; simp only; omega
  · simp
end Go.Proofs.Ytllaeakeaabiaaa
/- Chapter 3's Prefixed of the program: the bytes of the iterator, the high bits put into the first. -/
namespace Go.Proofs.Ytllaeakeaabiaaa
open Go.RowKit Go.Shelf
attribute [local go_sem] Oper.semAt_some
set_option linter.unusedSimpArgs false
set_option linter.unusedVariables false

theorem bytesOf_cons {n b : Int} (hn0 : 0 ≤ n) (hn : n ≤ 268435456) (h1 : 1 ≤ b) (h8 : b ≤ 8) : ∃ x xs, bytesOf n (pw b - 1) = x :: xs ∧ 0 ≤ x ∧ x < pw b ∧ ∀ y ∈ xs, 0 ≤ y ∧ y ≤ 255 := by
  have hp := pw_lo h1 h8
  unfold bytesOf
  split
  · exact ⟨n, [], rfl, by omega, by omega, by simp⟩
  · exact ⟨_, _, rfl, by omega, by omega, restF_range 4 _ (by omega) (by simp; omega)⟩

end Go.Proofs.Ytllaeakeaabiaaa
/- Chapter 3's iterator over what each byte adds: whoever ranges over it gets just these parts, in their order. -/
namespace Go.Proofs.Ytllaeakeaabiaaa
open Go.RowKit Go.Shelf
attribute [local go_sem] Oper.semAt_some
set_option linter.unusedSimpArgs false
set_option linter.unusedVariables false

abbrev encP (x : Int × Bool) : Array Value := #[.int .i64 x.1, .bool x.2]

end Go.Proofs.Ytllaeakeaabiaaa
/- Chapter 3's ReadPrefixed of the model. -/
namespace Go.Proofs.Ytllaeakeaabiaaa
open Go.RowKit
set_option maxRecDepth 100000
set_option linter.unusedSimpArgs false
set_option linter.unusedVariables false

theorem rdF_end (k : Nat) (n p : Int) (i : Nat) : rdF k n p i [] = (-1, 0) := by cases k <;> rfl
theorem rdF_last {k : Nat} {n p c : Int} {i : Nat} {cs : List Int} (h : c < 128) : rdF (k + 1) n p i (c :: cs) = if 268435456 < n + c % 128 * p ∨ (1 < i ∧ c = 0) then (-1, 0) else (n + c % 128 * p, (i : Int) + 1) := by simp only [rdF, if_pos h]
theorem rdF_more {k : Nat} {n p c : Int} {i : Nat} {cs : List Int} (h : ¬ c < 128) : rdF (k + 1) n p i (c :: cs) = rdF k (n + c % 128 * p) (p * 128) (i + 1) cs := by simp only [rdF, if_neg h]

end Go.Proofs.Ytllaeakeaabiaaa
/- The ring's own functions: where a row stands, a row put last, the last one dropped. -/
namespace Go.Proofs.Ytllaeakeaabiaaa
open Go.RowKit
set_option maxRecDepth 100000
set_option linter.unusedSimpArgs false
set_option linter.unusedVariables false

/-- What the loads of a region read. -/
def S3 (b o : Nat) (v : Value) (g : Nat) (x y : Value) (u : World) : Prop := u.cell? ⟨b, o, none⟩ = some v ∧ u.cell? ⟨g, 0, none⟩ = some x ∧ u.cell? ⟨g, 1, none⟩ = some y
theorem slot1 (b first n : Nat) (sl : List Fd) (c g : Int) (w : World) (hs : sl.length = 112) (hr : RowIs w b 111 (rC sl first c g)) (hf : first < 112) (hn : n ≤ 112) :
    Calls Try.prog 93 #[.pointer (some ⟨b, 0, none⟩), .int .i64 n] w fun x w' => x = .returned (.pointer (some ⟨b, (first + n) % 112 * 2, none⟩)) ∧ Below w.heap.size w w' := by
  have c0 := hr.cell (rC_num hs first c g).1
  have hi1 : (0 : Int) ≤ ((first : Int) + n) % 112 ∧ ((first : Int) + n) % 112 < 112 := by omega
  have hi2 : (((first : Int) + n) % 112).toNat = (first + n) % 112 := by omega
  go_enter Try.func93, Try.ntmps93
  go_wp2_with fail
  go_quiet (fail)
  go_wp2_with fail
  go_ret
  exact ⟨rfl, (by repeat' (first | (with_reducible exact Below.refl _ _) | (with_reducible refine Below.drew ?_) | (with_reducible refine bo_drewN _ ?_) | (with_reducible refine bo_alloc ?_ _) | (refine bchain ?_ (by with_reducible assumption)) | (with_reducible refine Below.setCell ?_ ?_ _) | go_size))⟩

set_option maxHeartbeats 2000000 in
theorem putLast1 (b first n : Nat) (sl : List Fd) (g : Int) (f : Fd) (w : World) (hs : sl.length = 112) (hr : RowIs w b 111 (rC sl first n g)) (hf : first < 112) (hn : n ≤ 111) (hff : f.fine) (hg0 : 0 ≤ g) (hg1 : g ≤ 1000000) :
    Calls Try.prog 86 #[.pointer (some ⟨b, 0, none⟩), .agg #[.string f.n, .string f.v]] w fun x w' => x = .returned (.tuple #[]) ∧ RowIs w' b 111 (rC (sl.set ((first + n) % 112) f) first ((n + 1 : Nat) : Int) (g + wt f)) ∧ Turn b (b + 1) w w' := by
  have hbw := hr.lt
  go_enter Try.func86, Try.ntmps86
  go_wp2_with fail
  generalize hV : w.alloc (.cells #[.string f.n, .string f.v] 85) = V; have hbV : Below w.heap.size w V := (by rw [← hV]; exact (Below.refl _ _).alloc (Nat.le_refl _) _); have x0 : World.cell? V ⟨w.heap.size, 0, none⟩ = some (.string f.n) := (by rw [← hV]; simp); have x1 : World.cell? V ⟨w.heap.size, 1, none⟩ = some (.string f.v) := (by rw [← hV]; simp); have hlV : w.heap.size < (World.heap V).size := (by rw [← hV]; simp); clear hV
  have hrV := hr.new hbV
  have hbl : b < V.heap.size := hrV.lt
  have c1 := hrV.cell (rC_num hs first n g).2.1
  have hk : (first + n) % 112 < 112 := by omega
  obtain ⟨k, hkk⟩ : ∃ k, k = (first + n) % 112 := ⟨_, rfl⟩
  rw [← hkk] at hk
  obtain ⟨s0, s1⟩ := rC_slot hs first n g k hk
  have u0 := hrV.cell s0
  have u1 := hrV.cell s1
  have HK := hide hkk
  have z0 := hrV.frozen (k * 2)
  have z1 := hrV.frozen (k * 2 + 1)
  have hne : ¬ b = w.heap.size := by omega
  clear s0 s1 hkk
  have HRV := hide hrV
  clear hr hrV
  have hS0 := And.intro c1 (And.intro x0 x1)
  refine wp_region_held_drew (S := (S3 b 225 (.int .i64 n) w.heap.size (.string f.n) (.string f.v))) (by kernel_rfl) hS0 (fun hS => ?_)
  clear hS0
  refine wpAnyH_take (i := 0) (v := ?_) rfl (by kernel_rfl) (by kernel_rfl) (by kernel_rfl) (fun _ _ _ h => h) (Or.inl ⟨by rfl, ?_⟩) hS ?_; rotate_left; focus (intro w hw; clear hw; go_simp; try with_reducible rfl)
  refine wpAnyH_take (i := 1) (v := ?_) rfl (by kernel_rfl) (by kernel_rfl) (by kernel_rfl) (fun _ _ _ h => h) (Or.inl ⟨by rfl, ?_⟩) hS ?_; rotate_left; focus (intro w hw; clear hw; go_simp; try with_reducible rfl)
  refine wpAnyH_take (i := 2) (v := ?_) rfl (by kernel_rfl) (by kernel_rfl) (by kernel_rfl) (fun _ _ _ h => h) (Or.inl ⟨by rfl, ?_⟩) hS ?_; rotate_left; focus (intro w hw; clear hw; go_simp; try with_reducible rfl)
  refine wpAnyH_take (i := 3) (v := ?_) rfl (by kernel_rfl) (by kernel_rfl) (by kernel_rfl) (fun _ _ _ h => h) (Or.inl ⟨by rfl, ?_⟩) hS ?_; rotate_left; focus (intro w hw; clear hw; go_simp; try with_reducible rfl)
  refine wpAnyH_take (i := 4) (v := ?_) rfl (by kernel_rfl) (by kernel_rfl) (by kernel_rfl) (fun _ _ _ h => h) (Or.inl ⟨by rfl, ?_⟩) hS ?_; rotate_left; focus (intro w hw; obtain ⟨l0, l1, l2⟩ := hw; go_simp; try with_reducible rfl)
  refine wpAnyH_take (i := 6) (v := ?_) rfl (by kernel_rfl) (by kernel_rfl) (by kernel_rfl) (fun _ _ _ h => h) (Or.inl ⟨by rfl, ?_⟩) hS ?_; rotate_left; focus (intro w hw; obtain ⟨l0, l1, l2⟩ := hw; go_simp; try with_reducible rfl)
  refine wpAnyH_ready (rs := [5]) (by kernel_rfl) (by simp) ?_; refine AllReadyH.cons rfl (fun K hK => ?_) AllReadyH.nil; go_simp
  refine (slot1 b first n sl n g _ hs (HRV.out.new (bo_drewN 1 (Below.refl _ _))) hf (by omega)).mono ?_; rw [← HK.out]; rintro x w2 ⟨rfl, hb2⟩
  have hb2' : Below V.heap.size V w2 := bchain (bo_drewN 1 (Below.refl _ _)) hb2
  have c1' := (hb2'.cell (p := ⟨b, 225, none⟩) hbl).trans c1
  have x0' := (hb2'.cell (p := ⟨w.heap.size, 0, none⟩) hlV).trans x0
  have x1' := (hb2'.cell (p := ⟨w.heap.size, 1, none⟩) hlV).trans x1
  have u0' := (hb2'.cell (p := ⟨b, k * 2, none⟩) hbl).trans u0
  have u1' := (hb2'.cell (p := ⟨b, k * 2 + 1, none⟩) hbl).trans u1
  have z0' := (hb2'.frozen (p := ⟨b, k * 2, none⟩) hbl).trans z0
  have z1' := (hb2'.frozen (p := ⟨b, k * 2 + 1, none⟩) hbl).trans z1
  refine hK.out _ _ ⟨c1', x0', x1'⟩ (fun hS => ?_)
  clear hK K c1 u0 u1 z0 z1 hb2
  refine wpAnyH_take (i := 7) (v := ?_) rfl (by kernel_rfl) (by kernel_rfl) (by kernel_rfl) (fun _ _ _ h => h) (Or.inl ⟨by rfl, ?_⟩) hS ?_; rotate_left; focus (intro w hw; clear hw; go_simp; try with_reducible rfl)
  refine wpAnyH_ready (rs := [8]) (by kernel_rfl) (by simp) ?_; refine AllReadyH.cons rfl (fun K hK => ?_) AllReadyH.nil; go_simp
  have hk1 : ¬ k * 2 = 225 := by omega
  have hk2 : ¬ k * 2 + 1 = 225 := by omega
  have hr3 := ((HRV.out.new hb2').set (k * 2) (.string f.n)).set (k * 2 + 1) (.string f.v)
  rw [rC_setF hs _ _ _ k hk f] at hr3
  have hs' : (sl.set k f).length = 112 := by simp [hs]
  have ht3 : Turn b (b + 1) V ((w2.setCell ⟨b, k * 2, none⟩ (.string f.n)).setCell ⟨b, k * 2 + 1, none⟩ (.string f.v)) :=
    ((turn_new hb2' b (b + 1)).setCell _ (.inl ⟨Nat.le_refl _, by simp⟩)).setCell _ (.inl ⟨Nat.le_refl _, by simp⟩)
  generalize (w2.setCell ⟨b, k * 2, none⟩ (.string f.n)).setCell ⟨b, k * 2 + 1, none⟩ (.string f.v) = w3 at *
  have y0 := (ht3.cell w.heap.size 0 hlV (by omega)).trans x0
  have y1 := (ht3.cell w.heap.size 1 hlV (by omega)).trans x1
  have c3 := hr3.cell (rC_num hs' first n g).2.1
  have q3 := hr3.frozen 225
  refine hK.out _ _ ⟨c3, y0, y1⟩ (fun _ => ?_)
  clear hK K hS c1' x0' x1' u0' u1' z0' z1' hb2' w2
  refine wpAnyH_done (by kernel_rfl) ?_ _
  have HR3 := hide hr3
  clear hr3
  go_wp2_with fail
  have hr4 := HR3.out.set 225 (.int .i64 ((n : Int) + 1))
  rw [rC_set225 hs'] at hr4
  have ht4 := ht3.setCell (p := ⟨b, 225, none⟩) (.int .i64 ((n : Int) + 1)) (.inl ⟨Nat.le_refl _, by simp⟩)
  generalize w3.setCell ⟨b, 225, none⟩ (.int .i64 ((n : Int) + 1)) = w4 at *
  replace y0 := (ht4.cell w.heap.size 0 hlV (by omega)).trans x0
  replace y1 := (ht4.cell w.heap.size 1 hlV (by omega)).trans x1
  have d2 := hr4.cell (rC_num hs' first ((n : Int) + 1) g).2.2
  have d3 := hr4.frozen 226
  have hblW := hr4.lt
  have hzr := wt_range f
  obtain ⟨z, hz⟩ : ∃ z, wt f = z := ⟨_, rfl⟩
  rw [hz] at hzr
  have fin : ∀ w5, Below w4.heap.size w4 w5 → RowIs (w5.setCell ⟨b, 226, none⟩ (.int .i64 (g + z))) b 111 (rC (sl.set ((first + n) % 112) f) first ((n + 1 : Nat) : Int) (g + wt f)) ∧ Turn b (b + 1) w (w5.setCell ⟨b, 226, none⟩ (.int .i64 (g + z))) := fun w5 h5 => by
    have hr5 := (hr4.new h5).set 226 (.int .i64 (g + z))
    rw [rC_set226 hs', HK.out] at hr5
    rw [hz]
    refine ⟨hr5, ((turn_new hbV b (b + 1)).trans (ht4.trans (turn_new h5 b (b + 1)))).setCell _ (.inl ⟨Nat.le_refl _, by simp⟩)⟩
  have HZ := hide hz
  clear hz x0 x1 c3 q3 ht4 ht3 hr4 HR3 HRV
  have hzw : IntKind.i64.wrap (g + z) = g + z := by rw [IntKind.wrap_i64]; omega
  refine wp_region_any (by kernel_rfl) ?_; change wpAny _ _ _ _ _ _ _ (World.drew _)
  refine wpAny_take (i := 0) (v := ?_) rfl (by kernel_rfl) (by kernel_rfl) (by kernel_rfl) (fun _ _ _ h => h) (Or.inl ⟨by rfl, ?_⟩) ?_; rotate_left; focus (intro w; go_simp; try with_reducible rfl)
  refine wpAny_take (i := 1) (v := ?_) rfl (by kernel_rfl) (by kernel_rfl) (by kernel_rfl) (fun _ _ _ h => h) (Or.inl ⟨by rfl, ?_⟩) ?_; rotate_left; focus (intro w; go_simp; try with_reducible rfl)
  refine wpAny_take (i := 2) (v := ?_) rfl (by kernel_rfl) (by kernel_rfl) (by kernel_rfl) (fun _ _ _ h => h) (Or.inl ⟨by rfl, ?_⟩) ?_; rotate_left; focus (intro w; go_simp; try with_reducible rfl)
  refine wpAny_ready (rs := [3, 4]) (by kernel_rfl) (by simp) ?_; refine AllReady.cons rfl (fun K hK => ?_) (AllReady.cons rfl (fun K hK => ?_) AllReady.nil)
  · go_simp; refine hK _ _ ?_; clear hK K
    refine wpAny_ready (rs := [4]) (by kernel_rfl) (by simp) ?_; refine AllReady.cons rfl (fun K hK => ?_) AllReady.nil
    go_simp; refine hK _ _ ?_; clear hK K
    refine wpAny_ready (rs := [5]) (by kernel_rfl) (by simp) ?_; refine AllReady.cons rfl (fun K hK => ?_) AllReady.nil
    go_simp
    refine (implWt f _ hff).mono ?_; rw [HZ.out]; rintro x w5 ⟨rfl, hb5⟩
    have hb5' : Below w4.heap.size w4 w5 := bchain (bo_drewN 1 (Below.refl _ _)) hb5
    have e2 := (hb5'.cell (p := ⟨b, 226, none⟩) hblW).trans d2
    have e3 := (hb5'.frozen (p := ⟨b, 226, none⟩) hblW).trans d3
    refine hK _ _ ?_
    clear hK K
    refine wpAny_take (i := 6) (v := ?_) rfl (by kernel_rfl) (by kernel_rfl) (by kernel_rfl) (fun _ _ _ h => h) (Or.inl ⟨by rfl, ?_⟩) ?_; rotate_left; focus (intro w; go_simp; try with_reducible rfl)
    refine wpAny_take (i := 7) (v := ?_) rfl (by kernel_rfl) (by kernel_rfl) (by kernel_rfl) (fun _ _ _ h => h) (Or.inl ⟨by rfl, ?_⟩) ?_; rotate_left; focus (intro w; go_simp; try with_reducible rfl)
    refine wpAny_take (i := 8) (v := ?_) rfl (by kernel_rfl) (by kernel_rfl) (by kernel_rfl) (fun _ _ _ h => h) (Or.inl ⟨by rfl, ?_⟩) ?_; rotate_left; focus (intro w; go_simp; try with_reducible rfl)
    refine wpAny_ready (rs := [9]) (by kernel_rfl) (by simp) ?_; refine AllReady.cons rfl (fun K hK => ?_) AllReady.nil
    go_simp; refine hK _ _ ?_; clear hK K
    refine wpAny_done (by kernel_rfl) ?_ _
    go_wp2_with fail
    refine bodyPost_end (v := .tuple #[]) (by simp [results, Try.results86, go_sem]) rfl ?_
    exact ⟨rfl, fin _ hb5'⟩
  · go_simp; refine hK _ _ ?_; clear hK K
    refine wpAny_ready (rs := [3, 5]) (by kernel_rfl) (by simp) ?_; refine AllReady.cons rfl (fun K hK => ?_) (AllReady.cons rfl (fun K hK => ?_) AllReady.nil)
    · go_simp; refine hK _ _ ?_; clear hK K
      refine wpAny_ready (rs := [5]) (by kernel_rfl) (by simp) ?_; refine AllReady.cons rfl (fun K hK => ?_) AllReady.nil
      go_simp
      refine (implWt f _ hff).mono ?_; rw [HZ.out]; rintro x w5 ⟨rfl, hb5⟩
      have hb5' : Below w4.heap.size w4 w5 := bchain (bo_drewN 1 (Below.refl _ _)) hb5
      have e2 := (hb5'.cell (p := ⟨b, 226, none⟩) hblW).trans d2
      have e3 := (hb5'.frozen (p := ⟨b, 226, none⟩) hblW).trans d3
      refine hK _ _ ?_
      clear hK K
      refine wpAny_take (i := 6) (v := ?_) rfl (by kernel_rfl) (by kernel_rfl) (by kernel_rfl) (fun _ _ _ h => h) (Or.inl ⟨by rfl, ?_⟩) ?_; rotate_left; focus (intro w; go_simp; try with_reducible rfl)
      refine wpAny_take (i := 7) (v := ?_) rfl (by kernel_rfl) (by kernel_rfl) (by kernel_rfl) (fun _ _ _ h => h) (Or.inl ⟨by rfl, ?_⟩) ?_; rotate_left; focus (intro w; go_simp; try with_reducible rfl)
      refine wpAny_take (i := 8) (v := ?_) rfl (by kernel_rfl) (by kernel_rfl) (by kernel_rfl) (fun _ _ _ h => h) (Or.inl ⟨by rfl, ?_⟩) ?_; rotate_left; focus (intro w; go_simp; try with_reducible rfl)
      refine wpAny_ready (rs := [9]) (by kernel_rfl) (by simp) ?_; refine AllReady.cons rfl (fun K hK => ?_) AllReady.nil
      go_simp; refine hK _ _ ?_; clear hK K
      refine wpAny_done (by kernel_rfl) ?_ _
      go_wp2_with fail
      refine bodyPost_end (v := .tuple #[]) (by simp [results, Try.results86, go_sem]) rfl ?_
      exact ⟨rfl, fin _ hb5'⟩
    · go_simp
      refine (implWt f _ hff).mono ?_; rw [HZ.out]; rintro x w5 ⟨rfl, hb5⟩
      have hb5' : Below w4.heap.size w4 w5 := bchain (bo_drewN 1 (Below.refl _ _)) hb5
      have e2 := (hb5'.cell (p := ⟨b, 226, none⟩) hblW).trans d2
      have e3 := (hb5'.frozen (p := ⟨b, 226, none⟩) hblW).trans d3
      refine hK _ _ ?_
      clear hK K
      refine wpAny_ready (rs := [3]) (by kernel_rfl) (by simp) ?_; refine AllReady.cons rfl (fun K hK => ?_) AllReady.nil
      go_simp; refine hK _ _ ?_; clear hK K
      refine wpAny_take (i := 6) (v := ?_) rfl (by kernel_rfl) (by kernel_rfl) (by kernel_rfl) (fun _ _ _ h => h) (Or.inl ⟨by rfl, ?_⟩) ?_; rotate_left; focus (intro w; go_simp; try with_reducible rfl)
      refine wpAny_take (i := 7) (v := ?_) rfl (by kernel_rfl) (by kernel_rfl) (by kernel_rfl) (fun _ _ _ h => h) (Or.inl ⟨by rfl, ?_⟩) ?_; rotate_left; focus (intro w; go_simp; try with_reducible rfl)
      refine wpAny_take (i := 8) (v := ?_) rfl (by kernel_rfl) (by kernel_rfl) (by kernel_rfl) (fun _ _ _ h => h) (Or.inl ⟨by rfl, ?_⟩) ?_; rotate_left; focus (intro w; go_simp; try with_reducible rfl)
      refine wpAny_ready (rs := [9]) (by kernel_rfl) (by simp) ?_; refine AllReady.cons rfl (fun K hK => ?_) AllReady.nil
      go_simp; refine hK _ _ ?_; clear hK K
      refine wpAny_done (by kernel_rfl) ?_ _
      go_wp2_with fail
      refine bodyPost_end (v := .tuple #[]) (by simp [results, Try.results86, go_sem]) rfl ?_
      exact ⟨rfl, fin _ hb5'⟩
end Go.Proofs.Ytllaeakeaabiaaa
/- What Noted and Resized make of a Table, in plain words. -/
namespace Go.Proofs.Ytllaeakeaabiaaa
/-- What Noted makes of a Table of this Room and these Rows. -/
def notedD (room : Int) (L : List Fd) (f : Fd) : (Int × List Fd) × Bool := if okT room L then (if okF f then ((room, shr room (f :: L)), true) else ((room, L), false)) else ((0, []), false)
/-- What Resized makes of it. -/
def resizedD (room : Int) (L : List Fd) (r : Int) : (Int × List Fd) × Bool := if okT room L then (if inB r 0 1000 then ((r, shr r L), true) else ((room, L), false)) else ((0, []), false)
theorem own_nil (w : World) (base : Nat) (e : TypeId) : w.ownsRow base e 2 (.slice none 0 0) 0 (fv []) := ⟨rfl, .inl ⟨rfl, rfl⟩⟩
end Go.Proofs.Ytllaeakeaabiaaa
/- Plain and FieldOf, of the program and of the model, in plain words. -/
namespace Go.Proofs.Ytllaeakeaabiaaa
open Go.RowKit
set_option maxRecDepth 100000
set_option linter.unusedSimpArgs false
set_option linter.unusedVariables false

theorem szL_mem {L : List Fd} : ∀ f ∈ L, szF f ≤ szL L := by
  induction L with
  | nil => intro f hf; cases hf
  | cons g L ih =>
    intro f hf
    have h1 := szF_pos g
    have h2 := szL_pos L
    simp only [szL]
    rcases List.mem_cons.1 hf with rfl | hf
    · omega
    · have := ih f hf; omega
/-- How many bytes the Names and Values have; -1: one of them is not right. -/
def plainV (L : List Fd) : Int := if L.all okF then szL L else -1
theorem plain_bad {L : List Fd} (k : Nat) (hk : k < L.length) (h : okF L[k] = false) : plainV L = -1 := by
  unfold plainV
  rw [if_neg]
  intro e
  have := List.all_eq_true.1 e _ (List.getElem_mem hk)
  rw [h] at this; cases this
theorem plain_good {L : List Fd} (h : ∀ f ∈ L, okF f = true) : plainV L = szL L := by unfold plainV; rw [if_pos (List.all_eq_true.2 h)]
theorem szF_ok {f : Fd} (h : okF f = true) : szF f ≤ 100 := by have := okF_parts h; unfold szF; omega
theorem szL_ok {L : List Fd} (h : ∀ f ∈ L, okF f = true) : szL L ≤ 100 * L.length := by
  induction L with
  | nil => simp [szL]
  | cons f L ih => have := szF_ok (h f (by simp)); have := ih fun g hg => h g (by simp [hg]); simp only [szL, List.length_cons]; omega

set_option maxHeartbeats 1000000 in
theorem implRights (L : List Fd) (v : Value) (w : World) (hr0 : Reads w v L.length 2 (fv L)) (hf : ∀ f ∈ L, f.fine) :
    Calls Try.prog 69 #[v] w fun x w' => x = .returned (.bool (L.all okF)) ∧ Below w.heap.size w w' := by
  obtain ⟨hl, ad, cap, rfl, h1, h2, h3⟩ := hr0
  have H3 := hide h3; have HF := hide hf
  clear h3 hf
  unfold maxLen at h2
  obtain ⟨R, hR⟩ : ∃ R, R = L.all okF := ⟨_, rfl⟩
  rw [← hR]
  have HR := hide hR
  clear hR
  go_enter Try.func69, Try.ntmps69
  go_wp2_with fail
  go_loopw [7] (fun i wr => ∃ (k : Nat), i = .int .i64 k ∧ k ≤ L.length ∧ (∀ f ∈ L.take k, okF f = true) ∧ Below w.heap.size w wr) (fun i _ => L.length - (intOf i).toNat)
  case atStart => exact ⟨0, rfl, Nat.zero_le _, by simp, Below.refl _ _⟩
  case round =>
    obtain ⟨k, rfl, hk, hall, hb⟩ := hrel
    by_cases hlt : k < L.length
    · obtain ⟨b, o, rfl, hbw, hc⟩ := H3.out (by omega)
      obtain ⟨s0, s1⟩ := fv_get L k hlt
      have hfk := HF.out _ (List.getElem_mem hlt)
      have HA := hide (all_take_succ L k hlt hall)
      have HB : Hid (okF L[k] = false → L.all okF = false) := fun h => by
        cases e : L.all okF
        · rfl
        · have := List.all_eq_true.1 e _ (List.getElem_mem hlt); rw [h] at this; cases this
      obtain ⟨f, hff⟩ : ∃ f, f = L[k] := ⟨_, rfl⟩
      rw [← hff] at s0 s1 hfk HA HB
      have c0 : wr.cell? ⟨b, o + k * 2, none⟩ = some (.string f.n) := by rw [hb.cell (p := ⟨b, o + k * 2, none⟩) hbw]; exact hc _ _ s0
      have c1 : wr.cell? ⟨b, o + k * 2 + 1, none⟩ = some (.string f.v) := by rw [hb.cell (p := ⟨b, o + k * 2 + 1, none⟩) hbw]; exact hc _ _ s1
      clear hc s0 s1 hff hall
      cases hok : okF f
      · have hRf := HR.out.trans (HB.out hok)
        subst hRf
        clear HB HR HA
        go_wp2_with fail
        refine (implRight f _ hfk).mono ?_; rw [hok]; rintro x w1 ⟨rfl, hb1⟩
        go_wp2_with fail
        go_ret
        exact ⟨rfl, bchain (bo_alloc hb _) hb1⟩
      · have HAA := hide (HA.out hok)
        clear HA HB
        go_wp2_with fail
        refine (implRight f _ hfk).mono ?_; rw [hok]; rintro x w1 ⟨rfl, hb1⟩
        go_wp2_with fail
        exact ⟨⟨k + 1, by go_num, by omega, HAA.out, bchain (bo_alloc hb _) hb1⟩, by simp [intOf]; omega⟩
    · obtain rfl : k = L.length := by omega
      rw [List.take_length] at hall
      have hRf := HR.out.trans (List.all_eq_true.2 hall)
      subst hRf
      clear HR hall
      go_wp2_with fail
      go_ret
      exact ⟨rfl, hb⟩
/-- The Value of the first Field with this Name. -/
def firstV (name : ByteArray) : List Fd → ByteArray × Bool
  | [] => (⟨#[]⟩, false)
  | f :: L => if (f.n.toList == name.toList) = true then (f.v, true) else firstV name L
theorem first_skip {name : ByteArray} {L : List Fd} (k : Nat) (h : ∀ f ∈ L.take k, (f.n.toList == name.toList) = false) : firstV name L = firstV name (L.drop k) := by
  induction k generalizing L with
  | zero => simp
  | succ k ih =>
    cases L with
    | nil => simp
    | cons f L =>
      rw [firstV, h f (by simp)]
      simp only [Bool.false_eq_true, if_false, List.drop_succ_cons]
      exact ih fun g hg => h g (by simp [hg])
theorem first_at {name : ByteArray} {L : List Fd} (k : Nat) (hk : k < L.length) (h : ∀ f ∈ L.take k, (f.n.toList == name.toList) = false) (hy : (L[k].n.toList == name.toList) = true) : firstV name L = (L[k].v, true) := by
  rw [first_skip k h, List.drop_eq_getElem_cons hk, firstV, if_pos hy]
theorem first_none {name : ByteArray} {L : List Fd} (h : ∀ f ∈ L, (f.n.toList == name.toList) = false) : firstV name L = (⟨#[]⟩, false) := by
  rw [first_skip L.length (by simpa using h)]; simp [firstV]
theorem no_take_succ {name : ByteArray} (L : List Fd) (k : Nat) (h : k < L.length) (ha : ∀ f ∈ L.take k, (f.n.toList == name.toList) = false) (hk : (L[k].n.toList == name.toList) = false) : ∀ f ∈ L.take (k + 1), (f.n.toList == name.toList) = false := by
  rw [List.take_succ_eq_append_getElem h]
  intro f hf
  rcases List.mem_append.1 hf with h | h
  · exact ha f h
  · simp only [List.mem_singleton] at h; rw [h]; exact hk

open Go.ChangeShapes Go.WideShapes Go.ChangeAt Go.Joins in
theorem open_FieldS {H : Type} {enc : TypeId × Value → H} {W : World} {base : Nat} {v : Value} {d : DataW H} {p : List MemPlace} (hv : Value.okWide Try.prog W .any base 25 v)
    (h : DataW.Trod enc Try.prog W 0 (fun _ => true) true 25 v d p) : ∃ L : List Fd, Reads W v L.length 2 (fv L) ∧ ∀ f ∈ L, f.fine := by
  obtain ⟨sa, sl, sc, rfl⟩ := okWide_slice Try.underlying25 hv
  obtain ⟨n1, hn1⟩ := h
  exact open_rows (α := Fd) ⟨⟨#[]⟩, ⟨#[]⟩⟩ Fd.cs 2 fcs_len Fd.fine Try.underlying25 (by kernel_rfl) (by decide) (fun cs n y hy => open_fcells hy) (v := .slice sa sl sc) (by simpa [Value.cells] using hn1)
end Go.Proofs.Ytllaeakeaabiaaa
/- Chapter 16's program: lanes that embed a way up and a way down; in, out, back. -/
namespace Go.Proofs.Ytllaeakeaabiaaa
open Go.RowKit
set_option maxRecDepth 100000
set_option linter.unusedSimpArgs false
set_option linter.unusedVariables false
abbrev lncs (t : TuD) : List Value := [.int .i64 t.up.r, .string t.up.b, .bool t.up.e, .bool t.up.k, .int .i64 t.went, .int .i64 t.dn.r, .string t.dn.b, .bool t.dn.e, .bool t.dn.k, .int .i64 t.came]
abbrev lnv (t : TuD) : Value := .agg #[.int .i64 t.up.r, .string t.up.b, .bool t.up.e, .bool t.up.k, .int .i64 t.went, .int .i64 t.dn.r, .string t.dn.b, .bool t.dn.e, .bool t.dn.k, .int .i64 t.came]
theorem inTu_size (t : TuD) (s : ByteArray) (fin : Bool) (h : okTu t = true) (hs : s.size ≤ 1048576) : (inTu t s fin).1.up.b.size ≤ 2000000 ∧ (inTu t s fin).1.dn.b.size ≤ 2000000 := by
  obtain ⟨hu, hd, _, _⟩ := okTu_true h
  have h1 := okPp_true hu
  have h2 := okPp_true hd
  unfold inTu
  rw [if_neg (by rw [h]; decide)]
  split
  · exact ⟨by show t.up.b.size ≤ _; omega, by show t.dn.b.size ≤ _; omega⟩
  · refine ⟨?_, by show t.dn.b.size ≤ _; omega⟩
    show (t.up.b ++ s).size ≤ _
    rw [ByteArray.size_append]; omega
theorem outTu_size (t : TuD) (n : Int) (h : okTu t = true) : (outTu t n).1.up.b.size ≤ 2000000 ∧ (outTu t n).1.dn.b.size ≤ 2000000 := by
  obtain ⟨hu, hd, _, _⟩ := okTu_true h
  have h1 := okPp_true hu
  have h2 := okPp_true hd
  unfold outTu
  rw [if_neg (by rw [h]; decide)]
  refine ⟨?_, by show t.dn.b.size ≤ _; omega⟩
  show (t.up.b.extract _ _).size ≤ _
  rw [ByteArray.size_extract]; omega
theorem bckTu_size (t : TuD) (s : ByteArray) (fin : Bool) (h : okTu t = true) (hs : s.size ≤ 1048576) : (bckTu t s fin).1.up.b.size ≤ 2000000 ∧ (bckTu t s fin).1.dn.b.size ≤ 2000000 := by
  obtain ⟨hu, hd, _, _⟩ := okTu_true h
  have h1 := okPp_true hu
  have h2 := okPp_true hd
  unfold bckTu
  rw [if_neg (by rw [h]; decide)]
  refine ⟨by show t.up.b.size ≤ _; omega, ?_⟩
  show (t.dn.b ++ s.extract 0 _).size ≤ _
  rw [ByteArray.size_append, ByteArray.size_extract]; omega
set_option maxHeartbeats 1000000 in
theorem lanes16 (t : TuD) (w : World) : Calls Try.prog 88 #[tuv t] w fun x w' => x = .returned (lnv t) ∧ Below w.heap.size w w' := by
  obtain ⟨⟨r, b, e, k⟩, ⟨r2, b2, e2, k2⟩, wt, cm⟩ := t
  dsimp only [tuv, lnv] at *
  obtain ⟨W, hW⟩ : ∃ W, ((w.alloc (.cells #[.int .i64 r, .string b, .bool e, .bool k, .int .i64 r2, .string b2, .bool e2, .bool k2, .int .i64 wt, .int .i64 cm] 58)).alloc (.cells #[.int .i64 0, .string ⟨#[]⟩, .bool false, .bool false, .int .i64 0, .int .i64 0, .string ⟨#[]⟩, .bool false, .bool false, .int .i64 0] 133)) = W := ⟨_, rfl⟩
  have RX : RowIs W w.heap.size 58 [.int .i64 r, .string b, .bool e, .bool k, .int .i64 r2, .string b2, .bool e2, .bool k2, .int .i64 wt, .int .i64 cm] := by rw [← hW]; exact (rowIs_new w 58 [.int .i64 r, .string b, .bool e, .bool k, .int .i64 r2, .string b2, .bool e2, .bool k2, .int .i64 wt, .int .i64 cm]).alloc _
  have RY : RowIs W (w.heap.size + 1) 133 [.int .i64 0, .string ⟨#[]⟩, .bool false, .bool false, .int .i64 0, .int .i64 0, .string ⟨#[]⟩, .bool false, .bool false, .int .i64 0] := by have := rowIs_new (w.alloc (.cells #[.int .i64 r, .string b, .bool e, .bool k, .int .i64 r2, .string b2, .bool e2, .bool k2, .int .i64 wt, .int .i64 cm] 58)) 133 [.int .i64 0, .string ⟨#[]⟩, .bool false, .bool false, .int .i64 0, .int .i64 0, .string ⟨#[]⟩, .bool false, .bool false, .int .i64 0]; rw [hW] at this; simpa using this
  have HB : Below w.heap.size w W := by rw [← hW]; exact (((Below.refl _ _).alloc (Nat.le_refl _) _).alloc (by simp) _)
  go_enter Try.func88, Try.ntmps88
  have x0 := RowIs.cell (j := 0) RX rfl
  have x1 := RowIs.cell (j := 1) RX rfl
  have x2 := RowIs.cell (j := 2) RX rfl
  have x3 := RowIs.cell (j := 3) RX rfl
  have x4 := RowIs.cell (j := 4) RX rfl
  have x5 := RowIs.cell (j := 5) RX rfl
  have x6 := RowIs.cell (j := 6) RX rfl
  have x7 := RowIs.cell (j := 7) RX rfl
  have x8 := RowIs.cell (j := 8) RX rfl
  have x9 := RowIs.cell (j := 9) RX rfl
  have xf := fun j => RowIs.frozen RX j
  have xl := RX.lt
  go_wp2_with (refine wpList_store_row (by rfl) 133 _ _ (by rfl) (w.heap.size + 1) [.int .i64 r, .string b, .bool e, .bool k, .int .i64 wt, .int .i64 r2, .string b2, .bool e2, .bool k2, .int .i64 cm] (by rfl) (by rfl) 133 [.int .i64 0, .string ⟨#[]⟩, .bool false, .bool false, .int .i64 0, .int .i64 0, .string ⟨#[]⟩, .bool false, .bool false, .int .i64 0] RY (by kernel_rfl) rfl (by intro u hu; simp at hu; rcases hu with rfl | rfl | rfl | rfl | rfl | rfl | rfl | rfl | rfl | rfl <;> rfl) ?_)
  clear x0 x1 x2 x3 x4 x5 x6 x7 x8 x9 xf xl
  clear hW
  have NRX := RX.kept (setRow_other W (w.heap.size + 1) #[.int .i64 r, .string b, .bool e, .bool k, .int .i64 wt, .int .i64 r2, .string b2, .bool e2, .bool k2, .int .i64 cm] w.heap.size (by omega))
  have NRY : RowIs (W.setRow (w.heap.size + 1) #[.int .i64 r, .string b, .bool e, .bool k, .int .i64 wt, .int .i64 r2, .string b2, .bool e2, .bool k2, .int .i64 cm]) (w.heap.size + 1) 133 [.int .i64 r, .string b, .bool e, .bool k, .int .i64 wt, .int .i64 r2, .string b2, .bool e2, .bool k2, .int .i64 cm] := rowIs_setRow (cs' := [.int .i64 r, .string b, .bool e, .bool k, .int .i64 wt, .int .i64 r2, .string b2, .bool e2, .bool k2, .int .i64 cm]) RY
  have NHB := below_setRow HB (show w.heap.size ≤ (w.heap.size + 1) by omega) #[.int .i64 r, .string b, .bool e, .bool k, .int .i64 wt, .int .i64 r2, .string b2, .bool e2, .bool k2, .int .i64 cm]
  generalize hV : W.setRow (w.heap.size + 1) #[.int .i64 r, .string b, .bool e, .bool k, .int .i64 wt, .int .i64 r2, .string b2, .bool e2, .bool k2, .int .i64 cm] = V1 at *
  clear hV
  clear RX
  have RX := NRX
  clear NRX
  clear RY
  have RY := NRY
  clear NRY
  clear HB
  have HB := NHB
  clear NHB
  have y0 := RowIs.cell (j := 0) RY rfl
  have y1 := RowIs.cell (j := 1) RY rfl
  have y2 := RowIs.cell (j := 2) RY rfl
  have y3 := RowIs.cell (j := 3) RY rfl
  have y4 := RowIs.cell (j := 4) RY rfl
  have y5 := RowIs.cell (j := 5) RY rfl
  have y6 := RowIs.cell (j := 6) RY rfl
  have y7 := RowIs.cell (j := 7) RY rfl
  have y8 := RowIs.cell (j := 8) RY rfl
  have y9 := RowIs.cell (j := 9) RY rfl
  have yf := fun j => RowIs.frozen RY j
  have yl := RY.lt
  refine bodyPost_ret (v := .agg #[.int .i64 r, .string b, .bool e, .bool k, .int .i64 wt, .int .i64 r2, .string b2, .bool e2, .bool k2, .int .i64 cm]) (by simp [results, Try.results88, go_sem, *]) rfl ?_
  exact ⟨rfl, HB⟩
set_option maxHeartbeats 1000000 in
theorem lanesRight16 (t : TuD) (w : World) (h1 : t.up.b.size ≤ maxLen) (h2 : t.dn.b.size ≤ maxLen) : Calls Try.prog 89 #[lnv t] w fun x w' => x = .returned (.bool (okTu t)) ∧ Below w.heap.size w w' := by
  obtain ⟨⟨r, b, e, k⟩, ⟨r2, b2, e2, k2⟩, wt, cm⟩ := t
  unfold okTu
  dsimp only [lnv] at *
  have RX := rowIs_new w 133 [.int .i64 r, .string b, .bool e, .bool k, .int .i64 wt, .int .i64 r2, .string b2, .bool e2, .bool k2, .int .i64 cm]
  have HB : Below w.heap.size w (w.alloc (.cells #[.int .i64 r, .string b, .bool e, .bool k, .int .i64 wt, .int .i64 r2, .string b2, .bool e2, .bool k2, .int .i64 cm] 133)) := (Below.refl _ _).alloc (Nat.le_refl _) _
  cases hu : okPp ⟨r, b, e, k⟩
  · go_enter Try.func89, Try.ntmps89
    go_wp2_with fail
    refine (right r b e k _ h1).mono ?_; rw [show okB r b k = _ from hu]; rintro x w1 ⟨rfl, hb⟩
    replace RX := RX.new hb
    replace HB := bchain HB hb
    clear hb
    have x0 := RowIs.cell (j := 0) RX rfl
    have x1 := RowIs.cell (j := 1) RX rfl
    have x2 := RowIs.cell (j := 2) RX rfl
    have x3 := RowIs.cell (j := 3) RX rfl
    have x4 := RowIs.cell (j := 4) RX rfl
    have x5 := RowIs.cell (j := 5) RX rfl
    have x6 := RowIs.cell (j := 6) RX rfl
    have x7 := RowIs.cell (j := 7) RX rfl
    have x8 := RowIs.cell (j := 8) RX rfl
    have x9 := RowIs.cell (j := 9) RX rfl
    have xf := fun j => RowIs.frozen RX j
    have xl := RX.lt
    go_wp2_with fail
    go_ret
    exact ⟨rfl, HB⟩
  cases hd : okPp ⟨r2, b2, e2, k2⟩
  · go_enter Try.func89, Try.ntmps89
    go_wp2_with fail
    refine (right r b e k _ h1).mono ?_; rw [show okB r b k = _ from hu]; rintro x w1 ⟨rfl, hb⟩
    replace RX := RX.new hb
    replace HB := bchain HB hb
    clear hb
    have x0 := RowIs.cell (j := 0) RX rfl
    have x1 := RowIs.cell (j := 1) RX rfl
    have x2 := RowIs.cell (j := 2) RX rfl
    have x3 := RowIs.cell (j := 3) RX rfl
    have x4 := RowIs.cell (j := 4) RX rfl
    have x5 := RowIs.cell (j := 5) RX rfl
    have x6 := RowIs.cell (j := 6) RX rfl
    have x7 := RowIs.cell (j := 7) RX rfl
    have x8 := RowIs.cell (j := 8) RX rfl
    have x9 := RowIs.cell (j := 9) RX rfl
    have xf := fun j => RowIs.frozen RX j
    have xl := RX.lt
    go_wp2_with fail
    clear x0 x1 x2 x3 x4 x5 x6 x7 x8 x9 xf xl
    refine (right r2 b2 e2 k2 _ h2).mono ?_; rw [show okB r2 b2 k2 = _ from hd]; rintro x w2 ⟨rfl, hb⟩
    replace RX := RX.new hb
    replace HB := bchain HB hb
    clear hb
    have x0 := RowIs.cell (j := 0) RX rfl
    have x1 := RowIs.cell (j := 1) RX rfl
    have x2 := RowIs.cell (j := 2) RX rfl
    have x3 := RowIs.cell (j := 3) RX rfl
    have x4 := RowIs.cell (j := 4) RX rfl
    have x5 := RowIs.cell (j := 5) RX rfl
    have x6 := RowIs.cell (j := 6) RX rfl
    have x7 := RowIs.cell (j := 7) RX rfl
    have x8 := RowIs.cell (j := 8) RX rfl
    have x9 := RowIs.cell (j := 9) RX rfl
    have xf := fun j => RowIs.frozen RX j
    have xl := RX.lt
    go_wp2_with fail
    go_ret
    exact ⟨rfl, HB⟩
  cases hw : inB wt 0 1000000
  · go_enter Try.func89, Try.ntmps89
    go_wp2_with fail
    refine (right r b e k _ h1).mono ?_; rw [show okB r b k = _ from hu]; rintro x w1 ⟨rfl, hb⟩
    replace RX := RX.new hb
    replace HB := bchain HB hb
    clear hb
    have x0 := RowIs.cell (j := 0) RX rfl
    have x1 := RowIs.cell (j := 1) RX rfl
    have x2 := RowIs.cell (j := 2) RX rfl
    have x3 := RowIs.cell (j := 3) RX rfl
    have x4 := RowIs.cell (j := 4) RX rfl
    have x5 := RowIs.cell (j := 5) RX rfl
    have x6 := RowIs.cell (j := 6) RX rfl
    have x7 := RowIs.cell (j := 7) RX rfl
    have x8 := RowIs.cell (j := 8) RX rfl
    have x9 := RowIs.cell (j := 9) RX rfl
    have xf := fun j => RowIs.frozen RX j
    have xl := RX.lt
    go_wp2_with fail
    clear x0 x1 x2 x3 x4 x5 x6 x7 x8 x9 xf xl
    refine (right r2 b2 e2 k2 _ h2).mono ?_; rw [show okB r2 b2 k2 = _ from hd]; rintro x w2 ⟨rfl, hb⟩
    replace RX := RX.new hb
    replace HB := bchain HB hb
    clear hb
    have x0 := RowIs.cell (j := 0) RX rfl
    have x1 := RowIs.cell (j := 1) RX rfl
    have x2 := RowIs.cell (j := 2) RX rfl
    have x3 := RowIs.cell (j := 3) RX rfl
    have x4 := RowIs.cell (j := 4) RX rfl
    have x5 := RowIs.cell (j := 5) RX rfl
    have x6 := RowIs.cell (j := 6) RX rfl
    have x7 := RowIs.cell (j := 7) RX rfl
    have x8 := RowIs.cell (j := 8) RX rfl
    have x9 := RowIs.cell (j := 9) RX rfl
    have xf := fun j => RowIs.frozen RX j
    have xl := RX.lt
    go_wp2_with fail
    refine (implWithin _ _ _ _).mono ?_; rw [hw]; rintro e w7 ⟨rfl, hsame⟩; obtain rfl := hsame.symm; clear hsame
    go_wp2_with fail
    go_ret
    exact ⟨rfl, HB⟩
  cases hm : inB cm 0 1000000
  · go_enter Try.func89, Try.ntmps89
    go_wp2_with fail
    refine (right r b e k _ h1).mono ?_; rw [show okB r b k = _ from hu]; rintro x w1 ⟨rfl, hb⟩
    replace RX := RX.new hb
    replace HB := bchain HB hb
    clear hb
    have x0 := RowIs.cell (j := 0) RX rfl
    have x1 := RowIs.cell (j := 1) RX rfl
    have x2 := RowIs.cell (j := 2) RX rfl
    have x3 := RowIs.cell (j := 3) RX rfl
    have x4 := RowIs.cell (j := 4) RX rfl
    have x5 := RowIs.cell (j := 5) RX rfl
    have x6 := RowIs.cell (j := 6) RX rfl
    have x7 := RowIs.cell (j := 7) RX rfl
    have x8 := RowIs.cell (j := 8) RX rfl
    have x9 := RowIs.cell (j := 9) RX rfl
    have xf := fun j => RowIs.frozen RX j
    have xl := RX.lt
    go_wp2_with fail
    clear x0 x1 x2 x3 x4 x5 x6 x7 x8 x9 xf xl
    refine (right r2 b2 e2 k2 _ h2).mono ?_; rw [show okB r2 b2 k2 = _ from hd]; rintro x w2 ⟨rfl, hb⟩
    replace RX := RX.new hb
    replace HB := bchain HB hb
    clear hb
    have x0 := RowIs.cell (j := 0) RX rfl
    have x1 := RowIs.cell (j := 1) RX rfl
    have x2 := RowIs.cell (j := 2) RX rfl
    have x3 := RowIs.cell (j := 3) RX rfl
    have x4 := RowIs.cell (j := 4) RX rfl
    have x5 := RowIs.cell (j := 5) RX rfl
    have x6 := RowIs.cell (j := 6) RX rfl
    have x7 := RowIs.cell (j := 7) RX rfl
    have x8 := RowIs.cell (j := 8) RX rfl
    have x9 := RowIs.cell (j := 9) RX rfl
    have xf := fun j => RowIs.frozen RX j
    have xl := RX.lt
    go_wp2_with fail
    refine (implWithin _ _ _ _).mono ?_; rw [hw]; rintro e w7 ⟨rfl, hsame⟩; obtain rfl := hsame.symm; clear hsame
    go_wp2_with fail
    refine (implWithin _ _ _ _).mono ?_; rw [hm]; rintro e w8 ⟨rfl, hsame⟩; obtain rfl := hsame.symm; clear hsame
    go_wp2_with fail
    go_ret
    exact ⟨rfl, HB⟩
  go_enter Try.func89, Try.ntmps89
  go_wp2_with fail
  refine (right r b e k _ h1).mono ?_; rw [show okB r b k = _ from hu]; rintro x w1 ⟨rfl, hb⟩
  replace RX := RX.new hb
  replace HB := bchain HB hb
  clear hb
  have x0 := RowIs.cell (j := 0) RX rfl
  have x1 := RowIs.cell (j := 1) RX rfl
  have x2 := RowIs.cell (j := 2) RX rfl
  have x3 := RowIs.cell (j := 3) RX rfl
  have x4 := RowIs.cell (j := 4) RX rfl
  have x5 := RowIs.cell (j := 5) RX rfl
  have x6 := RowIs.cell (j := 6) RX rfl
  have x7 := RowIs.cell (j := 7) RX rfl
  have x8 := RowIs.cell (j := 8) RX rfl
  have x9 := RowIs.cell (j := 9) RX rfl
  have xf := fun j => RowIs.frozen RX j
  have xl := RX.lt
  go_wp2_with fail
  clear x0 x1 x2 x3 x4 x5 x6 x7 x8 x9 xf xl
  refine (right r2 b2 e2 k2 _ h2).mono ?_; rw [show okB r2 b2 k2 = _ from hd]; rintro x w2 ⟨rfl, hb⟩
  replace RX := RX.new hb
  replace HB := bchain HB hb
  clear hb
  have x0 := RowIs.cell (j := 0) RX rfl
  have x1 := RowIs.cell (j := 1) RX rfl
  have x2 := RowIs.cell (j := 2) RX rfl
  have x3 := RowIs.cell (j := 3) RX rfl
  have x4 := RowIs.cell (j := 4) RX rfl
  have x5 := RowIs.cell (j := 5) RX rfl
  have x6 := RowIs.cell (j := 6) RX rfl
  have x7 := RowIs.cell (j := 7) RX rfl
  have x8 := RowIs.cell (j := 8) RX rfl
  have x9 := RowIs.cell (j := 9) RX rfl
  have xf := fun j => RowIs.frozen RX j
  have xl := RX.lt
  go_wp2_with fail
  refine (implWithin _ _ _ _).mono ?_; rw [hw]; rintro e w7 ⟨rfl, hsame⟩; obtain rfl := hsame.symm; clear hsame
  go_wp2_with fail
  refine (implWithin _ _ _ _).mono ?_; rw [hm]; rintro e w8 ⟨rfl, hsame⟩; obtain rfl := hsame.symm; clear hsame
  go_wp2_with fail
  go_ret
  exact ⟨rfl, HB⟩
set_option maxHeartbeats 1000000 in
theorem implTunnelOk (t : TuD) (w : World) (h1 : t.up.b.size ≤ maxLen) (h2 : t.dn.b.size ≤ maxLen) : Calls Try.prog 70 #[tuv t] w fun x w' => x = .returned (.bool (okTu t)) ∧ Below w.heap.size w w' := by
  obtain ⟨⟨r, b, e, k⟩, ⟨r2, b2, e2, k2⟩, wt, cm⟩ := t
  dsimp only [tuv] at *
  obtain ⟨W, hW⟩ : ∃ W, (w.alloc (.cells #[.int .i64 r, .string b, .bool e, .bool k, .int .i64 r2, .string b2, .bool e2, .bool k2, .int .i64 wt, .int .i64 cm] 58)) = W := ⟨_, rfl⟩
  have RX : RowIs W w.heap.size 58 [.int .i64 r, .string b, .bool e, .bool k, .int .i64 r2, .string b2, .bool e2, .bool k2, .int .i64 wt, .int .i64 cm] := by rw [← hW]; exact rowIs_new w 58 [.int .i64 r, .string b, .bool e, .bool k, .int .i64 r2, .string b2, .bool e2, .bool k2, .int .i64 wt, .int .i64 cm]
  have HB : Below w.heap.size w W := by rw [← hW]; exact (Below.refl _ _).alloc (Nat.le_refl _) _
  have hri := fun (u : World) => lanesRight16 ⟨⟨r, b, e, k⟩, ⟨r2, b2, e2, k2⟩, wt, cm⟩ u h1 h2
  go_enter Try.func70, Try.ntmps70
  go_wp2_with (refine wpList_load_row (by rfl) 58 _ (by rfl) w.heap.size (by rfl) [.int .i64 r, .string b, .bool e, .bool k, .int .i64 r2, .string b2, .bool e2, .bool k2, .int .i64 wt, .int .i64 cm] _ 58 RX Try.underlying58 rfl (by kernel_rfl) ?_)
  clear hW
  refine (lanes16 ⟨⟨r, b, e, k⟩, ⟨r2, b2, e2, k2⟩, wt, cm⟩ _).mono ?_; rintro x w1 ⟨rfl, hb⟩
  replace RX := RX.new hb
  replace HB := bchain HB hb
  clear hb
  go_wp2_with fail
  refine (hri _).mono ?_; rintro x w2 ⟨rfl, hb⟩
  replace RX := RX.new hb
  replace HB := bchain HB hb
  clear hb
  go_wp2_with fail
  go_ret
  exact ⟨rfl, HB⟩
end Go.Proofs.Ytllaeakeaabiaaa
