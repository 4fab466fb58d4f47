/- Tenants as the program goes about them, in plain words: how many of them are right, whether their names rise, where each name is. -/
import Derived.Test.YtfemmnhfllbgjaaGreatDoorTenLaw
import Derived.Test.YtfemmnhfllbgjaaGreatDoorTokListed
namespace Go.Proofs.YtfemmnhfllbgjaaGreatDoor
open Go.RowKit
set_option maxRecDepth 100000
set_option linter.unusedSimpArgs false
set_option linter.unusedVariables false
theorem lt_le {a b : ByteArray} (h : Op.bytesLess a.toList b.toList = true) : leS b a = false := by
  unfold leS
  cases h1 : Op.bytesLess b.toList a.toList
  · rw [Bool.false_or]
    refine beq_eq_false_iff_ne.2 fun e => ?_
    rw [e, less_irr] at h
    cases h
  · have := less_tr _ _ _ h h1
    rw [less_irr] at this
    cases this
def risT (L : List TenantD) : Bool := (List.range (L.length - 1)).all fun i => Op.bytesLess (tn L i).nm.toList (tn L (i + 1)).nm.toList
theorem risT_iff {L : List TenantD} : risT L = true ↔ ∀ i, i + 1 < L.length → Op.bytesLess (tn L i).nm.toList (tn L (i + 1)).nm.toList = true := by
  unfold risT
  simp only [List.all_eq_true, List.mem_range]
  exact ⟨fun h i hi => h i (by omega), fun h i hi => h i (by omega)⟩
def numT15 (L : List TenantD) : Nat := (L.filter okTn).length
theorem num_le (L : List TenantD) : numT15 L ≤ L.length := List.length_filter_le _ _
theorem num_yes {L : List TenantD} {k : Nat} (hk : k < L.length) (h : okTn (tn L k) = true) : numT15 (L.take (k + 1)) = numT15 (L.take k) + 1 := by
  unfold numT15
  rw [tn_get hk] at h
  rw [List.take_add_one, List.filter_append, List.getElem?_eq_getElem hk]
  simp only [Option.toList]
  rw [List.filter_cons_of_pos h]; simp
theorem num_no {L : List TenantD} {k : Nat} (hk : k < L.length) (h : okTn (tn L k) = false) : numT15 (L.take (k + 1)) = numT15 (L.take k) := by
  unfold numT15
  rw [tn_get hk] at h
  rw [List.take_add_one, List.filter_append, List.getElem?_eq_getElem hk]
  simp only [Option.toList]
  rw [List.filter_cons_of_neg (by rw [h]; simp)]; simp
theorem num_all {L : List TenantD} : numT15 L = L.length ↔ ∀ i, i < L.length → okTn (tn L i) = true := by
  unfold numT15
  rw [List.length_filter_eq_length_iff]
  constructor
  · intro h i hi; rw [tn_get hi]; exact h _ (List.getElem_mem hi)
  · intro h x hx
    obtain ⟨i, hi, rfl⟩ := List.mem_iff_getElem.1 hx
    have := h i hi
    rw [tn_get hi] at this
    exact this
theorem okTs_way (L : List TenantD) : okTs L = (decide (L.length ≤ 8) && (decide (numT15 L = L.length) && risT L)) := by
  apply Bool.eq_iff_iff.2
  rw [okTs_iff, Bool.and_eq_true, Bool.and_eq_true, decide_eq_true_eq, decide_eq_true_eq, num_all, risT_iff]
  constructor
  · rintro ⟨h1, h2⟩
    refine ⟨h1, fun i hi => (h2 i hi).1, fun i hi => ?_⟩
    rcases (h2 (i + 1) hi).2 with h | h
    · omega
    · exact le_lt h
  · rintro ⟨h1, h2, h3⟩
    refine ⟨h1, fun i hi => ⟨h2 i hi, ?_⟩⟩
    cases i with
    | zero => exact .inl rfl
    | succ i => exact .inr (lt_le (h3 i hi))
theorem okTn_way (d : TenantD) : okTn d = (nameB d.nm && (inB (d.key.size : Int) 1 40 && (plcB d.list && inB d.quota 0 20))) := by
  apply Bool.eq_iff_iff.2
  rw [okTn_iff, Bool.and_eq_true, Bool.and_eq_true, Bool.and_eq_true]
  unfold plcB
  rw [decide_eq_true_eq]
  constructor
  · rintro ⟨a, b, c, d, e⟩; exact ⟨a, b, ⟨c, e⟩, d⟩
  · rintro ⟨a, b, ⟨c, e⟩, d⟩; exact ⟨a, b, c, d, e⟩
/-- Where each name is, of the first k. -/
def plN (L : List TenantD) (k : Nat) (name : ByteArray) : Option Int := if 0 ≤ atV (L.take k) name then some (atV (L.take k) name) else none
theorem atF_app (name : ByteArray) (x : TenantD) : ∀ (M : List TenantD) (m : Nat), atF name m (M ++ [x]) = if 0 ≤ atF name m M then atF name m M else if x.nm = name then ((m + M.length : Nat) : Int) else -1
  | [], m => by simp [atF]
  | y :: M, m => by
    rw [List.cons_append]
    unfold atF
    by_cases e : y.nm = name
    · simp [e]
    · simp only [e, if_false]
      rw [atF_app name x M (m + 1)]
      have : m + 1 + M.length = m + (y :: M).length := by simp; omega
      rw [this]
theorem plN_zero (L : List TenantD) (name : ByteArray) : plN L 0 name = none := by unfold plN atV; simp [atF]
theorem plN_step {L : List TenantD} (h : okTs L = true) {k : Nat} (hk : k < L.length) : plN L k (tn L k).nm = none ∧ ∀ name, (if name = (tn L k).nm then some (k : Int) else plN L k name) = plN L (k + 1) name := by
  have h0 : ∀ name, 0 ≤ atV (L.take k) name → name ≠ (tn L k).nm := by
    intro name h1 e
    obtain ⟨j, hj, _, hn⟩ := at_found h1
    rw [List.length_take] at hj
    have hjL : j < L.length := by omega
    have : tn (L.take k) j = tn L j := by rw [tn_get (by rw [List.length_take]; omega), tn_get hjL, List.getElem_take]
    rw [this, e] at hn
    have := apart_names h hjL hk hn
    omega
  have hx : L.take (k + 1) = L.take k ++ [tn L k] := by rw [tn_get hk]; exact List.take_succ_eq_append_getElem hk
  refine ⟨by unfold plN; rw [if_neg (fun c => h0 _ c rfl)], fun name => ?_⟩
  have hl : (L.take k).length = k := by rw [List.length_take]; omega
  unfold plN
  rw [hx]
  have ha : atV (L.take k ++ [tn L k]) name = if 0 ≤ atV (L.take k) name then atV (L.take k) name else if (tn L k).nm = name then (k : Int) else -1 := by
    unfold atV; rw [atF_app, hl, Nat.zero_add]
  rw [ha]
  by_cases c : 0 ≤ atV (L.take k) name
  · rw [if_neg (h0 name c), if_pos c, if_pos c, if_pos c]
  · rw [if_neg c, if_neg c]
    by_cases e : name = (tn L k).nm
    · subst e; simp
    · have hne : ¬ (tn L k).nm = name := fun c => e c.symm
      rw [if_neg e]; simp only [hne, if_false]; rfl
theorem plN_end {L : List TenantD} {k : Nat} (hk : L.length ≤ k) (name : ByteArray) : plN L k name = if 0 ≤ atV L name then some (atV L name) else none := by unfold plN; rw [List.take_of_length_le hk]
end Go.Proofs.YtfemmnhfllbgjaaGreatDoor
