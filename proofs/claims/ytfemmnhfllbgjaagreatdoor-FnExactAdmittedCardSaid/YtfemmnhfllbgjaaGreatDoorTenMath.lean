/- Tenants in plain words: when a list of them is right, who is found, who is admitted, who reaches a place. -/
import Derived.Test.YtfemmnhfllbgjaaGreatDoorShTenant
import Derived.Test.YtfemmnhfllbgjaaGreatDoorTokList
import Derived.Test.YtfemmnhfllbgjaaGreatDoorTokSpec4
import Derived.WideShapes
namespace Go.Proofs.YtfemmnhfllbgjaaGreatDoor
open Go.RowKit
set_option maxRecDepth 100000
set_option linter.unusedSimpArgs false
set_option linter.unusedVariables false
/-- The order of texts, as the language compares them. -/
def leS (a b : ByteArray) : Bool := Op.bytesLess a.toList b.toList || a.toList == b.toList
def zTn : TenantD := ⟨⟨#[]⟩, ⟨#[]⟩, [], 0⟩
abbrev tn (L : List TenantD) (i : Nat) : TenantD := L.getD i zTn
theorem tn_get {L : List TenantD} {i : Nat} (h : i < L.length) : tn L i = L[i] := by simp [tn, h]
def okTn (x : TenantD) : Bool := nameB x.nm && inB (x.key.size : Int) 1 40 && decide (x.list.length ≤ 20) && inB x.quota 0 20 && x.list.all (fun s => decide (s.size ≤ 60))
theorem okTn_iff {x : TenantD} : okTn x = true ↔ nameB x.nm = true ∧ inB (x.key.size : Int) 1 40 = true ∧ x.list.length ≤ 20 ∧ inB x.quota 0 20 = true ∧ ∀ s ∈ x.list, s.size ≤ 60 := by
  unfold okTn
  simp only [Bool.and_eq_true, decide_eq_true_eq, List.all_eq_true]
  constructor
  · rintro ⟨⟨⟨⟨a, b⟩, c⟩, d⟩, e⟩; exact ⟨a, b, c, d, e⟩
  · rintro ⟨a, b, c, d, e⟩; exact ⟨⟨⟨⟨a, b⟩, c⟩, d⟩, e⟩
def okTs (L : List TenantD) : Bool := decide (L.length ≤ 8) && (List.range L.length).all (fun i => okTn (tn L i) && (decide (i = 0) || !leS (tn L i).nm (tn L (i - 1)).nm))
theorem okTs_iff {L : List TenantD} : okTs L = true ↔ L.length ≤ 8 ∧ ∀ i, i < L.length → okTn (tn L i) = true ∧ (i = 0 ∨ leS (tn L i).nm (tn L (i - 1)).nm = false) := by
  unfold okTs
  simp only [Bool.and_eq_true, decide_eq_true_eq, List.all_eq_true, List.mem_range, Bool.or_eq_true, Bool.not_eq_true']
theorem ts_false {L : List TenantD} (h : ¬ (L.length ≤ 8 ∧ ∀ i, i < L.length → okTn (tn L i) = true ∧ (i = 0 ∨ leS (tn L i).nm (tn L (i - 1)).nm = false))) : okTs L = false := by
  cases e : okTs L
  · rfl
  · exact absurd (okTs_iff.1 e) h
/-- The first of that name, or none. -/
def atF (name : ByteArray) : Nat → List TenantD → Int
  | _, [] => -1
  | i, x :: L => if x.nm = name then (i : Int) else atF name (i + 1) L
def atV (L : List TenantD) (name : ByteArray) : Int := atF name 0 L
theorem atF_at {name : ByteArray} : ∀ (L : List TenantD) (i : Nat), atF name i L = -1 ∨ ∃ k : Nat, ∃ h : k < L.length, atF name i L = ((i + k : Nat) : Int) ∧ L[k].nm = name
  | [], i => .inl rfl
  | x :: L, i => by
    unfold atF
    split
    · rename_i h; exact .inr ⟨0, by simp, by simp, h⟩
    · rcases atF_at L (i + 1) with h | ⟨k, hk, h1, h2⟩
      · exact .inl h
      · exact .inr ⟨k + 1, by simpa using hk, by rw [h1]; congr 1; omega, by simpa using h2⟩
theorem at_found {L : List TenantD} {name : ByteArray} (h : 0 ≤ atV L name) : ∃ k : Nat, k < L.length ∧ atV L name = k ∧ (tn L k).nm = name := by
  rcases atF_at (name := name) L 0 with e | ⟨k, hk, h1, h2⟩
  · unfold atV at h; omega
  · exact ⟨k, hk, by unfold atV; rw [h1]; simp, by rw [tn_get hk]; exact h2⟩
theorem at_neg {L : List TenantD} {name : ByteArray} (h : ¬ 0 ≤ atV L name) : atV L name = -1 := by
  rcases atF_at (name := name) L 0 with e | ⟨k, hk, h1, h2⟩
  · exact e
  · exfalso; apply h; unfold atV; rw [h1]; omega
theorem atF_none {name : ByteArray} : ∀ (L : List TenantD) (i : Nat), (∀ x ∈ L, x.nm ≠ name) → atF name i L = -1
  | [], i, _ => rfl
  | x :: L, i, h => by unfold atF; rw [if_neg (h x (by simp))]; exact atF_none L (i + 1) (fun y hy => h y (by simp [hy]))
theorem str_eq (a b : ByteArray) : (a.toList == b.toList) = decide (a = b) := by
  by_cases h : a = b
  · subst h; simp
  · have : ¬ a.toList = b.toList := fun e => h (by rw [ByteArray.toList_eq, ByteArray.toList_eq] at e; exact Go.WideShapes.bytes_inj e)
    simp [h, this]
def tenantV (L : List TenantD) (name : ByteArray) : TenantD × Bool := if okTs L = true ∧ 0 ≤ atV L name then (tn L (atV L name).toNat, true) else (zTn, false)
def admitV (L : List TenantD) (token target : ByteArray) (now open_ : Int) : Int :=
  if okTs L = false ∨ timeB now = false ∨ open_ < 0 then 500
  else if (readV token).2.2 = false ∨ atV L (readV token).1 < 0 ∨ signV token (tn L (atV L (readV token).1).toNat).key now = false then 401
  else if listV (tn L (atV L (readV token).1).toNat).list target = false then 403
  else if (tn L (atV L (readV token).1).toNat).quota ≤ open_ then 429 else 200
def reachV (L : List TenantD) (target : ByteArray) : List ByteArray := if okTs L = true then (L.filter (fun x => listV x.list target)).map (·.nm) else []
end Go.Proofs.YtfemmnhfllbgjaaGreatDoor
