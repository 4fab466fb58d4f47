/- Tenants in plain words, for the law FnAdmits: names that rise are apart, who is reached is found and listed, what each code tells. -/
import Derived.Test.YtfemmnhfllbgjaaGreatDoorTenMath
namespace Go.Proofs.YtfemmnhfllbgjaaGreatDoor
open Go.RowKit
set_option maxRecDepth 100000
set_option linter.unusedSimpArgs false
set_option linter.unusedVariables false
theorem less_irr : ∀ x : List UInt8, Op.bytesLess x x = false
  | [] => rfl
  | a :: x => by simp [Op.bytesLess, less_irr x]
theorem less_tr : ∀ x y z : List UInt8, Op.bytesLess x y = true → Op.bytesLess y z = true → Op.bytesLess x z = true
  | _, [], _, h, _ => by simp [Op.bytesLess] at h
  | _, b :: y, [], _, h => by simp [Op.bytesLess] at h
  | [], b :: y, c :: z, _, _ => by simp [Op.bytesLess]
  | a :: x, b :: y, c :: z, h1, h2 => by
    simp only [Op.bytesLess, Bool.or_eq_true, decide_eq_true_eq, Bool.and_eq_true, beq_iff_eq] at h1 h2 ⊢
    rcases h1 with h1 | ⟨rfl, h1⟩
    · rcases h2 with h2 | ⟨rfl, h2⟩
      · exact .inl (UInt8.lt_trans h1 h2)
      · exact .inl h1
    · rcases h2 with h2 | ⟨rfl, h2⟩
      · exact .inl h2
      · exact .inr ⟨rfl, less_tr x y z h1 h2⟩
theorem less_tot : ∀ x y : List UInt8, Op.bytesLess x y = false → x ≠ y → Op.bytesLess y x = true
  | [], [], _, h => absurd rfl h
  | [], b :: y, h, _ => by simp [Op.bytesLess] at h
  | a :: x, [], _, _ => by simp [Op.bytesLess]
  | a :: x, b :: y, h, hn => by
    simp only [Op.bytesLess, Bool.or_eq_false_iff, decide_eq_false_iff_not, Bool.and_eq_false_iff, beq_eq_false_iff_ne] at h
    simp only [Op.bytesLess, Bool.or_eq_true, decide_eq_true_eq, Bool.and_eq_true, beq_iff_eq]
    obtain ⟨h1, h2⟩ := h
    by_cases e : a = b
    · subst e
      rcases h2 with h2 | h2
      · exact absurd rfl h2
      · exact .inr ⟨rfl, less_tot x y h2 (fun e => hn (by rw [e]))⟩
    · refine .inl ?_
      rcases UInt8.lt_or_lt_of_ne e with h | h
      · exact absurd h h1
      · exact h
theorem le_lt {a b : ByteArray} (h : leS b a = false) : Op.bytesLess a.toList b.toList = true := by
  unfold leS at h
  simp only [Bool.or_eq_false_iff, beq_eq_false_iff_ne] at h
  exact less_tot _ _ h.1 h.2
theorem rises {L : List TenantD} (h : okTs L = true) : ∀ j i, i < j → j < L.length → Op.bytesLess (tn L i).nm.toList (tn L j).nm.toList = true := by
  obtain ⟨_, hall⟩ := okTs_iff.1 h
  intro j
  induction j with
  | zero => intro i hi; omega
  | succ j ih =>
    intro i hi hj
    have h1 : leS (tn L (j + 1)).nm (tn L j).nm = false := by
      rcases (hall (j + 1) hj).2 with h0 | h0
      · omega
      · exact h0
    have h2 := le_lt h1
    by_cases e : i = j
    · subst e; exact h2
    · exact less_tr _ _ _ (ih i (by omega) (by omega)) h2
theorem apart_names {L : List TenantD} (h : okTs L = true) {i j : Nat} (hi : i < L.length) (hj : j < L.length) (e : (tn L i).nm = (tn L j).nm) : i = j := by
  rcases Nat.lt_trichotomy i j with h1 | h1 | h1
  · have := rises h j i h1 hj; rw [e, less_irr] at this; cases this
  · exact h1
  · have := rises h i j h1 hi; rw [e, less_irr] at this; cases this
/-- Who is there is found. -/
theorem at_is {L : List TenantD} (h : okTs L = true) {i : Nat} (hi : i < L.length) : atV L (tn L i).nm = i := by
  by_cases h0 : 0 ≤ atV L (tn L i).nm
  · obtain ⟨k, hk, he, hn⟩ := at_found h0
    rw [he, apart_names h hk hi hn]
  · have h1 : ∀ (M : List TenantD) (m : Nat), (tn L i) ∈ M → 0 ≤ atF (tn L i).nm m M := by
      intro M
      induction M with
      | nil => intro m hm; cases hm
      | cons d M ih =>
        intro m hm
        unfold atF
        by_cases e : d.nm = (tn L i).nm
        · simp [e]
        · simp only [e, if_false]
          refine ih _ ?_
          rcases List.mem_cons.1 hm with h | h
          · exact absurd (by rw [h]) e
          · exact h
    exact absurd (h1 L 0 (by rw [tn_get hi]; exact List.getElem_mem hi)) h0
/-- Who is reached is there, and the place is on its list. -/
theorem reach_is {L : List TenantD} {target nm : ByteArray} (h : nm ∈ reachV L target) : (tenantV L nm).2 = true ∧ listV (tenantV L nm).1.list target = true := by
  unfold reachV at h
  split at h
  · rename_i hok
    obtain ⟨x, hx, rfl⟩ := List.mem_map.1 h
    obtain ⟨hx, hl⟩ := List.mem_filter.1 hx
    obtain ⟨i, hi, rfl⟩ := List.mem_iff_getElem.1 hx
    have e : L[i] = tn L i := (tn_get hi).symm
    rw [e] at hl ⊢
    have ha := at_is hok hi
    unfold tenantV
    rw [if_pos ⟨hok, by rw [ha]; omega⟩, ha]
    exact ⟨rfl, by simpa using hl⟩
  · cases h
/-- Is it right: a token that is read, a tenant that is there, that lasts, that is signed? -/
def rightV (L : List TenantD) (token : ByteArray) (now : Int) : Bool :=
  (readV token).2.2 && (tenantV L (readV token).1).2 && decide ((readV token).2.1 > now) && signV token (tenantV L (readV token).1).1.key now
theorem admit_codes {L : List TenantD} {token target : ByteArray} {now op : Int} :
    (admitV L token target now op = 500 ∧ (okTs L = false ∨ now < 0 ∨ 1000000 < now ∨ op < 0)) ∨
    (admitV L token target now op = 401 ∧ rightV L token now = false) ∨
    (admitV L token target now op = 403 ∧ rightV L token now = true ∧ listV (tenantV L (readV token).1).1.list target = false) ∨
    (admitV L token target now op = 429 ∧ rightV L token now = true ∧ listV (tenantV L (readV token).1).1.list target = true ∧ (tenantV L (readV token).1).1.quota ≤ op) ∨
    (admitV L token target now op = 200 ∧ rightV L token now = true ∧ listV (tenantV L (readV token).1).1.list target = true ∧ op < (tenantV L (readV token).1).1.quota) := by
  unfold admitV
  split
  · rename_i h
    refine .inl ⟨rfl, ?_⟩
    rcases h with h | h | h
    · exact .inl h
    · have := inB_false (x := now) (lo := 0) (hi := 1000000) h
      right
      by_cases hn : now < 0
      · exact .inl hn
      · right; left; omega
    · exact .inr (.inr (.inr h))
  rename_i h
  have hok : okTs L = true := by cases e : okTs L with | true => rfl | false => exact absurd (.inl e) h
  split
  · rename_i h4
    refine .inr (.inl ⟨rfl, ?_⟩)
    unfold rightV tenantV
    rcases h4 with h4 | h4 | h4
    · simp [h4]
    · rw [if_neg (by omega)]; simp
    · by_cases ha : 0 ≤ atV L (readV token).1
      · rw [if_pos ⟨hok, ha⟩]; dsimp only; rw [h4, Bool.and_false]
      · rw [if_neg (by omega)]; simp
  rename_i h4
  have hr : (readV token).2.2 = true := by cases e : (readV token).2.2 with | true => rfl | false => exact absurd (.inl e) h4
  have ha : 0 ≤ atV L (readV token).1 := by
    by_cases e : 0 ≤ atV L (readV token).1
    · exact e
    · exact absurd (.inr (.inl (by omega))) h4
  have hs : signV token (tn L (atV L (readV token).1).toNat).key now = true := by
    cases e : signV token (tn L (atV L (readV token).1).toNat).key now with
    | true => rfl
    | false => exact absurd (.inr (.inr e)) h4
  have ht : tenantV L (readV token).1 = (tn L (atV L (readV token).1).toNat, true) := by unfold tenantV; rw [if_pos ⟨hok, ha⟩]
  have hrt : rightV L token now = true := by
    unfold rightV
    rw [ht]
    obtain ⟨_, h2, _⟩ := sign_is hs
    dsimp only
    rw [hs, hr]
    simp [h2]
  rw [ht]
  dsimp only
  split
  · rename_i h5
    exact .inr (.inr (.inl ⟨rfl, hrt, h5⟩))
  rename_i h5
  have hl : listV (tn L (atV L (readV token).1).toNat).list target = true := by cases e : listV (tn L (atV L (readV token).1).toNat).list target with | true => rfl | false => exact absurd e h5
  split
  · rename_i h6
    exact .inr (.inr (.inr (.inl ⟨rfl, hrt, hl, h6⟩)))
  · rename_i h6
    exact .inr (.inr (.inr (.inr ⟨rfl, hrt, hl, by omega⟩)))
end Go.Proofs.YtfemmnhfllbgjaaGreatDoor
