/- Tokens by the program's way, in plain words: the mac by a key that is folded once, a number held against how it is written, a text parted in three. -/
import Derived.Test.YtfemmnhfllbgjaaGreatDoorTokMath
import Derived.Lib.ItoaNum
import Derived.Lib.ParseIntB
import Derived.Lib.Split
import Derived.Lib.IndexBytes
namespace Go.Proofs.YtfemmnhfllbgjaaGreatDoor
open Go.RowKit
set_option maxRecDepth 100000
set_option linter.unusedSimpArgs false
set_option linter.unusedVariables false
/-- What a key's bytes make of a factor. -/
def facL (f : Int) : List Int → Int
  | [] => f
  | _ :: l => facL (f * 1000003 % 2147483647) l
theorem facL_app (f : Int) (a b : List Int) : facL f (a ++ b) = facL (facL f a) b := by
  induction a generalizing f with
  | nil => rfl
  | cons x a ih => exact ih _
theorem facS_range (f : Int) : 0 ≤ f * 1000003 % 2147483647 ∧ f * 1000003 % 2147483647 ≤ 2147483646 := by
  have h1 := Int.emod_nonneg (f * 1000003) (show (2147483647 : Int) ≠ 0 by decide)
  have h2 := Int.emod_lt_of_pos (f * 1000003) (show (0 : Int) < 2147483647 by decide)
  omega
theorem facL_range {f : Int} (l : List Int) (h0 : 0 ≤ f) (h1 : f ≤ 2147483646) : 0 ≤ facL f l ∧ facL f l ≤ 2147483646 := by
  induction l generalizing f with
  | nil => exact ⟨h0, h1⟩
  | cons b l ih => have := facS_range f; exact ih this.1 this.2
theorem fold_gen (h0 : Int) (l : List Int) : ∀ f m : Int, macL ((h0 * f + m) % 2147483647) l = (h0 * facL f l + macL m l) % 2147483647 := by
  induction l with
  | nil => intro f m; rfl
  | cons b l ih =>
    intro f m
    show macL (macS ((h0 * f + m) % 2147483647) b) l = (h0 * facL (f * 1000003 % 2147483647) l + macL (macS m b) l) % 2147483647
    rw [← ih]
    congr 1
    have e1 : h0 * (f * 1000003 % 2147483647) = h0 * f * 1000003 - 2147483647 * (h0 * (f * 1000003 / 2147483647)) := by
      rw [Int.emod_def, Int.mul_sub, ← Int.mul_assoc, Int.mul_left_comm]
    unfold macS
    rw [e1]
    generalize h0 * f = p
    generalize h0 * (f * 1000003 / 2147483647) = r
    omega
/-- A key's bytes, one by one, and all of them at once. -/
theorem mac_fold {h : Int} (l : List Int) (h0 : 0 ≤ h) (h1 : h ≤ 2147483646) : (h * facL 1 l + macL 0 l) % 2147483647 = macL h l := by
  rw [← fold_gen]
  congr 1
  rw [Int.mul_one, Int.add_zero]
  exact Int.emod_eq_of_lt h0 (by omega)
theorem dd_dec (n : Nat) : (Lib.decDigits n).map (fun c => (c.toNat : Int)) = decL n := by
  induction n using Nat.strongRecOn with
  | _ n ih =>
    by_cases h : n < 10
    · rw [Lib.decDigits, dif_pos h, decL_one h]
      simp [UInt8.toNat_ofNat']; omega
    · rw [Lib.decDigits, dif_neg h, List.map_append, ih (n / 10) (by omega), decL_step h]
      congr 1
      simp [UInt8.toNat_ofNat']; omega
theorem bys_of (l : List UInt8) : bys (⟨l.toArray⟩ : ByteArray) = l.map (fun c => (c.toNat : Int)) := by simp [bys]
theorem itoa_dec (n : Nat) : (⟨(Lib.itoa (n : Int)).toArray⟩ : ByteArray) = strOf (decL n) := by
  refine bys_inj ?_
  rw [bys_strOf (fun x hx => by have := decL_range n x hx; omega), bys_of, Lib.itoa, if_neg (by omega), Int.toNat_natCast, dd_dec]
theorem val_mono {l : List Int} (h : ∀ x ∈ l, 48 ≤ x ∧ x ≤ 57) : ∀ a : Int, 0 ≤ a → a ≤ valL a l := by
  induction l with
  | nil => intro a _; exact Int.le_refl _
  | cons b l ih =>
    intro a ha
    have hb := h b (by simp)
    have := ih (fun x hx => h x (by simp [hx])) (a * 10 + (b - 48)) (by omega)
    show a ≤ valL (a * 10 + (b - 48)) l
    omega
theorem pu_val (l : List UInt8) : ∀ a : Nat, (∀ c ∈ l, 48 ≤ c.toNat ∧ c.toNat ≤ 57) → valL a (l.map fun c => (c.toNat : Int)) ≤ 1000000000000000 → Lib.parseUintM 18446744073709551615 a l = .ok (valL a (l.map fun c => (c.toNat : Int))).toNat := by
  induction l with
  | nil => intro a _ _; simp [Lib.parseUintM, valL]
  | cons c l ih =>
    intro a h hv
    have hc := h c (by simp)
    have hl : ∀ x ∈ l.map (fun c => (c.toNat : Int)), 48 ≤ x ∧ x ≤ 57 := by
      intro x hx
      obtain ⟨d, hd, rfl⟩ := List.mem_map.1 hx
      have := h d (by simp [hd])
      omega
    have e : ((a * 10 + (c.toNat - 48) : Nat) : Int) = (a : Int) * 10 + ((c.toNat : Int) - 48) := by omega
    have hv' : valL ((a * 10 + (c.toNat - 48) : Nat) : Int) (l.map fun c => (c.toNat : Int)) ≤ 1000000000000000 := by rw [e]; exact hv
    have hm := val_mono hl ((a * 10 + (c.toNat - 48) : Nat) : Int) (by omega)
    rw [Lib.parseUintM, if_pos hc, if_neg (by omega), if_neg (by omega), ih _ (fun x hx => h x (by simp [hx])) hv', e]
    rfl
theorem dd_range (n : Nat) : ∀ c ∈ Lib.decDigits n, 48 ≤ c.toNat ∧ c.toNat ≤ 57 := by
  intro c hc
  have := decL_range n (c.toNat : Int) (by rw [← dd_dec]; exact List.mem_map.2 ⟨c, hc, rfl⟩)
  omega
theorem parse_dec {n : Nat} (h : n ≤ 1000000000000000) : Lib.parseIntB 64 (Lib.decDigits n) = .ok (n : Int) := by
  have hr := dd_range n
  have hv : valL ((0 : Nat) : Int) ((Lib.decDigits n).map fun c => (c.toNat : Int)) = n := by rw [dd_dec]; exact valL_dec n
  have hp := pu_val (Lib.decDigits n) 0 hr (by rw [hv]; omega)
  rw [hv] at hp
  have hl : 1 ≤ (Lib.decDigits n).length := by have := decL_len n; rw [← dd_dec, List.length_map] at this; exact this
  cases hd : Lib.decDigits n with
  | nil => rw [hd] at hl; simp at hl
  | cons c r =>
    rw [hd] at hp hr
    have hc := hr c (by simp)
    have e1 : (if c.toNat = 43 ∨ c.toNat = 45 then r else c :: r) = c :: r := if_neg (by omega)
    have e2 : Lib.parseUintB 64 (c :: r) = .ok n := by
      unfold Lib.parseUintB
      rw [if_neg (by simp)]
      exact hp
    unfold Lib.parseIntB
    simp only [e1, e2]
    rw [if_neg (by simp; omega), if_neg (by omega), if_neg (by omega)]
/-- A number from 0 to most, as it is written. -/
def numT (s : ByteArray) (most : Nat) : Int × Bool := if 0 ≤ valL 0 (bys s) ∧ valL 0 (bys s) ≤ most ∧ bys s = decL (valL 0 (bys s)).toNat then (valL 0 (bys s), true) else (0, false)
theorem num_dec {n most : Nat} (h : n ≤ most) : numT (strOf (decL n)) most = ((n : Int), true) := by
  have e : bys (strOf (decL n)) = decL n := bys_strOf (fun x hx => by have := decL_range n x hx; omega)
  unfold numT
  rw [e, valL_dec, if_pos ⟨by omega, by omega, by rw [Int.toNat_natCast]⟩]
theorem num_cases (s : ByteArray) (most : Nat) : (∃ n : Nat, n ≤ most ∧ s = strOf (decL n) ∧ numT s most = ((n : Int), true)) ∨ ((∀ n : Nat, n ≤ most → s ≠ strOf (decL n)) ∧ numT s most = (0, false)) := by
  by_cases h : 0 ≤ valL 0 (bys s) ∧ valL 0 (bys s) ≤ most ∧ bys s = decL (valL 0 (bys s)).toNat
  · refine Or.inl ⟨(valL 0 (bys s)).toNat, by omega, ?_, ?_⟩
    · rw [← h.2.2, strOf_bys]
    · unfold numT
      rw [if_pos h]
      have : (((valL 0 (bys s)).toNat : Nat) : Int) = valL 0 (bys s) := by omega
      rw [this]
  · refine Or.inr ⟨fun n hn e => h ?_, by unfold numT; rw [if_neg h]⟩
    have eb : bys s = decL n := by rw [e]; exact bys_strOf (fun x hx => by have := decL_range n x hx; omega)
    rw [eb, valL_dec]
    exact ⟨by omega, by omega, by rw [Int.toNat_natCast]⟩
theorem val_pos {l : List Int} (h : ∀ x ∈ l, 48 ≤ x ∧ x ≤ 57) (h1 : l ≠ []) (h0 : l.head? ≠ some 48) : 0 < valL 0 l := by
  cases l with
  | nil => exact absurd rfl h1
  | cons b l =>
    have hb := h b (by simp)
    have : b ≠ 48 := fun e => h0 (by rw [e]; rfl)
    have := val_mono (l := l) (fun x hx => h x (by simp [hx])) (0 * 10 + (b - 48)) (by omega)
    show 0 < valL (0 * 10 + (b - 48)) l
    omega
theorem dec_snoc : ∀ (k : Nat) (l : List Int), l.length = k → (∀ x ∈ l, 48 ≤ x ∧ x ≤ 57) → l ≠ [] → ¬ (l.head? = some 48 ∧ 1 < l.length) → decL (valL 0 l).toNat = l
  | 0, l, hk, _, h1, _ => absurd (List.eq_nil_of_length_eq_zero hk) h1
  | k + 1, l, hk, h, h1, h0 => by
    rcases List.eq_nil_or_concat l with rfl | ⟨l', d, rfl⟩
    · exact absurd rfl h1
    · rw [List.concat_eq_append] at *
      have hd := h d (by simp)
      have hl' : ∀ x ∈ l', 48 ≤ x ∧ x ≤ 57 := fun x hx => h x (by simp [hx])
      rw [valL_app]
      show decL (valL 0 l' * 10 + (d - 48)).toNat = l' ++ [d]
      by_cases hn : l' = []
      · subst hn
        show decL (0 * 10 + (d - 48)).toNat = [d]
        rw [decL_one (by omega)]
        congr 1
        omega
      · have hlen : 1 ≤ l'.length := by cases l' with
          | nil => exact absurd rfl hn
          | cons _ _ => simp
        have hh : l'.head? ≠ some 48 := fun e => h0 ⟨by cases l' with
          | nil => exact absurd rfl hn
          | cons _ _ => simpa using e, by simp; omega⟩
        have hp := val_pos hl' hn hh
        have ih := dec_snoc k l' (by simp at hk; omega) hl' hn (fun c => hh c.1)
        have e1 : (valL 0 l' * 10 + (d - 48)).toNat / 10 = (valL 0 l').toNat := by omega
        have e2 : (valL 0 l' * 10 + (d - 48)).toNat % 10 = (d - 48).toNat := by omega
        rw [decL_step (by omega), e1, e2, ih]
        congr 2
        omega
/-- The model's reading and the program's. -/
theorem dig_num {s : ByteArray} {k most : Nat} (hm : most < 10 ^ k) (hk : 0 < k) : ((digV s k).2 = true ∧ inB (digV s k).1 0 most = true ↔ (numT s most).2 = true) ∧ ((numT s most).2 = true → (numT s most).1 = (digV s k).1) := by
  have back : (numT s most).2 = true → digV s k = ((numT s most).1, true) ∧ inB (numT s most).1 0 most = true := by
    intro h
    rcases num_cases s most with ⟨n, hn, e, hv⟩ | ⟨_, hv⟩
    · rw [hv]
      refine ⟨?_, inB_of (by omega) (by omega)⟩
      have eb : bys s = decL n := by rw [e]; exact bys_strOf (fun x hx => by have := decL_range n x hx; omega)
      unfold digV
      rw [eb, if_neg, digL_dec (decL_short k n (by omega) hk)]
      intro c
      have := decL_range n 45 (List.mem_of_head? c)
      omega
    · rw [hv] at h; cases h
  refine ⟨⟨fun h => ?_, fun h => by rw [(back h).1]; exact ⟨rfl, (back h).2⟩⟩, fun h => by rw [(back h).1]⟩
  obtain ⟨h2, hin⟩ := h
  obtain ⟨i0, i1⟩ := inB_true hin
  by_cases hneg : (bys s).head? = some 45
  · exfalso
    unfold digV at h2 i0
    rw [if_pos hneg] at h2 i0
    generalize (bys s).drop 1 = l at h2 i0
    unfold digL at h2 i0
    split at h2
    · cases h2
    · rename_i c1
      rw [if_neg c1] at i0
      split at h2
      · cases h2
      · rename_i c2
        rw [if_neg c2] at i0
        split at h2
        · cases h2
        · rename_i c3
          rw [if_neg c3] at i0
          have ha : ∀ x ∈ l, 48 ≤ x ∧ x ≤ 57 := fun x hx => inB_true (List.all_eq_true.1 (by simpa using c2) x hx)
          have hp := val_pos ha (fun e => c1 (by rw [e]; simp)) (fun e => c3 ⟨e, Or.inl rfl⟩)
          simp at i0
          omega
  · unfold digV at h2 i0 i1
    rw [if_neg hneg] at h2 i0 i1
    unfold digL at h2 i0 i1
    split at h2
    · cases h2
    · rename_i c1
      rw [if_neg c1] at i0 i1
      split at h2
      · cases h2
      · rename_i c2
        rw [if_neg c2] at i0 i1
        split at h2
        · cases h2
        · rename_i c3
          rw [if_neg c3] at i0 i1
          have ha : ∀ x ∈ bys s, 48 ≤ x ∧ x ≤ 57 := fun x hx => inB_true (List.all_eq_true.1 (by simpa using c2) x hx)
          have hd := dec_snoc _ (bys s) rfl ha (fun e => c1 (by rw [e]; simp)) (fun c => c3 ⟨c.1, Or.inr c.2⟩)
          simp at i0 i1
          unfold numT
          rw [if_pos ⟨i0, i1, hd.symm⟩]
/-- A text parted at the first k signs 46 at most. -/
def spl : Nat → List Int → List (List Int)
  | 0, l => [l]
  | k + 1, l => if 46 ∈ l then l.takeWhile (· != 46) :: spl k ((l.dropWhile (· != 46)).drop 1) else [l]
theorem at46 {l : List Int} (h : 46 ∈ l) : ∃ a b, l = a ++ 46 :: b ∧ (∀ x ∈ a, x ≠ 46) ∧ l.takeWhile (· != 46) = a ∧ (l.dropWhile (· != 46)).drop 1 = b := by
  induction l with
  | nil => cases h
  | cons x l ih =>
    by_cases e : x = 46
    · subst e
      exact ⟨[], l, rfl, fun _ h => (by cases h), by simp, by simp⟩
    · obtain ⟨a, b, h1, h2, h3, h4⟩ := ih (by simpa [Ne.symm e] using h)
      refine ⟨x :: a, b, by rw [h1]; rfl, ?_, ?_, ?_⟩
      · intro y hy
        rcases List.mem_cons.1 hy with rfl | hy
        · exact e
        · exact h2 y hy
      · rw [List.takeWhile_cons, if_pos (by simpa using e), h3]
      · rw [List.dropWhile_cons, if_pos (by simpa using e), h4]
theorem spl_app {a b : List Int} (k : Nat) (h : ∀ x ∈ a, x ≠ 46) : spl (k + 1) (a ++ 46 :: b) = a :: spl k b := by
  have hm : 46 ∈ a ++ 46 :: b := by simp
  rw [spl, if_pos hm]
  have e1 : (a ++ 46 :: b).takeWhile (· != 46) = a := by
    rw [List.takeWhile_append_of_pos (by intro x hx; simpa using h x hx)]; simp
  have e2 : (a ++ 46 :: b).dropWhile (· != 46) = 46 :: b := by
    rw [List.dropWhile_append_of_pos (by intro x hx; simpa using h x hx)]; simp
  rw [e1, e2]; rfl
theorem spl_none {l : List Int} (k : Nat) (h : ¬ 46 ∈ l) : spl k l = [l] := by
  cases k with
  | zero => rfl
  | succ k => unfold spl; rw [if_neg h]
theorem spl_more : ∀ (k : Nat) (l : List Int), l.length ≤ k → spl (k + 1) l = spl k l
  | 0, l, h => by rw [List.eq_nil_of_length_eq_zero (Nat.le_zero.1 h)]; rfl
  | k + 1, l, h => by
    by_cases hm : 46 ∈ l
    · obtain ⟨a, b, rfl, ha, _, _⟩ := at46 hm
      rw [spl_app _ ha, spl_app _ ha, spl_more k b (by simp at h; omega)]
    · rw [spl_none _ hm, spl_none _ hm]
theorem spl_min (l : List Int) : spl (min 3 (l.length + 1) - 1) l = spl 2 l := by
  match l with
  | [] => rfl
  | [x] => exact (spl_more 1 [x] (by simp)).symm
  | x :: y :: l =>
    have : min 3 ((x :: y :: l).length + 1) - 1 = 2 := by simp only [List.length_cons]; omega
    rw [this]
theorem idx46 (s : ByteArray) : (Lib.indexB s ⟨#[46]⟩ = -1 ∧ ¬ 46 ∈ bys s) ∨ ∃ i : Nat, i < s.size ∧ Lib.indexB s ⟨#[46]⟩ = i ∧ bys s = (bys s).take i ++ 46 :: (bys s).drop (i + 1) ∧ ∀ x ∈ (bys s).take i, x ≠ 46 := by
  have hi : Lib.indexB s ⟨#[46]⟩ = Lib.indexByte s.data.toList 46 := Lib.index_one s.data.toList 46
  rw [hi]
  have hge := Lib.indexByte_ge s.data.toList 46
  by_cases h : Lib.indexByte s.data.toList 46 = -1
  · refine Or.inl ⟨h, fun hm => ?_⟩
    obtain ⟨c, hc, e⟩ := List.mem_map.1 hm
    obtain ⟨k, hk, e2⟩ := List.mem_iff_getElem.1 hc
    refine Lib.indexByte_none h k ?_
    rw [List.getElem?_eq_getElem hk, e2]
    congr 1
    have : c.toNat = 46 := by omega
    exact UInt8.toNat_inj.1 this
  · obtain ⟨i, hi2⟩ : ∃ i : Nat, Lib.indexByte s.data.toList 46 = i := ⟨(Lib.indexByte s.data.toList 46).toNat, by omega⟩
    obtain ⟨h1, h2⟩ := Lib.indexByte_some hi2
    obtain ⟨hlt, hg⟩ := List.getElem?_eq_some_iff.1 h1
    have hlt' : i < s.size := by simpa using hlt
    have hlb : i < (bys s).length := by rw [bys_len]; exact hlt'
    refine Or.inr ⟨i, hlt', hi2, ?_, ?_⟩
    · have e : (bys s)[i] = 46 := by
        have e3 : (bys s)[i]? = some 46 := by unfold bys; rw [List.getElem?_map, h1]; rfl
        rw [List.getElem?_eq_getElem hlb] at e3
        exact Option.some.inj e3
      conv => lhs; rw [← List.take_append_drop i (bys s), List.drop_eq_getElem_cons hlb, e]
    · intro x hx e
      obtain ⟨k, hk, e2⟩ := List.mem_iff_getElem.1 hx
      rw [List.length_take] at hk
      rw [List.getElem_take] at e2
      refine h2 k (by omega) ?_
      have e3 : (bys s)[k]? = some 46 := by rw [List.getElem?_eq_getElem (by rw [bys_len]; omega), e2, e]
      unfold bys at e3
      rw [List.getElem?_map] at e3
      cases hq : s.data.toList[k]? with
      | none => rw [hq] at e3; cases e3
      | some c =>
        rw [hq] at e3
        have e4 : (c.toNat : Int) = 46 := Option.some.inj e3
        congr 1
        have : c.toNat = 46 := by omega
        exact UInt8.toNat_inj.1 this
theorem splitB_spl : ∀ (k : Nat) (s : ByteArray), (Lib.splitB ⟨#[46]⟩ 0 k s).map bys = spl k (bys s)
  | 0, _ => rfl
  | k + 1, s => by
    rcases idx46 s with ⟨h, hn⟩ | ⟨i, hi, h, e, ha⟩
    · rw [Lib.splitB_miss _ _ _ _ h, spl_none _ hn]; rfl
    · rw [Lib.splitB_hit _ _ _ _ i h, List.map_cons, splitB_spl k]
      have e1 : bys (s.extract 0 (i + 0)) = (bys s).take i := by rw [bys_extract]; simp
      have e2 : bys (s.extract (i + (⟨#[46]⟩ : ByteArray).size) s.size) = (bys s).drop (i + 1) := by
        rw [bys_extract, List.take_of_length_le (by rw [bys_len]; omega)]; rfl
      rw [e1, e2]
      conv => rhs; rw [e]
      rw [spl_app _ ha]
theorem splitL_two {l : List Int} (h : 46 ∈ l) : 2 ≤ (splitL l).length := by
  obtain ⟨a, b, rfl, ha, _, _⟩ := at46 h
  rw [splitL_app ha]
  have : splitL b ≠ [] := by
    cases b with
    | nil => simp [splitL]
    | cons x b =>
      unfold splitL
      split
      · simp
      · split <;> simp
  cases hs : splitL b with
  | nil => exact absurd hs this
  | cons x r => simp
theorem num_46 {l : List Int} (most : Nat) (h : 46 ∈ l) (hr : ∀ x ∈ l, 0 ≤ x ∧ x ≤ 255) : (numT (strOf l) most).2 = false := by
  rcases num_cases (strOf l) most with ⟨n, _, e, _⟩ | ⟨_, hv⟩
  · have eb : l = decL n := by
      have := congrArg bys e
      rw [bys_strOf hr, bys_strOf (fun x hx => by have := decL_range n x hx; omega)] at this
      exact this
    rw [eb] at h
    have := decL_range n 46 h
    omega
  · rw [hv]
/-- ReadToken, of three parts. -/
def readW (x y z : ByteArray) : ByteArray × Int × Bool := if nameB x = true ∧ (numT y 1000000).2 = true ∧ (numT z 2147483646).2 = true then (x, (numT y 1000000).1, true) else (⟨#[]⟩, 0, false)
theorem read_way (s : ByteArray) : readV s = match Lib.splitB ⟨#[46]⟩ 0 (min 3 (s.size + 1) - 1) s with
    | [x, y, z] => readW x y z
    | _ => (⟨#[]⟩, 0, false) := by
  have hm := splitB_spl (min 3 (s.size + 1) - 1) s
  rw [← bys_len s, spl_min, bys_len s] at hm
  generalize Lib.splitB ⟨#[46]⟩ 0 (min 3 (s.size + 1) - 1) s = P at hm
  have hrs := bys_range s
  have back : ∀ {Q : List ByteArray} {l : List (List Int)}, Q.map bys = l → Q = l.map strOf := by
    intro Q l h
    rw [← h, List.map_map]
    have : strOf ∘ bys = id := funext strOf_bys
    rw [this, List.map_id]
  by_cases h1 : 46 ∈ bys s
  · obtain ⟨a, b, e, ha, _, _⟩ := at46 h1
    rw [e, spl_app _ ha] at hm
    by_cases h2 : 46 ∈ b
    · obtain ⟨a2, b2, e2, ha2, _, _⟩ := at46 h2
      rw [e2, spl_app _ ha2] at hm
      have hP := back hm
      rw [show spl 0 b2 = [b2] from rfl] at hP
      rw [hP]
      show readV s = readW (strOf a) (strOf a2) (strOf b2)
      have hs : splitL (bys s) = a :: a2 :: splitL b2 := by rw [e, e2, splitL_app ha, splitL_app ha2]
      by_cases h3 : 46 ∈ b2
      · have hn := num_46 (l := b2) 2147483646 h3 (fun x hx => hrs x (by rw [e, e2]; simp [hx]))
        have h2l := splitL_two h3
        unfold readW
        rw [if_neg (by rw [hn]; simp)]
        unfold readV
        rw [hs]
        cases hb : splitL b2 with
        | nil => rfl
        | cons x r =>
          cases r with
          | nil => rw [hb] at h2l; simp at h2l
          | cons y r => rfl
      · rw [splitL_none (l := b2) (fun x hx e => h3 (by rw [← e]; exact hx))] at hs
        have d1 := dig_num (s := strOf a2) (k := 9) (most := 1000000) (by decide) (by decide)
        have d2 := dig_num (s := strOf b2) (k := 10) (most := 2147483646) (by decide) (by decide)
        unfold readV readW
        rw [hs]
        by_cases hc : nameB (strOf a) = true ∧ (numT (strOf a2) 1000000).2 = true ∧ (numT (strOf b2) 2147483646).2 = true
        · have q1 := d1.1.2 hc.2.1
          have q2 := d2.1.2 hc.2.2
          rw [if_pos hc, d1.2 hc.2.1]
          exact if_pos ⟨hc.1, q1.1, q2.1, q1.2, q2.2⟩
        · rw [if_neg hc]
          exact if_neg fun c => hc ⟨c.1, d1.1.1 ⟨c.2.1, c.2.2.2.1⟩, d2.1.1 ⟨c.2.2.1, c.2.2.2.2⟩⟩
    · rw [spl_none _ h2] at hm
      have hP := back hm
      rw [hP]
      show readV s = (⟨#[]⟩, 0, false)
      have hs : splitL (bys s) = [a, b] := by rw [e, splitL_app ha, splitL_none (fun x hx e => h2 (by rw [← e]; exact hx))]
      unfold readV
      rw [hs]
  · rw [spl_none _ h1] at hm
    have hP := back hm
    rw [hP]
    show readV s = (⟨#[]⟩, 0, false)
    unfold readV
    rw [splitL_none (fun x hx e => h1 (by rw [← e]; exact hx))]
end Go.Proofs.YtfemmnhfllbgjaaGreatDoor
