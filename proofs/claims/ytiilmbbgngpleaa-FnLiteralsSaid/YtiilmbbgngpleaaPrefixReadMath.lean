/- Plain mathematics of chapter 3: a number that is read from bytes, as the model reads it and by the parts that the program's iterator gives. -/
import Derived.Test.YtiilmbbgngpleaaPrefixMath
import Derived.Handy
namespace Go.Proofs.Ytiilmbbgngpleaa
open Go.RowKit
set_option linter.unusedVariables false

/-- The bytes of a text as numbers. -/
def bys (s : ByteArray) : List Int := s.data.toList.map fun c => (c.toNat : Int)
theorem bys_len (s : ByteArray) : (bys s).length = s.size := by unfold bys; rw [List.length_map, Array.length_toList]; rfl
theorem bys_drop (s : ByteArray) (i : Nat) (h : i < s.size) : (bys s).drop i = (s[i].toNat : Int) :: (bys s).drop (i + 1) := by
  have hl : i < (bys s).length := by rw [bys_len]; exact h
  rw [List.drop_eq_getElem_cons hl]
  congr 1
  simp [bys]; rfl
theorem bys_end (s : ByteArray) (i : Nat) (h : s.size ≤ i) : (bys s).drop i = [] := List.drop_eq_nil_of_le (by rw [bys_len]; exact h)
theorem bys_range (s : ByteArray) : ∀ x ∈ bys s, 0 ≤ x ∧ x ≤ 255 := by
  intro x hx
  simp only [bys, List.mem_map] at hx
  obtain ⟨c, _, rfl⟩ := hx
  have := c.toNat_lt
  omega

/-- The place of byte i is p. -/
def Plc (i : Nat) (p : Int) : Prop := (i = 1 ∧ p = 1) ∨ (i = 2 ∧ p = 128) ∨ (i = 3 ∧ p = 16384) ∨ (i = 4 ∧ p = 2097152) ∨ (i = 5 ∧ p = 268435456) ∨ (i = 6 ∧ p = 34359738368)
theorem Plc.next {i : Nat} {p : Int} (h : Plc i p) (hi : i ≤ 5) : Plc (i + 1) (p * 128) := by unfold Plc at *; omega
theorem Plc.lo {i : Nat} {p : Int} (h : Plc i p) : 1 ≤ i ∧ i ≤ 6 ∧ 1 ≤ p ∧ p ≤ 34359738368 ∧ (i ≤ 5 ↔ p ≤ 268435456) := by unfold Plc at *; omega

/-- As the model reads it: k bytes at most, n so far, the place p, byte i. -/
def rdF : Nat → Int → Int → Nat → List Int → Int × Int
  | 0, _, _, _, _ => (-1, 0)
  | _ + 1, _, _, _, [] => (-1, 0)
  | k + 1, n, p, i, c :: cs => if c < 128 then (if 268435456 < n + c % 128 * p ∨ (1 < i ∧ c = 0) then (-1, 0) else (n + c % 128 * p, (i : Int) + 1)) else rdF k (n + c % 128 * p) (p * 128) (i + 1) cs
/-- What ReadPrefixed answers. -/
def rdV (s : ByteArray) (b : Int) : Int × Int :=
  if h : 0 < s.size then if inB b 1 8 = true then (if (s[0].toNat : Int) % pw b < pw b - 1 then ((s[0].toNat : Int) % pw b, 1) else rdF 5 ((s[0].toNat : Int) % pw b) 1 1 ((bys s).drop 1)) else (-1, 0) else (-1, 0)
theorem rdV_empty {s : ByteArray} {b : Int} (h : s.size = 0) : rdV s b = (-1, 0) := by simp [rdV, h]
theorem rdV_bits {s : ByteArray} {b : Int} (h : inB b 1 8 = false) : rdV s b = (-1, 0) := by unfold rdV; split <;> simp [h]
theorem rdV_small {s : ByteArray} {b : Int} (h : 0 < s.size) (hb : inB b 1 8 = true) (hx : (s[0].toNat : Int) % pw b < pw b - 1) : rdV s b = ((s[0].toNat : Int) % pw b, 1) := by simp [rdV, h, hb, hx]
theorem rdV_more {s : ByteArray} {b : Int} (h : 0 < s.size) (hb : inB b 1 8 = true) (hx : ¬ (s[0].toNat : Int) % pw b < pw b - 1) : rdV s b = rdF 5 ((s[0].toNat : Int) % pw b) 1 1 ((bys s).drop 1) := by
  simp only [rdV, dif_pos h, if_pos hb, if_neg hx]

/-- The parts that the program's iterator gives. -/
def ptF : Nat → Int → List Int → List (Int × Bool)
  | 0, _, _ => []
  | _ + 1, _, [] => []
  | k + 1, p, c :: cs => if c < 128 then [(c % 128 * p, true)] else (c % 128 * p, false) :: ptF k (p * 128) cs
def ptV (s : ByteArray) (b : Int) : List (Int × Bool) :=
  if h : 0 < s.size then (if (s[0].toNat : Int) % pw b < pw b - 1 then [((s[0].toNat : Int) % pw b, true)] else ((s[0].toNat : Int) % pw b, false) :: ptF 5 1 ((bys s).drop 1)) else []
theorem ptF_nil (k : Nat) (p : Int) : ptF k p [] = [] := by cases k <;> rfl
theorem ptF_last {k : Nat} {p c : Int} {cs : List Int} (h : c < 128) : ptF (k + 1) p (c :: cs) = [(c % 128 * p, true)] := by simp [ptF, h]
theorem ptF_more {k : Nat} {p c : Int} {cs : List Int} (h : 128 ≤ c) : ptF (k + 1) p (c :: cs) = (c % 128 * p, false) :: ptF k (p * 128) cs := by simp only [ptF]; rw [if_neg (by omega)]
theorem ptV_empty {s : ByteArray} {b : Int} (h : s.size = 0) : ptV s b = [] := by simp [ptV, h]
theorem ptV_small {s : ByteArray} {b : Int} (h : 0 < s.size) (hx : (s[0].toNat : Int) % pw b < pw b - 1) : ptV s b = [((s[0].toNat : Int) % pw b, true)] := by simp [ptV, h, hx]
theorem ptV_more {s : ByteArray} {b : Int} (h : 0 < s.size) (hx : ¬ (s[0].toNat : Int) % pw b < pw b - 1) : ptV s b = ((s[0].toNat : Int) % pw b, false) :: ptF 5 1 ((bys s).drop 1) := by
  simp only [ptV, dif_pos h, if_neg hx]
theorem ptF_len (k : Nat) : ∀ (p : Int) (cs : List Int), (ptF k p cs).length ≤ k := by
  induction k with
  | zero => intro p cs; simp [ptF]
  | succ k ih =>
    intro p cs
    cases cs with
    | nil => simp [ptF]
    | cons c cs =>
      simp only [ptF]
      split
      · simp
      · have := ih (p * 128) cs; simp; omega
theorem ptV_len (s : ByteArray) (b : Int) : (ptV s b).length ≤ 6 := by
  unfold ptV
  split
  · split
    · simp
    · have := ptF_len 5 1 ((bys s).drop 1); rw [List.length_cons]; omega
  · simp

def sumP (l : List (Int × Bool)) : Int := (l.map (·.1)).sum
def sumW (l : List (Int × Bool)) : Int := l.foldl (fun a x => wrap64 (a + x.1)) 0
def lastB (l : List (Int × Bool)) : Bool := l.foldl (fun _ x => x.2) false
theorem sumW_snoc (l : List (Int × Bool)) (x : Int × Bool) : sumW (l ++ [x]) = wrap64 (sumW l + x.1) := by simp [sumW]
theorem lastB_snoc (l : List (Int × Bool)) (x : Int × Bool) : lastB (l ++ [x]) = x.2 := by simp [lastB]
theorem lastB_cons (x y : Int × Bool) (l : List (Int × Bool)) : lastB (x :: y :: l) = lastB (y :: l) := by simp [lastB]

theorem sumW_eq (l : List (Int × Bool)) : ∀ a : Int, 0 ≤ a → a + l.length * 34359738368 ≤ 1000000000000 → (∀ x ∈ l, 0 ≤ x.1 ∧ x.1 ≤ 34359738368) → l.foldl (fun a x => wrap64 (a + x.1)) a = a + sumP l := by
  induction l with
  | nil => intro a _ _ _; simp [sumP]
  | cons x l ih =>
    intro a h0 h1 h2
    have hx := h2 x List.mem_cons_self
    have e : wrap64 (a + x.1) = a + x.1 := by unfold wrap64; simp at h1; omega
    rw [List.foldl_cons, e, ih (a + x.1) (by omega) (by simp at h1; omega) (fun y hy => h2 y (List.mem_cons_of_mem _ hy))]
    simp [sumP]; omega

theorem ptF_range (k : Nat) : ∀ (p : Int) (i : Nat) (cs : List Int), Plc i p → k + i = 6 → (∀ c ∈ cs, 0 ≤ c ∧ c ≤ 255) → ∀ x ∈ ptF k p cs, 0 ≤ x.1 ∧ x.1 ≤ 34359738368 := by
  induction k with
  | zero => intro p i cs _ _ _ x hx; simp [ptF] at hx
  | succ k ih =>
    intro p i cs hp hk hc x hx
    cases cs with
    | nil => simp [ptF] at hx
    | cons c cs =>
      have hcc := hc c List.mem_cons_self
      have hq : 0 ≤ c % 128 * p ∧ c % 128 * p ≤ 34359738368 := by unfold Plc at hp; rcases hp with ⟨_, rfl⟩ | ⟨_, rfl⟩ | ⟨_, rfl⟩ | ⟨_, rfl⟩ | ⟨_, rfl⟩ | ⟨_, rfl⟩ <;> omega
      by_cases h : c < 128
      · rw [ptF_last h] at hx; simp at hx; subst hx; exact hq
      · rw [ptF_more (by omega)] at hx
        rcases List.mem_cons.1 hx with rfl | hx
        · exact hq
        · exact ih (p * 128) (i + 1) cs (hp.next (by omega)) (by omega) (fun y hy => hc y (List.mem_cons_of_mem _ hy)) x hx

theorem ptV_range {s : ByteArray} {b : Int} (h1 : 1 ≤ b) (h8 : b ≤ 8) : ∀ x ∈ ptV s b, 0 ≤ x.1 ∧ x.1 ≤ 34359738368 := by
  have hp := pw_lo h1 h8
  intro x hx
  by_cases h : 0 < s.size
  · have hm := Int.emod_lt_of_pos (s[0].toNat : Int) (show (0 : Int) < pw b by omega)
    have hm0 := Int.emod_nonneg (s[0].toNat : Int) (show pw b ≠ 0 by omega)
    by_cases hs : (s[0].toNat : Int) % pw b < pw b - 1
    · rw [ptV_small h hs] at hx; simp at hx; subst hx; simp only; omega
    · rw [ptV_more h hs] at hx
      rcases List.mem_cons.1 hx with rfl | hx
      · simp only; omega
      · exact ptF_range 5 1 1 _ (.inl ⟨rfl, rfl⟩) rfl (fun c hc => bys_range s c (List.mem_of_mem_drop hc)) x hx
  · rw [ptV_empty (by omega)] at hx; simp at hx
theorem sumW_ptV {s : ByteArray} {b : Int} (h1 : 1 ≤ b) (h8 : b ≤ 8) : sumW (ptV s b) = sumP (ptV s b) := by
  have hl := ptV_len s b
  have := sumW_eq (ptV s b) 0 (by omega) (by omega) (ptV_range h1 h8)
  unfold sumW
  omega

/-- What the program makes of the parts. -/
def endR (n took : Int) (ended : Bool) (b : Int) : Int × Int := if ended = true ∧ wdV n b = took then (n, took) else (-1, 0)

def len4 (r : Int) : Int := if r < 128 then 1 else if r < 16384 then 2 else if r < 2097152 then 3 else if r < 268435456 then 4 else 5
theorem restF_len4 (r : Int) (h : 0 ≤ r) : ((restF 4 r).length : Int) = len4 r := by
  unfold len4
  by_cases h1 : r < 128
  · rw [restF_small h1]; simp [h1]
  rw [if_neg h1, restF_big (by omega)]
  by_cases h2 : r < 16384
  · rw [restF_small (by omega)]; simp [h2]
  rw [if_neg h2, restF_big (by omega)]
  by_cases h3 : r < 2097152
  · rw [restF_small (by omega)]; simp [h3]
  rw [if_neg h3, restF_big (by omega)]
  by_cases h4 : r < 268435456
  · rw [restF_small (by omega)]; simp [h4]
  rw [if_neg h4, restF_big (by omega)]
  simp [restF]
theorem wdV_len4 {n b : Int} (h1 : 1 ≤ b) (h8 : b ≤ 8) (hn : pw b - 1 ≤ n) : wdV n b = if n ≤ 268435456 then 1 + len4 (n - (pw b - 1)) else 0 := by
  have hp := pw_lo h1 h8
  by_cases hm : n ≤ 268435456
  · have hok : okN n b = true := decide_eq_true ⟨by omega, hm, h1, h8⟩
    rw [wdV_yes hok, if_pos hm]
    unfold bytesOf
    rw [if_neg (by omega), List.length_cons]
    have := restF_len4 (n - (pw b - 1)) (by omega)
    omega
  · rw [if_neg hm]
    exact wdV_no (decide_eq_false (by omega))

theorem endR_ptF {b : Int} (h1 : 1 ≤ b) (h8 : b ≤ 8) (k : Nat) : ∀ (n p : Int) (i : Nat) (cs : List Int), Plc i p → k + i = 6 → pw b - 1 ≤ n → n < pw b - 1 + p → (∀ c ∈ cs, 0 ≤ c ∧ c ≤ 255) →
    endR (n + sumP (ptF k p cs)) ((i : Int) + (ptF k p cs).length) (lastB (ptF k p cs)) b = rdF k n p i cs := by
  induction k with
  | zero => intro n p i cs _ _ _ _ _; simp [ptF, rdF, endR, lastB]
  | succ k ih =>
    intro n p i cs hp hk hn0 hn1 hc
    cases cs with
    | nil => simp [ptF, rdF, endR, lastB]
    | cons c cs =>
      have hcc := hc c List.mem_cons_self
      by_cases h : c < 128
      · rw [ptF_last h]
        simp only [rdF, if_pos h]
        have hq : pw b - 1 ≤ n + c % 128 * p := by unfold Plc at hp; rcases hp with ⟨_, rfl⟩ | ⟨_, rfl⟩ | ⟨_, rfl⟩ | ⟨_, rfl⟩ | ⟨_, rfl⟩ | ⟨_, rfl⟩ <;> omega
        have hw := wdV_len4 h1 h8 hq
        have e1 : sumP [(c % 128 * p, true)] = c % 128 * p := by simp [sumP]
        have e2 : lastB [(c % 128 * p, true)] = true := by simp [lastB]
        rw [e1, e2]
        unfold endR
        have key : (true = true ∧ wdV (n + c % 128 * p) b = (i : Int) + ([(c % 128 * p, true)] : List (Int × Bool)).length) ↔ ¬ (268435456 < n + c % 128 * p ∨ (1 < i ∧ c = 0)) := by
          rw [hw]
          simp only [List.length_cons, List.length_nil, true_and, Nat.zero_add]
          unfold len4
          unfold Plc at hp
          rcases hp with ⟨rfl, rfl⟩ | ⟨rfl, rfl⟩ | ⟨rfl, rfl⟩ | ⟨rfl, rfl⟩ | ⟨rfl, rfl⟩ | ⟨rfl, rfl⟩ <;> (repeat' split) <;> omega
        by_cases hr : 268435456 < n + c % 128 * p ∨ (1 < i ∧ c = 0)
        · rw [if_pos hr, if_neg (fun x => (key.1 x) hr)]
        · rw [if_neg hr, if_pos (key.2 hr)]; simp
      · rw [ptF_more (by omega)]
        simp only [rdF, if_neg h]
        have hq : pw b - 1 ≤ n + c % 128 * p ∧ n + c % 128 * p < pw b - 1 + p * 128 := by unfold Plc at hp; rcases hp with ⟨_, rfl⟩ | ⟨_, rfl⟩ | ⟨_, rfl⟩ | ⟨_, rfl⟩ | ⟨_, rfl⟩ | ⟨_, rfl⟩ <;> omega
        rw [← ih (n + c % 128 * p) (p * 128) (i + 1) cs (hp.next (by omega)) (by omega) hq.1 hq.2 (fun y hy => hc y (List.mem_cons_of_mem _ hy))]
        have e1 : n + sumP ((c % 128 * p, false) :: ptF k (p * 128) cs) = n + c % 128 * p + sumP (ptF k (p * 128) cs) := by simp [sumP]; omega
        have e2 : (i : Int) + (((c % 128 * p, false) :: ptF k (p * 128) cs).length : Nat) = ((i + 1 : Nat) : Int) + (ptF k (p * 128) cs).length := by simp; omega
        have e3 : lastB ((c % 128 * p, false) :: ptF k (p * 128) cs) = lastB (ptF k (p * 128) cs) := by
          cases ptF k (p * 128) cs with
          | nil => simp [lastB]
          | cons y l => exact lastB_cons _ _ _
        rw [e1, e2, e3]

theorem endR_ptV {s : ByteArray} {b : Int} (hb : inB b 1 8 = true) : endR (sumW (ptV s b)) ((ptV s b).length : Int) (lastB (ptV s b)) b = rdV s b := by
  obtain ⟨h1, h8⟩ := inB_true hb
  have hp := pw_lo h1 h8
  rw [sumW_ptV h1 h8]
  by_cases h : 0 < s.size
  · have hm := Int.emod_lt_of_pos (s[0].toNat : Int) (show (0 : Int) < pw b by omega)
    have hm0 := Int.emod_nonneg (s[0].toNat : Int) (show pw b ≠ 0 by omega)
    by_cases hs : (s[0].toNat : Int) % pw b < pw b - 1
    · rw [ptV_small h hs, rdV_small h hb hs]
      have hok : okN ((s[0].toNat : Int) % pw b) b = true := decide_eq_true ⟨hm0, by omega, h1, h8⟩
      have hw : wdV ((s[0].toNat : Int) % pw b) b = 1 := by rw [wdV_yes hok]; simp [bytesOf, hs]
      simp [endR, sumP, lastB, hw]
    · rw [ptV_more h hs, rdV_more h hb hs]
      rw [← endR_ptF h1 h8 5 ((s[0].toNat : Int) % pw b) 1 1 ((bys s).drop 1) (.inl ⟨rfl, rfl⟩) rfl (by omega) (by omega) (fun c hc => bys_range s c (List.mem_of_mem_drop hc))]
      have e3 : lastB (((s[0].toNat : Int) % pw b, false) :: ptF 5 1 ((bys s).drop 1)) = lastB (ptF 5 1 ((bys s).drop 1)) := by
        cases ptF 5 1 ((bys s).drop 1) with
        | nil => simp [lastB]
        | cons y l => exact lastB_cons _ _ _
      rw [e3]
      congr 1
      simp; omega
  · rw [ptV_empty (by omega), rdV_empty (by omega)]
    simp [endR, lastB]

theorem rdV_pos {s : ByteArray} {b : Int} (hb : inB b 1 8 = true) : rdV s b = (-1, 0) ∨ (lastB (ptV s b) = true ∧ wdV (sumW (ptV s b)) b = ((ptV s b).length : Int) ∧ rdV s b = (sumW (ptV s b), ((ptV s b).length : Int))) := by
  rw [← endR_ptV hb]
  unfold endR
  by_cases h : lastB (ptV s b) = true ∧ wdV (sumW (ptV s b)) b = ((ptV s b).length : Int)
  · rw [if_pos h]; exact .inr ⟨h.1, h.2, rfl⟩
  · rw [if_neg h]; exact .inl rfl
end Go.Proofs.Ytiilmbbgngpleaa
