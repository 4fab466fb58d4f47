/- Plain mathematics of chapter 3's law: a number is read from what it is written as, whatever comes behind and above. -/
import Derived.Test.YtiilmbbgngpleaaPrefixReadMath
import Derived.Test.YtiilmbbgngpleaaPrefixHigh
import Derived.Test.YtiilmbbgngpleaaPrefixMade2
namespace Go.Proofs.Ytiilmbbgngpleaa
open Go.RowKit
set_option linter.unusedVariables false

theorem split_mul (r p : Int) : r % 128 * p + r / 128 * (p * 128) = r * p := by
  have e : r * p = (r % 128 + 128 * (r / 128)) * p := by rw [Int.emod_add_mul_ediv]
  rw [e, Int.add_mul, Int.mul_comm (r / 128) (p * 128), Int.mul_assoc p, Int.mul_comm p]

theorem rdF_write (k : Nat) : ∀ (r N p : Int) (i : Nat) (cs : List Int), 0 ≤ r → r < 128 ^ (k + 1) → 0 ≤ N → 1 ≤ p → (1 < i → 0 < r) → N + r * p ≤ 268435456 → rdF (k + 1) N p i (restF k r ++ cs) = (N + r * p, (i : Int) + (restF k r).length) := by
  induction k with
  | zero =>
    intro r N p i cs h0 h1 hN hp hi hm
    simp at h1
    rw [restF_small h1]
    simp only [List.singleton_append, rdF, if_pos h1]
    rw [show r % 128 = r by omega, if_neg (by omega)]
    simp
  | succ k ih =>
    intro r N p i cs h0 h1 hN hp hi hm
    by_cases h : r < 128
    · rw [restF_small h]
      simp only [List.singleton_append, rdF, if_pos h]
      rw [show r % 128 = r by omega, if_neg (by omega)]
      simp
    · rw [restF_big (by omega)]
      have hc : ¬ (r % 128 + 128 < 128) := by omega
      simp only [List.cons_append, rdF, if_neg hc]
      have e1 : (r % 128 + 128) % 128 = r % 128 := by omega
      have e2 := split_mul r p
      have h2 : 0 ≤ r % 128 * p := Int.mul_nonneg (by omega) (by omega)
      rw [e1, ih (r / 128) (N + r % 128 * p) (p * 128) (i + 1) cs (by omega) (by rw [Int.pow_succ] at h1; omega) (by omega) (by omega) (fun _ => by omega) (by omega)]
      simp only [List.length_cons]
      refine Prod.ext ?_ ?_
      · simp only; omega
      · simp only; omega

theorem rdF_read (j : Nat) : ∀ (N p : Int) (i : Nat) (cs : List Int) (m k : Int), 1 ≤ i → (∀ c ∈ cs, 0 ≤ c ∧ c ≤ 255) → rdF (j + 1) N p i cs = (m, k) → 0 < k →
    ∃ (r : Int) (rest : List Int), 0 ≤ r ∧ (1 < i → 0 < r) ∧ cs = restF j r ++ rest ∧ m = N + r * p ∧ k = (i : Int) + (restF j r).length ∧ m ≤ 268435456 := by
  induction j with
  | zero =>
    intro N p i cs m k hi1 hc hr hk
    cases cs with
    | nil => simp [rdF] at hr; omega
    | cons c cs =>
      have hcc := hc c List.mem_cons_self
      by_cases h : c < 128
      · simp only [rdF, if_pos h] at hr
        rw [show c % 128 = c by omega] at hr
        by_cases hb : 268435456 < N + c * p ∨ (1 < i ∧ c = 0)
        · rw [if_pos hb] at hr; simp at hr; omega
        · rw [if_neg hb] at hr
          simp only [Prod.mk.injEq] at hr
          exact ⟨c, cs, by omega, fun hi => by omega, by rw [restF_small h]; rfl, hr.1.symm, by rw [restF_small h]; simp; omega, by omega⟩
      · simp only [rdF, if_neg h] at hr
        simp at hr; omega
  | succ j ih =>
    intro N p i cs m k hi1 hc hr hk
    cases cs with
    | nil => simp [rdF] at hr; omega
    | cons c cs =>
      have hcc := hc c List.mem_cons_self
      by_cases h : c < 128
      · simp only [rdF, if_pos h] at hr
        rw [show c % 128 = c by omega] at hr
        by_cases hb : 268435456 < N + c * p ∨ (1 < i ∧ c = 0)
        · rw [if_pos hb] at hr; simp at hr; omega
        · rw [if_neg hb] at hr
          simp only [Prod.mk.injEq] at hr
          exact ⟨c, cs, by omega, fun hi => by omega, by rw [restF_small h]; rfl, hr.1.symm, by rw [restF_small h]; simp; omega, by omega⟩
      · rw [show rdF (j + 1 + 1) N p i (c :: cs) = rdF (j + 1) (N + c % 128 * p) (p * 128) (i + 1) cs by simp only [rdF, if_neg h]] at hr
        obtain ⟨r, rest, h0, h1, h2, h3, h4, h5⟩ := ih _ _ _ _ m k (by omega) (fun y hy => hc y (List.mem_cons_of_mem _ hy)) hr hk
        have hr0 : 0 < r := h1 (by omega)
        have e1 : (c % 128 + 128 * r) % 128 = c % 128 := by omega
        have e2 : (c % 128 + 128 * r) / 128 = r := by omega
        have e3 := split_mul (c % 128 + 128 * r) p
        rw [e1, e2] at e3
        have e4 : restF (j + 1) (c % 128 + 128 * r) = c :: restF j r := by
          rw [restF_big (by omega), e1, e2]
          congr 1; omega
        refine ⟨c % 128 + 128 * r, rest, by omega, fun _ => by omega, by rw [e4, h2]; rfl, by omega, by rw [e4, List.length_cons]; omega, h5⟩

/-- ReadPrefixed over bytes. -/
def rdL (l : List Int) (b : Int) : Int × Int := match l with
  | [] => (-1, 0)
  | x :: xs => if inB b 1 8 = true then (if x % pw b < pw b - 1 then (x % pw b, 1) else rdF 5 (x % pw b) 1 1 xs) else (-1, 0)
def hiL (l : List Int) (b : Int) : Int := match l with
  | [] => -1
  | x :: _ => if inB b 1 8 = true then x / pw b * pw b else -1

theorem bys_cons {s : ByteArray} (h : 0 < s.size) : bys s = (s[0].toNat : Int) :: (bys s).drop 1 := by
  have := bys_drop s 0 h
  simpa using this
theorem bys_nil {s : ByteArray} (h : s.size = 0) : bys s = [] := by
  have := bys_len s
  exact List.length_eq_zero_iff.1 (by omega)
theorem rdV_list (s : ByteArray) (b : Int) : rdV s b = rdL (bys s) b := by
  by_cases h : 0 < s.size
  · rw [bys_cons h]
    unfold rdV rdL
    rw [dif_pos h]
  · rw [rdV_empty (by omega), bys_nil (by omega)]; rfl
theorem hiV_list (s : ByteArray) (b : Int) : hiV s b = hiL (bys s) b := by
  by_cases h : 0 < s.size
  · rw [bys_cons h]
    unfold hiV hiL
    rw [dif_pos h]
    by_cases hb : inB b 1 8 = true
    · rw [if_pos (inB_true hb)]
      simp only [hb, if_true]
    · rw [if_neg (inB_false (by simpa using hb))]
      simp [hb]
  · rw [hiV_no (.inl (by omega)), bys_nil (by omega)]; rfl

theorem bys_strOf {l : List Int} (h : ∀ x ∈ l, 0 ≤ x ∧ x ≤ 255) : bys (strOf l) = l := by
  unfold bys strOf
  simp only [List.map_map]
  conv => rhs; rw [← List.map_id l]
  refine List.map_congr_left fun x hx => ?_
  exact u8_of (h x hx).1 (h x hx).2
theorem bys_append (a b : ByteArray) : bys (a ++ b) = bys a ++ bys b := by
  unfold bys
  rw [ByteArray.data_append, Array.toList_append, List.map_append]
theorem bys_inj {a b : ByteArray} (h : bys a = bys b) : a = b := by
  unfold bys at h
  have h2 : a.data.toList = b.data.toList := by
    have key : ∀ (l m : List UInt8), l.map (fun c => (c.toNat : Int)) = m.map (fun c => (c.toNat : Int)) → l = m := by
      intro l
      induction l with
      | nil => intro m hm; cases m with
        | nil => rfl
        | cons y m => simp at hm
      | cons x l ih => intro m hm; cases m with
        | nil => simp at hm
        | cons y m =>
          simp only [List.map_cons, List.cons.injEq] at hm
          have hxy : x = y := UInt8.toNat_inj.1 (by have := hm.1; omega)
          rw [ih m hm.2, hxy]
    exact key _ _ h
  obtain ⟨⟨x⟩⟩ := a
  obtain ⟨⟨y⟩⟩ := b
  simp at h2
  rw [h2]

theorem okP_bytes {n b h : Int} (k : okP n b h = true) : bys (preV n b h) = addHead h (bytesOf n (pw b - 1)) ∧ preV n b h = strOf (addHead h (bytesOf n (pw b - 1))) := by
  obtain ⟨⟨hn0, hn, h1, h8⟩, ⟨hh0, hh1⟩, hm, hf⟩ := okP_true k
  have e : preV n b h = strOf (addHead h (bytesOf n (pw b - 1))) := by simp [preV, k]
  refine ⟨?_, e⟩
  rw [e]
  refine bys_strOf ?_
  obtain ⟨x, xs, hb, hx0, hx1, hxs⟩ := bytesOf_cons hn0 hn h1 h8
  rw [hb]
  intro y hy
  rcases List.mem_cons.1 hy with rfl | hy
  · omega
  · exact hxs y hy

/-- What is read from what is written, whatever comes behind. -/
theorem law_read {n b h : Int} (k : okP n b h = true) (t : ByteArray) : rdV (preV n b h ++ t) b = (n, ((preV n b h).size : Int)) := by
  obtain ⟨⟨hn0, hn, h1, h8⟩, ⟨hh0, hh1⟩, hm, hf⟩ := okP_true k
  obtain ⟨e1, e2⟩ := okP_bytes k
  have hp := pw_lo h1 h8
  have hb : inB b 1 8 = true := decide_eq_true ⟨h1, h8⟩
  have hsz : ((preV n b h).size : Int) = ((bytesOf n (pw b - 1)).length : Int) := by rw [e2, strOf_size, addHead_len]
  rw [rdV_list, bys_append, e1, hsz]
  have hmod : ∀ y : Int, 0 ≤ y → y < pw b → (h + y) % pw b = y := fun y hy0 hy1 => by
    rw [Int.add_emod, hm, Int.zero_add, Int.emod_emod]
    exact Int.emod_eq_of_lt hy0 hy1
  unfold bytesOf
  by_cases hlt : n < pw b - 1
  · rw [if_pos hlt]
    simp only [addHead, rdL, List.cons_append, hb, if_true]
    rw [hmod n hn0 (by omega), if_pos hlt]
    simp
  · rw [if_neg hlt]
    simp only [addHead, rdL, List.cons_append, hb, if_true]
    rw [hmod (pw b - 1) (by omega) (by omega), if_neg (by omega), rdF_write 4 (n - (pw b - 1)) (pw b - 1) 1 1 _ (by omega) (by simp; omega) (by omega) (by omega) (by omega) (by omega)]
    refine Prod.ext ?_ ?_
    · simp only; omega
    · simp only [List.length_cons]; omega

theorem law_high {n b h : Int} (k : okP n b h = true) : hiV (preV n b h) b = h := by
  obtain ⟨⟨hn0, hn, h1, h8⟩, ⟨hh0, hh1⟩, hm, hf⟩ := okP_true k
  obtain ⟨e1, e2⟩ := okP_bytes k
  have hp := pw_lo h1 h8
  have hb : inB b 1 8 = true := decide_eq_true ⟨h1, h8⟩
  rw [hiV_list, e1]
  obtain ⟨x, xs, hbo, hx0, hx1, hxs⟩ := bytesOf_cons hn0 hn h1 h8
  rw [hbo]
  simp only [addHead, hiL, hb, if_true]
  have e : (h + x) / pw b = h / pw b := by
    have hd : h = pw b * (h / pw b) := by have := Int.emod_add_mul_ediv h (pw b); omega
    rw [hd, Int.add_comm, Int.add_mul_ediv_left _ _ (by omega), Int.mul_ediv_cancel_left _ (by omega), Int.ediv_eq_zero_of_lt hx0 hx1]
    omega
  rw [e]
  have := Int.emod_add_mul_ediv h (pw b)
  rw [Int.mul_comm]
  omega

theorem law_size {n b h : Int} (k : okP n b h = true) : 0 < (preV n b h).size ∧ (preV n b h).size ≤ 6 ∧ ((preV n b h).size = 1 ↔ n < pw b - 1) := by
  obtain ⟨⟨hn0, hn, h1, h8⟩, ⟨hh0, hh1⟩, hm, hf⟩ := okP_true k
  obtain ⟨e1, e2⟩ := okP_bytes k
  rw [e2, strOf_size, addHead_len]
  have := bytesOf_len n (pw b - 1)
  refine ⟨this.1, this.2, ?_⟩
  unfold bytesOf
  split
  · rename_i hlt; simp [hlt]
  · rename_i hlt
    have := restF_ne 4 (n - (pw b - 1))
    simp only [List.length_cons]
    constructor
    · intro e; omega
    · intro e; exact absurd e hlt

/-- What is written of what was read is what it was read from. -/
theorem law_written {t : ByteArray} {b : Int} (hk : 0 < (rdV t b).2) : preV (rdV t b).1 b (hiV t b) = t.extract 0 (rdV t b).2.toNat ∧ wdV (rdV t b).1 b = (rdV t b).2 ∧ (rdV t b).2 ≤ t.size ∧ (rdV t b).2 ≤ 6 := by
  by_cases hb : inB b 1 8 = true
  · by_cases h : 0 < t.size
    · obtain ⟨h1, h8⟩ := inB_true hb
      have hp := pw_lo h1 h8
      have hbc := bys_cons h
      have hrange := bys_range t
      have hlen := bys_len t
      have hx : 0 ≤ (t[0].toNat : Int) ∧ (t[0].toNat : Int) ≤ 255 := by have := t[0].toNat_lt; omega
      rw [rdV_list] at hk ⊢
      rw [hiV_list]
      revert hk
      rw [hbc]
      simp only [rdL, hiL, hb, if_true]
      generalize (t[0].toNat : Int) = x at *
      generalize (bys t).drop 1 = xs at *
      have hm0 := Int.emod_nonneg x (show pw b ≠ 0 by omega)
      have hm1 := Int.emod_lt_of_pos x (show (0 : Int) < pw b by omega)
      have hdm : x / pw b * pw b + x % pw b = x := by have := Int.emod_add_mul_ediv x (pw b); rw [Int.mul_comm] at this; omega
      have hq0 : 0 ≤ x / pw b * pw b := by
        have : 0 ≤ x / pw b := Int.ediv_nonneg hx.1 (by omega)
        exact Int.mul_nonneg this (by omega)
      have hq1 : (x / pw b * pw b) % pw b = 0 := Int.mul_emod_left _ _
      have hkey : ∀ (m : Int) (k : Nat), 0 ≤ m → m ≤ 268435456 → (bytesOf m (pw b - 1)).length = k → addHead (x / pw b * pw b) (bytesOf m (pw b - 1)) = (x :: xs).take k → k ≤ t.size →
          preV m b (x / pw b * pw b) = t.extract 0 k ∧ wdV m b = (k : Int) ∧ (k : Int) ≤ t.size ∧ (k : Int) ≤ 6 := by
        intro m k hm0' hm1' hl he hks
        have hok : okN m b = true := decide_eq_true ⟨hm0', hm1', h1, h8⟩
        have hop : okP m b (x / pw b * pw b) = true := by
          have : inB (x / pw b * pw b) 0 255 = true := decide_eq_true ⟨hq0, by omega⟩
          simp [okP, hok, this, hq1]
        refine ⟨?_, by rw [wdV_yes hok, hl], by omega, by have := (bytesOf_len m (pw b - 1)).2; omega⟩
        refine bys_inj ?_
        rw [(okP_bytes hop).1, he, ← hbc]
        unfold bys
        rw [ByteArray.data_extract, Array.toList_extract]
        simp [List.map_take]
      by_cases hlt : x % pw b < pw b - 1
      · rw [if_pos hlt]
        intro _
        have hbo : bytesOf (x % pw b) (pw b - 1) = [x % pw b] := by simp [bytesOf, hlt]
        exact hkey (x % pw b) 1 hm0 (by omega) (by rw [hbo]; rfl) (by rw [hbo]; simp [addHead, hdm]) (by omega)
      · rw [if_neg hlt]
        intro hk
        obtain ⟨r, rest, r0, r1, r2, r3, r4, r5⟩ := rdF_read 4 (x % pw b) 1 1 xs _ _ (by omega) (fun c hc => hrange c (by rw [hbc]; exact List.mem_cons_of_mem _ hc)) rfl hk
        generalize rdF 5 (x % pw b) 1 1 xs = R at *
        obtain ⟨m, k⟩ := R
        simp only at r3 r4 r5 hk ⊢
        have hF : x % pw b = pw b - 1 := by omega
        have hbo : bytesOf m (pw b - 1) = (pw b - 1) :: restF 4 r := by
          unfold bytesOf
          rw [if_neg (by omega), show m - (pw b - 1) = r by omega]
        have hk' : k = ((1 + (restF 4 r).length : Nat) : Int) := by omega
        have := hkey m (1 + (restF 4 r).length) (by omega) r5 (by rw [hbo, List.length_cons]; omega) (by
          rw [hbo, Nat.add_comm 1, List.take_succ_cons, r2]
          simp only [addHead, List.take_left']
          congr 1
          omega) (by
          rw [← hlen, hbc, r2]; simp; omega)
        rw [hk', Int.toNat_natCast]
        exact this
    · rw [rdV_empty (by omega)] at hk; simp at hk
  · rw [rdV_bits (by simpa using hb)] at hk; simp at hk
end Go.Proofs.Ytiilmbbgngpleaa
