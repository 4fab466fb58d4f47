/- Several small texts of one level, one behind the other. -/
import Derived.Test.YtllaeakeaabiaaaGreatQG5
import Derived.Test.YtllaeakeaabiaaaGreatQG4
import Derived.Test.YtllaeakeaabiaaaGreatQG7
import Derived.Test.YtllaeakeaabiaaaGreatQG3
import Derived.Test.YtllaeakeaabiaaaGreatQG6
import Derived.Test.YtllaeakeaabiaaaGreatQG2
import Derived.Deep.DeepCutAuto
import Derived.Deep.RegionHeld3
import Derived.Deep.Cut
import Derived.Deep.QuietTactic
import Derived.DeepKeys
/- Plain mathematics of chapter 3's law: a number is read from what it is written as, whatever comes behind and above. -/
namespace Go.Proofs.YtllaeakeaabiaaaGreat
open Go.RowKit
set_option maxRecDepth 100000
set_option linter.unusedVariables false

theorem split_mul (r p : Int) : r % 128 * p + r / 128 * (p * 128) = r * p := by
  have e : r * p = (r % 128 + 128 * (r / 128)) * p := by rw [Int.emod_add_mul_ediv]
  rw [e, Int.add_mul, Int.mul_comm (r / 128) (p * 128), Int.mul_assoc p, Int.mul_comm p]

theorem rdF_write (k : Nat) : ∀ (r N p : Int) (i : Nat) (cs : List Int), 0 ≤ r → r < 128 ^ (k + 1) → 0 ≤ N → 1 ≤ p → (1 < i → 0 < r) → N + r * p ≤ 268435456 → rdF (k + 1) N p i (restF k r ++ cs) = (N + r * p, (i : Int) + (restF k r).length) := by
  induction k with
  | zero =>
    intro r N p i cs h0 h1 hN hp hi hm
    simp at h1
    rw [restF_small h1]
    simp only [List.singleton_append, rdF, if_pos h1]
    rw [show r % 128 = r by omega, if_neg (by omega)]
    simp
  | succ k ih =>
    intro r N p i cs h0 h1 hN hp hi hm
    by_cases h : r < 128
    · rw [restF_small h]
      simp only [List.singleton_append, rdF, if_pos h]
      rw [show r % 128 = r by omega, if_neg (by omega)]
      simp
    · rw [restF_big (by omega)]
      have hc : ¬ (r % 128 + 128 < 128) := by omega
      simp only [List.cons_append, rdF, if_neg hc]
      have e1 : (r % 128 + 128) % 128 = r % 128 := by omega
      have e2 := split_mul r p
      have h2 : 0 ≤ r % 128 * p := Int.mul_nonneg (by omega) (by omega)
      rw [e1, ih (r / 128) (N + r % 128 * p) (p * 128) (i + 1) cs (by omega) (by rw [Int.pow_succ] at h1; omega) (by omega) (by omega) (fun _ => by omega) (by omega)]
      simp only [List.length_cons]
      refine Prod.ext ?_ ?_
      · simp only; omega
      · simp only; omega

theorem rdF_read (j : Nat) : ∀ (N p : Int) (i : Nat) (cs : List Int) (m k : Int), 1 ≤ i → (∀ c ∈ cs, 0 ≤ c ∧ c ≤ 255) → rdF (j + 1) N p i cs = (m, k) → 0 < k →
    ∃ (r : Int) (rest : List Int), 0 ≤ r ∧ (1 < i → 0 < r) ∧ cs = restF j r ++ rest ∧ m = N + r * p ∧ k = (i : Int) + (restF j r).length ∧ m ≤ 268435456 := by
  induction j with
  | zero =>
    intro N p i cs m k hi1 hc hr hk
    cases cs with
    | nil => simp [rdF] at hr; omega
    | cons c cs =>
      have hcc := hc c List.mem_cons_self
      by_cases h : c < 128
      · simp only [rdF, if_pos h] at hr
        rw [show c % 128 = c by omega] at hr
        by_cases hb : 268435456 < N + c * p ∨ (1 < i ∧ c = 0)
        · rw [if_pos hb] at hr; simp at hr; omega
        · rw [if_neg hb] at hr
          simp only [Prod.mk.injEq] at hr
          exact ⟨c, cs, by omega, fun hi => by omega, by rw [restF_small h]; rfl, hr.1.symm, by rw [restF_small h]; simp; omega, by omega⟩
      · simp only [rdF, if_neg h] at hr
        simp at hr; omega
  | succ j ih =>
    intro N p i cs m k hi1 hc hr hk
    cases cs with
    | nil => simp [rdF] at hr; omega
    | cons c cs =>
      have hcc := hc c List.mem_cons_self
      by_cases h : c < 128
      · simp only [rdF, if_pos h] at hr
        rw [show c % 128 = c by omega] at hr
        by_cases hb : 268435456 < N + c * p ∨ (1 < i ∧ c = 0)
        · rw [if_pos hb] at hr; simp at hr; omega
        · rw [if_neg hb] at hr
          simp only [Prod.mk.injEq] at hr
          exact ⟨c, cs, by omega, fun hi => by omega, by rw [restF_small h]; rfl, hr.1.symm, by rw [restF_small h]; simp; omega, by omega⟩
      · rw [show rdF (j + 1 + 1) N p i (c :: cs) = rdF (j + 1) (N + c % 128 * p) (p * 128) (i + 1) cs by simp only [rdF, if_neg h]] at hr
        obtain ⟨r, rest, h0, h1, h2, h3, h4, h5⟩ := ih _ _ _ _ m k (by omega) (fun y hy => hc y (List.mem_cons_of_mem _ hy)) hr hk
        have hr0 : 0 < r := h1 (by omega)
        have e1 : (c % 128 + 128 * r) % 128 = c % 128 := by omega
        have e2 : (c % 128 + 128 * r) / 128 = r := by omega
        have e3 := split_mul (c % 128 + 128 * r) p
        rw [e1, e2] at e3
        have e4 : restF (j + 1) (c % 128 + 128 * r) = c :: restF j r := by
          rw [restF_big (by omega), e1, e2]
          congr 1; omega
        refine ⟨c % 128 + 128 * r, rest, by omega, fun _ => by omega, by rw [e4, h2]; rfl, by omega, by rw [e4, List.length_cons]; omega, h5⟩

/-- ReadPrefixed over bytes. -/
def rdL (l : List Int) (b : Int) : Int × Int := match l with
  | [] => (-1, 0)
  | x :: xs => if inB b 1 8 = true then (if x % pw b < pw b - 1 then (x % pw b, 1) else rdF 5 (x % pw b) 1 1 xs) else (-1, 0)
def hiL (l : List Int) (b : Int) : Int := match l with
  | [] => -1
  | x :: _ => if inB b 1 8 = true then x / pw b * pw b else -1

theorem rdV_list (s : ByteArray) (b : Int) : rdV s b = rdL (bys s) b := by
  by_cases h : 0 < s.size
  · rw [bys_cons h]
    unfold rdV rdL
    rw [dif_pos h]
  · rw [rdV_empty (by omega), bys_nil (by omega)]; rfl
theorem hiV_list (s : ByteArray) (b : Int) : hiV s b = hiL (bys s) b := by
  by_cases h : 0 < s.size
  · rw [bys_cons h]
    unfold hiV hiL
    rw [dif_pos h]
    by_cases hb : inB b 1 8 = true
    · rw [if_pos (inB_true hb)]
      simp only [hb, if_true]
    · rw [if_neg (inB_false (by simpa using hb))]
      simp [hb]
  · rw [hiV_no (.inl (by omega)), bys_nil (by omega)]; rfl

theorem okP_bytes {n b h : Int} (k : okP n b h = true) : bys (preV n b h) = addHead h (bytesOf n (pw b - 1)) ∧ preV n b h = strOf (addHead h (bytesOf n (pw b - 1))) := by
  obtain ⟨⟨hn0, hn, h1, h8⟩, ⟨hh0, hh1⟩, hm, hf⟩ := okP_true k
  have e : preV n b h = strOf (addHead h (bytesOf n (pw b - 1))) := by simp [preV, k]
  refine ⟨?_, e⟩
  rw [e]
  refine bys_strOf ?_
  obtain ⟨x, xs, hb, hx0, hx1, hxs⟩ := bytesOf_cons hn0 hn h1 h8
  rw [hb]
  intro y hy
  rcases List.mem_cons.1 hy with rfl | hy
  · omega
  · exact hxs y hy

/-- What is read from what is written, whatever comes behind. -/
theorem law_read {n b h : Int} (k : okP n b h = true) (t : ByteArray) : rdV (preV n b h ++ t) b = (n, ((preV n b h).size : Int)) := by
  obtain ⟨⟨hn0, hn, h1, h8⟩, ⟨hh0, hh1⟩, hm, hf⟩ := okP_true k
  obtain ⟨e1, e2⟩ := okP_bytes k
  have hp := pw_lo h1 h8
  have hb : inB b 1 8 = true := decide_eq_true ⟨h1, h8⟩
  have hsz : ((preV n b h).size : Int) = ((bytesOf n (pw b - 1)).length : Int) := by rw [e2, strOf_size, addHead_len]
  rw [rdV_list, bys_append, e1, hsz]
  have hmod : ∀ y : Int, 0 ≤ y → y < pw b → (h + y) % pw b = y := fun y hy0 hy1 => by
    rw [Int.add_emod, hm, Int.zero_add, Int.emod_emod]
    exact Int.emod_eq_of_lt hy0 hy1
  unfold bytesOf
  by_cases hlt : n < pw b - 1
  · rw [if_pos hlt]
    simp only [addHead, rdL, List.cons_append, hb, if_true]
    rw [hmod n hn0 (by omega), if_pos hlt]
    simp
  · rw [if_neg hlt]
    simp only [addHead, rdL, List.cons_append, hb, if_true]
    rw [hmod (pw b - 1) (by omega) (by omega), if_neg (by omega), rdF_write 4 (n - (pw b - 1)) (pw b - 1) 1 1 _ (by omega) (by simp; omega) (by omega) (by omega) (by omega) (by omega)]
    refine Prod.ext ?_ ?_
    · simp only; omega
    · simp only [List.length_cons]; omega

theorem law_high {n b h : Int} (k : okP n b h = true) : hiV (preV n b h) b = h := by
  obtain ⟨⟨hn0, hn, h1, h8⟩, ⟨hh0, hh1⟩, hm, hf⟩ := okP_true k
  obtain ⟨e1, e2⟩ := okP_bytes k
  have hp := pw_lo h1 h8
  have hb : inB b 1 8 = true := decide_eq_true ⟨h1, h8⟩
  rw [hiV_list, e1]
  obtain ⟨x, xs, hbo, hx0, hx1, hxs⟩ := bytesOf_cons hn0 hn h1 h8
  rw [hbo]
  simp only [addHead, hiL, hb, if_true]
  have e : (h + x) / pw b = h / pw b := by
    have hd : h = pw b * (h / pw b) := by have := Int.emod_add_mul_ediv h (pw b); omega
    rw [hd, Int.add_comm, Int.add_mul_ediv_left _ _ (by omega), Int.mul_ediv_cancel_left _ (by omega), Int.ediv_eq_zero_of_lt hx0 hx1]
    omega
  rw [e]
  have := Int.emod_add_mul_ediv h (pw b)
  rw [Int.mul_comm]
  omega

theorem law_size {n b h : Int} (k : okP n b h = true) : 0 < (preV n b h).size ∧ (preV n b h).size ≤ 6 ∧ ((preV n b h).size = 1 ↔ n < pw b - 1) := by
  obtain ⟨⟨hn0, hn, h1, h8⟩, ⟨hh0, hh1⟩, hm, hf⟩ := okP_true k
  obtain ⟨e1, e2⟩ := okP_bytes k
  rw [e2, strOf_size, addHead_len]
  have := bytesOf_len n (pw b - 1)
  refine ⟨this.1, this.2, ?_⟩
  unfold bytesOf
  split
  · rename_i hlt; simp [hlt]
  · rename_i hlt
    have := restF_ne 4 (n - (pw b - 1))
    simp only [List.length_cons]
    constructor
    · intro e; omega
    · intro e; exact absurd e hlt

/-- What is written of what was read is what it was read from. -/
theorem law_written {t : ByteArray} {b : Int} (hk : 0 < (rdV t b).2) : preV (rdV t b).1 b (hiV t b) = t.extract 0 (rdV t b).2.toNat ∧ wdV (rdV t b).1 b = (rdV t b).2 ∧ (rdV t b).2 ≤ t.size ∧ (rdV t b).2 ≤ 6 := by
  by_cases hb : inB b 1 8 = true
  · by_cases h : 0 < t.size
    · obtain ⟨h1, h8⟩ := inB_true hb
      have hp := pw_lo h1 h8
      have hbc := bys_cons h
      have hrange := bys_range t
      have hlen := bys_len t
      have hx : 0 ≤ (t[0].toNat : Int) ∧ (t[0].toNat : Int) ≤ 255 := by have := t[0].toNat_lt; omega
      rw [rdV_list] at hk ⊢
      rw [hiV_list]
      revert hk
      rw [hbc]
      simp only [rdL, hiL, hb, if_true]
      generalize (t[0].toNat : Int) = x at *
      generalize (bys t).drop 1 = xs at *
      have hm0 := Int.emod_nonneg x (show pw b ≠ 0 by omega)
      have hm1 := Int.emod_lt_of_pos x (show (0 : Int) < pw b by omega)
      have hdm : x / pw b * pw b + x % pw b = x := by have := Int.emod_add_mul_ediv x (pw b); rw [Int.mul_comm] at this; omega
      have hq0 : 0 ≤ x / pw b * pw b := by
        have : 0 ≤ x / pw b := Int.ediv_nonneg hx.1 (by omega)
        exact Int.mul_nonneg this (by omega)
      have hq1 : (x / pw b * pw b) % pw b = 0 := Int.mul_emod_left _ _
      have hkey : ∀ (m : Int) (k : Nat), 0 ≤ m → m ≤ 268435456 → (bytesOf m (pw b - 1)).length = k → addHead (x / pw b * pw b) (bytesOf m (pw b - 1)) = (x :: xs).take k → k ≤ t.size →
          preV m b (x / pw b * pw b) = t.extract 0 k ∧ wdV m b = (k : Int) ∧ (k : Int) ≤ t.size ∧ (k : Int) ≤ 6 := by
        intro m k hm0' hm1' hl he hks
        have hok : okN m b = true := decide_eq_true ⟨hm0', hm1', h1, h8⟩
        have hop : okP m b (x / pw b * pw b) = true := by
          have : inB (x / pw b * pw b) 0 255 = true := decide_eq_true ⟨hq0, by omega⟩
          simp [okP, hok, this, hq1]
        refine ⟨?_, by rw [wdV_yes hok, hl], by omega, by have := (bytesOf_len m (pw b - 1)).2; omega⟩
        refine bys_inj ?_
        rw [(okP_bytes hop).1, he, ← hbc]
        unfold bys
        rw [ByteArray.data_extract, Array.toList_extract]
        simp [List.map_take]
      by_cases hlt : x % pw b < pw b - 1
      · rw [if_pos hlt]
        intro _
        have hbo : bytesOf (x % pw b) (pw b - 1) = [x % pw b] := by simp [bytesOf, hlt]
        exact hkey (x % pw b) 1 hm0 (by omega) (by rw [hbo]; rfl) (by rw [hbo]; simp [addHead, hdm]) (by omega)
      · rw [if_neg hlt]
        intro hk
        obtain ⟨r, rest, r0, r1, r2, r3, r4, r5⟩ := rdF_read 4 (x % pw b) 1 1 xs _ _ (by omega) (fun c hc => hrange c (by rw [hbc]; exact List.mem_cons_of_mem _ hc)) rfl hk
        generalize rdF 5 (x % pw b) 1 1 xs = R at *
        obtain ⟨m, k⟩ := R
        simp only at r3 r4 r5 hk ⊢
        have hF : x % pw b = pw b - 1 := by omega
        have hbo : bytesOf m (pw b - 1) = (pw b - 1) :: restF 4 r := by
          unfold bytesOf
          rw [if_neg (by omega), show m - (pw b - 1) = r by omega]
        have hk' : k = ((1 + (restF 4 r).length : Nat) : Int) := by omega
        have := hkey m (1 + (restF 4 r).length) (by omega) r5 (by rw [hbo, List.length_cons]; omega) (by
          rw [hbo, Nat.add_comm 1, List.take_succ_cons, r2]
          simp only [addHead, List.take_left']
          congr 1
          omega) (by
          rw [← hlen, hbc, r2]; simp; omega)
        rw [hk', Int.toNat_natCast]
        exact this
    · rw [rdV_empty (by omega)] at hk; simp at hk
  · rw [rdV_bits (by simpa using hb)] at hk; simp at hk
end Go.Proofs.YtllaeakeaabiaaaGreat
/- Chapter 3's ReadPrefixed of the program: the parts added up, and held against Width. -/
namespace Go.Proofs.YtllaeakeaabiaaaGreat
open Go.RowKit Go.Shelf
attribute [local go_sem] Oper.semAt_some
set_option linter.unusedSimpArgs false
set_option linter.unusedVariables false

theorem wrap_i64_64 (z : Int) : IntKind.i64.wrap z = wrap64 z := by rw [IntKind.wrap_i64]; unfold wrap64; omega
theorem box_far {W : World} {B : Nat} {t : TypeId} {v : Value} (h : Boxed W B t v) (b : Nat) (hne : b ≠ B) (v' : Value) : Boxed (W.setCell ⟨b, 0, none⟩ v') B t v := (Below.heap_setCell _ _ _ _ (by simpa using hne.symm)).trans h
theorem read_round {w0 W : World} {pre : List (Int × Bool)} {x : Int × Bool} {N : Nat} (c0 : Boxed W w0.heap.size 2 (.int .i64 (sumWr pre))) (c1 : Boxed W (w0.heap.size + 1) 2 (.int .i64 (pre.length : Int))) (c2 : Boxed W (w0.heap.size + 1 + 1) 4 (.bool (lastB pre))) (hB : Below w0.heap.size w0 W) (hN : pre.length < N) (hN6 : N ≤ 6) :
    let V := (((W.setCell ⟨w0.heap.size, 0, none⟩ (.int .i64 (IntKind.i64.wrap (sumWr pre + x.1)))).setCell ⟨w0.heap.size + 1, 0, none⟩ (.int .i64 (IntKind.i64.wrap ((pre.length : Int) + 1)))).setCell ⟨w0.heap.size + 1 + 1, 0, none⟩ (.bool x.2)).drew
    KeepsOthers W V ∧ Kept2 (w0.heap.size + 1 + 1 + 1) (w0.heap.size + 1 + 1 + 1 + 1) W V ∧ Boxed V w0.heap.size 2 (.int .i64 (sumWr (pre ++ [x]))) ∧ Boxed V (w0.heap.size + 1) 2 (.int .i64 ((pre ++ [x]).length : Int)) ∧ Boxed V (w0.heap.size + 1 + 1) 4 (.bool (lastB (pre ++ [x]))) ∧ Below w0.heap.size w0 V := by
  intro V
  have e1 : IntKind.i64.wrap (sumWr pre + x.1) = sumWr (pre ++ [x]) := by rw [sumW_snoc, wrap_i64_64]
  have e2 : IntKind.i64.wrap ((pre.length : Int) + 1) = ((pre ++ [x]).length : Int) := by rw [wrap_i64_64]; unfold wrap64; simp; omega
  refine ⟨(((KeepsOthers.setCell _ _ _).trans (KeepsOthers.setCell _ _ _)).trans (KeepsOthers.setCell _ _ _)).trans (KeepsOthers.drew _), ⟨?_, ?_⟩, ?_, ?_, ?_, ?_⟩
  · exact ((Below.heap_setCell _ ⟨w0.heap.size + 1 + 1, 0, none⟩ _ _ (by simp)).trans (Below.heap_setCell _ ⟨w0.heap.size + 1, 0, none⟩ _ _ (by simp; omega))).trans (Below.heap_setCell _ ⟨w0.heap.size, 0, none⟩ _ _ (by simp; omega))
  · exact ((Below.heap_setCell _ ⟨w0.heap.size + 1 + 1, 0, none⟩ _ _ (by simp; omega)).trans (Below.heap_setCell _ ⟨w0.heap.size + 1, 0, none⟩ _ _ (by simp; omega))).trans (Below.heap_setCell _ ⟨w0.heap.size, 0, none⟩ _ _ (by simp; omega))
  · rw [← e1]
    exact box_far (box_far (c0.set _) (w0.heap.size + 1) (by omega) _) (w0.heap.size + 1 + 1) (by omega) _
  · rw [← e2]
    exact box_far ((box_far c1 w0.heap.size (by omega) _).set _) (w0.heap.size + 1 + 1) (by omega) _
  · rw [lastB_snoc]
    exact (box_far (box_far c2 w0.heap.size (by omega) _) (w0.heap.size + 1) (by omega) _).set _
  · exact ((((hB.setCell (p := ⟨w0.heap.size, 0, none⟩) (Nat.le_refl _) _).setCell (p := ⟨w0.heap.size + 1, 0, none⟩) (by simp) _).setCell (p := ⟨w0.heap.size + 1 + 1, 0, none⟩) (by simp; omega) _)).drew

set_option maxRecDepth 100000 in
set_option maxHeartbeats 4000000 in
theorem implRead (s : ByteArray) (b : Int) (w : World) (hs : s.size ≤ maxLen) : Calls Tryz.prog 232 #[.string s, .int .i64 b] w fun e w' => e = .returned (.tuple #[.int .i64 (rdV s b).1, .int .i64 (rdV s b).2]) ∧ Below w.heap.size w w' := by
  cases hb : inB b 1 8
  · rw [rdV_bits hb]
    go_enter Tryz.func232, Tryz.ntmps232
    go_wp2_with (go_at_call 248; refine (implPrefixBits _ _).mono ?_; rw [hb]; rintro e w' ⟨rfl, rfl⟩)
    go_ret2
    exact ⟨rfl, Below.refl _ _⟩
  obtain ⟨h1, h8⟩ := inB_true hb
  obtain ⟨hp1, hp2⟩ := pw_lo h1 h8
  have hlen := ptV_len s b
  have hmx : Tryz.prog.follows .mixedOrders = true := by kernel_rfl
  refine (callsIn_wide (n := 4)).1 ?_
  refine callsIn_of_wp_marks Tryz.func232 rfl trivial ?_ rfl
  simp only [Tryz.ntmps232, List.size_toArray, List.length_cons, List.length_nil, Nat.reduceAdd, Nat.reduceSub, Array.replicate_succ, Array.replicate_zero, List.push_toArray, List.append_toArray, List.nil_append, List.cons_append]
  gi_wp2_with (first | (refine ⟨trivial, ?_⟩; gi_at_call 248; refine (callsIn_wide.2 (implPrefixBits b _)).mono ?_; rw [hb]; rintro e w0 ⟨rfl, rfl⟩) | (refine ⟨trivial, ?_⟩; gi_at_call 249; refine (prefixParts_in _ s b _).mono ?_; rintro e w1 ⟨rfl, rfl⟩))
  have b0 := Boxed.new w0 2 (.int .i64 0)
  have b1 := Boxed.new (w0.alloc (.cells #[.int .i64 0] 2)) 2 (.int .i64 0)
  have b2 := Boxed.new ((w0.alloc (.cells #[.int .i64 0] 2)).alloc (.cells #[.int .i64 0] 2)) 4 (.bool false)
  have b3 := Boxed.new (((w0.alloc (.cells #[.int .i64 0] 2)).alloc (.cells #[.int .i64 0] 2)).alloc (.cells #[.bool false] 4)) 9 (.string s)
  have b4 := Boxed.new ((((w0.alloc (.cells #[.int .i64 0] 2)).alloc (.cells #[.int .i64 0] 2)).alloc (.cells #[.bool false] 4)).alloc (.cells #[.string s] 9)) 2 (.int .i64 b)
  simp only [World.size_alloc] at b1 b2 b3 b4
  have hB0 : Below w0.heap.size w0 (((((w0.alloc (.cells #[.int .i64 0] 2)).alloc (.cells #[.int .i64 0] 2)).alloc (.cells #[.bool false] 4)).alloc (.cells #[.string s] 9)).alloc (.cells #[.int .i64 b] 2)) := (((((Below.refl _ w0).alloc (Nat.le_refl _) _).alloc (by simp) _).alloc (by simp; omega) _).alloc (by simp; omega) _).alloc (by simp; omega) _
  refine wpIn_rangeFunc_ownF rfl (by omega) (gf := 256) (lb := #[.pointer (some ⟨w0.heap.size + 1 + 1 + 1, 0, none⟩), .pointer (some ⟨w0.heap.size + 1 + 1 + 1 + 1, 0, none⟩)]) rfl trivial (enters_of Tryz.func256 (by kernel_rfl) rfl)
    (parts_stops _ (by omega) (w0.heap.size + 1 + 1 + 1) (w0.heap.size + 1 + 1 + 1 + 1) s b hs h1 h8 _ (b3.alloc _) b4) kept2_t (kept2_b (by simp) (by simp)) (Below.refl _ _) (fun _ => rfl)
    (fun pre W => Boxed W w0.heap.size 2 (.int .i64 (sumWr pre)) ∧ Boxed W (w0.heap.size + 1) 2 (.int .i64 (pre.length : Int)) ∧ Boxed W (w0.heap.size + 1 + 1) 4 (.bool (lastB pre)) ∧ Below w0.heap.size w0 W)
    (fun _ _ _ => False)
    (OwnFrom.and (Own.from (boxed_own _ _ _) _) (OwnFrom.and (Own.from (boxed_own _ _ _) _) (OwnFrom.and (Own.from (boxed_own _ _ _) _) (ownFrom_below (Nat.le_refl _) (by simp; omega)))))
    (fun _ _ _ _ _ hs _ _ => hs)
    ⟨(((b0.alloc _).alloc _).alloc _).alloc _, ((b1.alloc _).alloc _).alloc _, (b2.alloc _).alloc _, hB0⟩
    (fun x => { tmps := #[.string s, .int .i64 b, undef, undef, .int .i64 0, .int .i64 0, .pointer (some ⟨w0.heap.size, 0, none⟩), .pointer (some ⟨w0.heap.size + 1, 0, none⟩), .pointer (some ⟨w0.heap.size + 1 + 1, 0, none⟩), .int .i64 x.1, .bool x.2, .int .i64 b, .bool true, .bool false, .string s, .int .i64 b, .func (.func 256) #[] #[.pointer (some ⟨w0.heap.size + 1 + 1 + 1, 0, none⟩), .pointer (some ⟨w0.heap.size + 1 + 1 + 1 + 1, 0, none⟩)], .int .i64 x.1, .bool x.2, undef, undef, undef, undef, undef, undef, undef, undef, undef, undef, undef, undef, undef, undef, undef, undef, undef], defers := [] }) ?assign ?body ?done ?stop
  case assign =>
    intro l x W K hK
    gi_wp2
    exact hK
  case body =>
    rintro l pre x W ⟨c0, c1, c2, hB⟩ hpl
    have e0 := c0.cell
    have e1 := c1.cell
    have e2 := c2.cell
    have f0 := c0.frozen
    have f1 := c1.frozen
    have f2 := c2.frozen
    gi_wp2
    refine region_round rfl hmx (by kernel_rfl) ?_
    refine wpAnyIn_take (i := 1) (v := ?_) rfl rfl (by kernel_rfl) (by kernel_rfl) (by kernel_rfl) (fun _ _ _ h => h) ⟨Or.inl ⟨by rfl, ?_⟩, fun _ => rfl⟩ ?_; rotate_left; focus (intro w; go_simp; try with_reducible rfl)
    refine wpAnyIn_take (i := 5) (v := ?_) rfl rfl (by kernel_rfl) (by kernel_rfl) (by kernel_rfl) (fun _ _ _ h => h) ⟨Or.inl ⟨by rfl, ?_⟩, fun _ => rfl⟩ ?_; rotate_left; focus (intro w; go_simp; try with_reducible rfl)
    refine wpAnyIn_ready (rs := [0, 3]) (by kernel_rfl) (by simp) ?_
    refine AllReadyIn.cons rfl (fun K hK => ?_) (AllReadyIn.cons rfl (fun K hK => ?_) AllReadyIn.nil)
    · go_simp
      refine hK _ _ ?_; clear hK K
      refine wpAnyIn_take (i := 2) (v := ?_) rfl rfl (by kernel_rfl) (by kernel_rfl) (by kernel_rfl) (fun _ _ _ h => h) ⟨Or.inl ⟨by rfl, ?_⟩, fun _ => rfl⟩ ?_; rotate_left; focus (intro w; go_simp; try with_reducible rfl)
      refine wpAnyIn_ready (rs := [3, 6]) (by kernel_rfl) (by simp) ?_
      refine AllReadyIn.cons rfl (fun K hK => ?_) (AllReadyIn.cons rfl (fun K hK => ?_) AllReadyIn.nil)
      · go_simp
        refine hK _ _ ?_; clear hK K
        refine wpAnyIn_take (i := 4) (v := ?_) rfl rfl (by kernel_rfl) (by kernel_rfl) (by kernel_rfl) (fun _ _ _ h => h) ⟨Or.inl ⟨by rfl, ?_⟩, fun _ => rfl⟩ ?_; rotate_left; focus (intro w; go_simp; try with_reducible rfl)
        refine wpAnyIn_ready (rs := [6]) (by kernel_rfl) (by simp) ?_; refine AllReadyIn.cons rfl (fun K hK => ?_) AllReadyIn.nil; go_simp; refine hK _ _ ?_; clear hK K
        refine wpAnyIn_ready (rs := [7]) (by kernel_rfl) (by simp) ?_; refine AllReadyIn.cons rfl (fun K hK => ?_) AllReadyIn.nil; go_simp; refine hK _ _ ?_; clear hK K
        refine wpAnyIn_ready (rs := [8]) (by kernel_rfl) (by simp) ?_; refine AllReadyIn.cons rfl (fun K hK => ?_) AllReadyIn.nil; go_simp; refine hK _ _ ?_; clear hK K
        refine wpAnyIn_done (by kernel_rfl) ?_ _
        gi_wp2
        exact read_round c0 c1 c2 hB hpl hlen
      · go_simp
        refine hK _ _ ?_; clear hK K
        refine wpAnyIn_ready (rs := [3]) (by kernel_rfl) (by simp) ?_; refine AllReadyIn.cons rfl (fun K hK => ?_) AllReadyIn.nil; go_simp; refine hK _ _ ?_; clear hK K
        refine wpAnyIn_take (i := 4) (v := ?_) rfl rfl (by kernel_rfl) (by kernel_rfl) (by kernel_rfl) (fun _ _ _ h => h) ⟨Or.inl ⟨by rfl, ?_⟩, fun _ => rfl⟩ ?_; rotate_left; focus (intro w; go_simp; try with_reducible rfl)
        refine wpAnyIn_ready (rs := [7]) (by kernel_rfl) (by simp) ?_; refine AllReadyIn.cons rfl (fun K hK => ?_) AllReadyIn.nil; go_simp; refine hK _ _ ?_; clear hK K
        refine wpAnyIn_ready (rs := [8]) (by kernel_rfl) (by simp) ?_; refine AllReadyIn.cons rfl (fun K hK => ?_) AllReadyIn.nil; go_simp; refine hK _ _ ?_; clear hK K
        refine wpAnyIn_done (by kernel_rfl) ?_ _
        gi_wp2
        exact read_round c0 c1 c2 hB hpl hlen
    · go_simp
      refine hK _ _ ?_; clear hK K
      refine wpAnyIn_take (i := 4) (v := ?_) rfl rfl (by kernel_rfl) (by kernel_rfl) (by kernel_rfl) (fun _ _ _ h => h) ⟨Or.inl ⟨by rfl, ?_⟩, fun _ => rfl⟩ ?_; rotate_left; focus (intro w; go_simp; try with_reducible rfl)
      refine wpAnyIn_ready (rs := [0]) (by kernel_rfl) (by simp) ?_; refine AllReadyIn.cons rfl (fun K hK => ?_) AllReadyIn.nil; go_simp; refine hK _ _ ?_; clear hK K
      refine wpAnyIn_take (i := 2) (v := ?_) rfl rfl (by kernel_rfl) (by kernel_rfl) (by kernel_rfl) (fun _ _ _ h => h) ⟨Or.inl ⟨by rfl, ?_⟩, fun _ => rfl⟩ ?_; rotate_left; focus (intro w; go_simp; try with_reducible rfl)
      refine wpAnyIn_ready (rs := [6]) (by kernel_rfl) (by simp) ?_; refine AllReadyIn.cons rfl (fun K hK => ?_) AllReadyIn.nil; go_simp; refine hK _ _ ?_; clear hK K
      refine wpAnyIn_ready (rs := [7]) (by kernel_rfl) (by simp) ?_; refine AllReadyIn.cons rfl (fun K hK => ?_) AllReadyIn.nil; go_simp; refine hK _ _ ?_; clear hK K
      refine wpAnyIn_ready (rs := [8]) (by kernel_rfl) (by simp) ?_; refine AllReadyIn.cons rfl (fun K hK => ?_) AllReadyIn.nil; go_simp; refine hK _ _ ?_; clear hK K
      refine wpAnyIn_done (by kernel_rfl) ?_ _
      gi_wp2
      exact read_round c0 c1 c2 hB hpl hlen
  case done =>
    rintro D ys W hD hys ⟨c0, c1, c2, hB⟩ hK
    subst hys
    have e0 := c0.cell
    have e1 := c1.cell
    have e2 := c2.cell
    have l0 := c0.lt
    have l1 := c1.lt
    have l2 := c2.lt
    have HE : Hid (endR (sumWr (ptV s b)) ((ptV s b).length : Int) (lastB (ptV s b)) b = rdV s b) := endR_ptV hb
    cases hl : lastB (ptV s b)
    · have HR : Hid (rdV s b = (-1, 0)) := by show _ = _; rw [← HE.out, hl]; simp [endR]
      rw [hl] at e2
      clear HE
      gi_wp2
      refine wpIn_wide.2 ?_
      go_quiet (fail)
      gi_wp2
      have hK2 : (W.drewN nq).heap[D]? = some (.deferred (some [])) := hK
      refine ⟨by simp, .inl ⟨_, _, rfl, run_takeDeferred (hK2), ?_⟩⟩
      exact ⟨.tuple #[.int .i64 (-1), .int .i64 0], by simp [results, Tryz.results232, go_sem], by rw [HR.out], (bo_drewN nq hB).trans (belowK_b (w := w0) (Nat.le_refl _) _ D _ _ (by simp at hD; omega) (hK2) rfl rfl)⟩
    · rw [hl] at e2
      by_cases hw : wdV (sumWr (ptV s b)) b = ((ptV s b).length : Int)
      · have HR : Hid (rdV s b = (sumWr (ptV s b), ((ptV s b).length : Int))) := by show _ = _; rw [← HE.out, hl]; simp [endR, hw]
        clear HE
        have hne : Nonempty (Later W) := ⟨⟨W, Below.refl _ _⟩⟩
        have q0 : ∀ x : Later W, x.w.cell? ⟨w0.heap.size, 0, none⟩ = some (.int .i64 (sumWr (ptV s b))) := fun x => (x.b.cell (p := ⟨w0.heap.size, 0, none⟩) l0).trans e0
        have q1 : ∀ x : Later W, x.w.cell? ⟨w0.heap.size + 1, 0, none⟩ = some (.int .i64 ((ptV s b).length : Int)) := fun x => (x.b.cell (p := ⟨w0.heap.size + 1, 0, none⟩) l1).trans e1
        have q2 : ∀ x : Later W, x.w.cell? ⟨w0.heap.size + 1 + 1, 0, none⟩ = some (.bool true) := fun x => (x.b.cell (p := ⟨w0.heap.size + 1 + 1, 0, none⟩) l2).trans e2
        clear e0 e1 e2
        gi_wp2
        refine wpIn_wide.2 ?_
        refine region_later (by kernel_rfl) (by kernel_rfl) ?_
        go_big_quiet_step (fail)
        go_big_quiet_step (fail)
        go_big_quiet_step (fail)
        go_big_quiet_step (fail)
        go_big_quiet_step (fail)
        go_big_quiet_want; go_big_quiet_op
        refine ⟨.int .i64 (wdV (sumWr (ptV s b)) b), fun y => later_calls (x := y) ?_, ?_⟩
        · exact implWidth _ _ _
        go_big_quiet_on
        repeat (go_big_quiet_step (fail))
        refine wpQuiet_nil ?_
        intro _ hw'
        obtain ⟨y, hw''⟩ := hw'
        subst hw''
        have hby := y.b
        have hKy : y.w.heap[D]? = some (.deferred (some [])) := (hby.block D (Array.getElem?_eq_some_iff.1 hK).1).trans hK
        have r0 := q0 y
        have r1 := q1 y
        have hBy : Below w0.heap.size w0 y.w := hB.trans (hby.mono hB.size)
        gi_wp2
        refine wpIn_wide.2 ?_
        go_quiet (fail)
        gi_wp2
        have hK2 : (y.w.drewN nq).heap[D]? = some (.deferred (some [])) := hKy
        refine ⟨by simp, .inl ⟨_, _, rfl, run_takeDeferred hK2, ?_⟩⟩
        exact ⟨.tuple #[.int .i64 (sumWr (ptV s b)), .int .i64 ((ptV s b).length : Int)], by simp [results, Tryz.results232, go_sem], by rw [HR.out], (bo_drewN nq hBy).trans (belowK_b (w := w0) (Nat.le_refl _) _ D _ _ (by simp at hD; omega) hK2 rfl rfl)⟩
      · have HR : Hid (rdV s b = (-1, 0)) := by show _ = _; rw [← HE.out, hl]; simp [endR, hw]
        clear HE
        have hne : Nonempty (Later W) := ⟨⟨W, Below.refl _ _⟩⟩
        have q0 : ∀ x : Later W, x.w.cell? ⟨w0.heap.size, 0, none⟩ = some (.int .i64 (sumWr (ptV s b))) := fun x => (x.b.cell (p := ⟨w0.heap.size, 0, none⟩) l0).trans e0
        have q1 : ∀ x : Later W, x.w.cell? ⟨w0.heap.size + 1, 0, none⟩ = some (.int .i64 ((ptV s b).length : Int)) := fun x => (x.b.cell (p := ⟨w0.heap.size + 1, 0, none⟩) l1).trans e1
        have q2 : ∀ x : Later W, x.w.cell? ⟨w0.heap.size + 1 + 1, 0, none⟩ = some (.bool true) := fun x => (x.b.cell (p := ⟨w0.heap.size + 1 + 1, 0, none⟩) l2).trans e2
        clear e0 e1 e2
        gi_wp2
        refine wpIn_wide.2 ?_
        refine region_later (by kernel_rfl) (by kernel_rfl) ?_
        go_big_quiet_step (fail)
        go_big_quiet_step (fail)
        go_big_quiet_step (fail)
        go_big_quiet_step (fail)
        go_big_quiet_step (fail)
        go_big_quiet_want; go_big_quiet_op
        refine ⟨.int .i64 (wdV (sumWr (ptV s b)) b), fun y => later_calls (x := y) ?_, ?_⟩
        · exact implWidth _ _ _
        go_big_quiet_on
        repeat (go_big_quiet_step (fail))
        refine wpQuiet_nil ?_
        intro _ hw'
        obtain ⟨y, hw''⟩ := hw'
        subst hw''
        have hby := y.b
        have hKy : y.w.heap[D]? = some (.deferred (some [])) := (hby.block D (Array.getElem?_eq_some_iff.1 hK).1).trans hK
        have r0 := q0 y
        have r1 := q1 y
        have hBy : Below w0.heap.size w0 y.w := hB.trans (hby.mono hB.size)
        gi_wp2
        refine ⟨by simp, .inl ⟨_, _, rfl, run_takeDeferred (hKy), ?_⟩⟩
        exact ⟨.tuple #[.int .i64 (-1), .int .i64 0], by simp [results, Tryz.results232, go_sem], by rw [HR.out], (hBy).trans (belowK_b (w := w0) (Nat.le_refl _) _ D _ _ (by simp at hD; omega) (hKy) rfl rfl)⟩
  case stop =>
    rintro D c pre W _ _ h _
    exact h.elim
end Go.Proofs.YtllaeakeaabiaaaGreat
/- A Tunnel in the midst of a block: push and pull, in, out, back, torn. -/
namespace Go.Proofs.YtllaeakeaabiaaaGreat
open Go.RowKit
set_option maxRecDepth 100000
set_option linter.unusedSimpArgs false
set_option linter.unusedVariables false
theorem pushShutM (r : Int) (b : ByteArray) (e k : Bool) (s : ByteArray) (g op : Nat) (w : World) (hek : (e || k) = true)
    (hg2 : w.cell? ⟨g, op + 2, none⟩ = some (.bool e)) (hg3 : w.cell? ⟨g, op + 3, none⟩ = some (.bool k)) :
    Calls Tryz.prog 157 #[.pointer (some ⟨g, op, none⟩), .string s] w fun x w' => x = .returned (.int .i64 0) ∧ w' = w := by
  cases e
  · cases k
    · cases hek
    · go_enter Tryz.func157, Tryz.ntmps157
      go_wp2_with fail
      go_ret
      exact ⟨rfl, rfl⟩
  · go_enter Tryz.func157, Tryz.ntmps157
    go_wp2_with fail
    go_ret
    exact ⟨rfl, rfl⟩
theorem pushOpenM (r : Int) (b : ByteArray) (s : ByteArray) (g op : Nat) (w : World) (hs : s.size ≤ 1048576) (hr : r ≤ 2000) (hb : (b.size : Int) ≤ r)
    (n : Nat) (hn : min (s.size : Int) (r - b.size) = n)
    (hg0 : w.cell? ⟨g, op, none⟩ = some (.int .i64 r)) (hg1 : w.cell? ⟨g, op + 1, none⟩ = some (.string b)) (hg2 : w.cell? ⟨g, op + 2, none⟩ = some (.bool false)) (hg3 : w.cell? ⟨g, op + 3, none⟩ = some (.bool false))
    (hf : w.frozen? ⟨g, op + 1, none⟩ = false) :
    Calls Tryz.prog 157 #[.pointer (some ⟨g, op, none⟩), .string s] w fun x w' => x = .returned (.int .i64 n) ∧ ∃ q, w' = (w.drewN q).setCell ⟨g, op + 1, none⟩ (.string (b ++ s.extract 0 n)) := by
  have hns : n ≤ s.size := by omega
  go_enter Tryz.func157, Tryz.ntmps157
  go_wp2_with fail
  go_quiet ((go_at_call 85; exact Calls.quiet_of_same (specMin16 _ _ _)))
  go_wp2_with fail
  go_region
  go_wp2_with fail
  go_ret
  exact ⟨congrArg (fun z => Ending.returned (.int .i64 z)) hn, _, rfl⟩
theorem pullM (b : ByteArray) (n : Int) (g op : Nat) (w : World) (hb : b.size ≤ maxLen)
    (hg : w.cell? ⟨g, op + 1, none⟩ = some (.string b)) (hf : w.frozen? ⟨g, op + 1, none⟩ = false) :
    Calls Tryz.prog 86 #[.pointer (some ⟨g, op, none⟩), .int .i64 n] w fun x w' => x = .returned (.string (b.extract 0 (max 0 (min n b.size)).toNat)) ∧ w' = w.setCell ⟨g, op + 1, none⟩ (.string (b.extract (max 0 (min n b.size)).toNat b.size)) := by
  unfold maxLen at hb
  have h1 : 0 ≤ max 0 (min n (b.size : Int)) := by omega
  have h2 : max 0 (min n (b.size : Int)) ≤ b.size := by omega
  go_enter Tryz.func86, Tryz.ntmps86
  go_wp2_with fail
  refine (specMin16 _ _ _).mono ?_; rintro x w1 ⟨rfl, rfl⟩
  go_wp2_with fail
  refine (specMax16 _ _ _).mono ?_; rintro x w1 ⟨rfl, rfl⟩
  go_wp2_with fail
  go_ret
  exact ⟨rfl, rfl⟩
set_option maxHeartbeats 1000000 in
theorem l16In_eM (r : Int) (b : ByteArray) (k : Bool) (r2 : Int) (b2 : ByteArray) (e2 k2 : Bool) (wt cm : Int) (s : ByteArray) (fin : Bool) (g ot : Nat) (ty : TypeId) (A C : List Value) (w : World) (R : MidIs w g ty A C ot [.int .i64 r, .string b, .bool true, .bool k, .int .i64 r2, .string b2, .bool e2, .bool k2, .int .i64 wt, .int .i64 cm]) :
    Calls Tryz.prog 111 #[.pointer (some ⟨g, ot, none⟩), .string s, .bool fin] w fun x w' => x = .returned (.bool false) ∧ w' = w.drewN 1 := by
  have hx0 : World.cell? _ ⟨g, ot, none⟩ = some _ := MidIs.cell (j := 0) R rfl
  have hx1 : World.cell? _ ⟨g, ot + 1, none⟩ = some _ := MidIs.cell (j := 1) R rfl
  have hx2 : World.cell? _ ⟨g, ot + 2, none⟩ = some _ := MidIs.cell (j := 2) R rfl
  have hx3 : World.cell? _ ⟨g, ot + 3, none⟩ = some _ := MidIs.cell (j := 3) R rfl
  go_enter Tryz.func111, Tryz.ntmps111
  go_wp2_with fail
  refine wp_region_held_drew (S := (fun u => u.cell? ⟨g, ot, none⟩ = some (.int .i64 r) ∧ u.cell? ⟨g, ot + 1, none⟩ = some (.string b) ∧ u.cell? ⟨g, ot + 2, none⟩ = some (.bool true) ∧ u.cell? ⟨g, ot + 3, none⟩ = some (.bool k))) (by kernel_rfl) (And.intro hx0 (And.intro hx1 (And.intro hx2 hx3))) (fun hS => ?_)
  refine wpAnyH_take (i := 0) (v := ?_) rfl (by kernel_rfl) (by kernel_rfl) (by kernel_rfl) (fun _ _ _ h => h) (Or.inl ⟨by kernel_rfl, ?_⟩) hS ?_; rotate_left; focus (intro uu hu; clear hu; go_simp; try with_reducible rfl)
  try simp only [Act.put, List.getElem_toArray, List.getElem_cons_succ, List.getElem_cons_zero, List.setIfInBounds_toArray, List.set_cons_zero, List.set_cons_succ]
  refine wpAnyH_take (i := 1) (v := ?_) rfl (by kernel_rfl) (by kernel_rfl) (by kernel_rfl) (fun _ _ _ h => h) (Or.inl ⟨by kernel_rfl, ?_⟩) hS ?_; rotate_left; focus (intro uu hu; clear hu; go_simp; try with_reducible rfl)
  try simp only [Act.put, List.getElem_toArray, List.getElem_cons_succ, List.getElem_cons_zero, List.setIfInBounds_toArray, List.set_cons_zero, List.set_cons_succ]
  refine wpAnyH_take (i := 2) (v := ?_) rfl (by kernel_rfl) (by kernel_rfl) (by kernel_rfl) (fun _ _ _ h => h) (Or.inl ⟨by kernel_rfl, ?_⟩) hS ?_; rotate_left; focus (intro uu hu; clear hu; go_simp; try with_reducible rfl)
  try simp only [Act.put, List.getElem_toArray, List.getElem_cons_succ, List.getElem_cons_zero, List.setIfInBounds_toArray, List.set_cons_zero, List.set_cons_succ]
  refine wpAnyH_take (i := 3) (v := ?_) rfl (by kernel_rfl) (by kernel_rfl) (by kernel_rfl) (fun _ _ _ h => h) (Or.inl ⟨by kernel_rfl, ?_⟩) hS ?_; rotate_left; focus (intro uu hu; clear hu; go_simp; try with_reducible rfl)
  try simp only [Act.put, List.getElem_toArray, List.getElem_cons_succ, List.getElem_cons_zero, List.setIfInBounds_toArray, List.set_cons_zero, List.set_cons_succ]
  refine wpAnyH_take (i := 4) (v := .bool true) rfl (by kernel_rfl) (by kernel_rfl) (by kernel_rfl) (fun _ _ _ h => h) (Or.inl ⟨by kernel_rfl, ?ld⟩) hS ?_; case ld => (intro uu hu; have hu2 := hu; obtain ⟨l0, l1, l2, l3⟩ := hu2; clear hu; go_simp)
  try simp only [Act.put, List.getElem_toArray, List.getElem_cons_succ, List.getElem_cons_zero, List.setIfInBounds_toArray, List.set_cons_zero, List.set_cons_succ]
  refine wpAnyH_take (i := 5) (v := ?_) rfl (by kernel_rfl) (by kernel_rfl) (by kernel_rfl) (fun _ _ _ h => h) (Or.inl ⟨by kernel_rfl, ?_⟩) hS ?_; rotate_left; focus (intro uu hu; clear hu; go_simp; try with_reducible rfl)
  try simp only [Act.put, List.getElem_toArray, List.getElem_cons_succ, List.getElem_cons_zero, List.setIfInBounds_toArray, List.set_cons_zero, List.set_cons_succ]
  refine wpAnyH_take (i := 6) (v := undef) rfl (by kernel_rfl) (by kernel_rfl) (by kernel_rfl) (fun _ _ _ h => h) (Or.inr ⟨by kernel_rfl, rfl⟩) hS ?_
  try simp only [Act.put, List.getElem_toArray, List.getElem_cons_succ, List.getElem_cons_zero, List.setIfInBounds_toArray, List.set_cons_zero, List.set_cons_succ]
  refine wpAnyH_take (i := 7) (v := undef) rfl (by kernel_rfl) (by kernel_rfl) (by kernel_rfl) (fun _ _ _ h => h) (Or.inr ⟨by kernel_rfl, rfl⟩) hS ?_
  try simp only [Act.put, List.getElem_toArray, List.getElem_cons_succ, List.getElem_cons_zero, List.setIfInBounds_toArray, List.set_cons_zero, List.set_cons_succ]
  refine wpAnyH_take (i := 8) (v := undef) rfl (by kernel_rfl) (by kernel_rfl) (by kernel_rfl) (fun _ _ _ h => h) (Or.inr ⟨by kernel_rfl, rfl⟩) hS ?_
  try simp only [Act.put, List.getElem_toArray, List.getElem_cons_succ, List.getElem_cons_zero, List.setIfInBounds_toArray, List.set_cons_zero, List.set_cons_succ]
  refine wpAnyH_take (i := 9) (v := undef) rfl (by kernel_rfl) (by kernel_rfl) (by kernel_rfl) (fun _ _ _ h => h) (Or.inr ⟨by kernel_rfl, rfl⟩) hS ?_
  try simp only [Act.put, List.getElem_toArray, List.getElem_cons_succ, List.getElem_cons_zero, List.setIfInBounds_toArray, List.set_cons_zero, List.set_cons_succ]
  refine wpAnyH_take (i := 10) (v := undef) rfl (by kernel_rfl) (by kernel_rfl) (by kernel_rfl) (fun _ _ _ h => h) (Or.inr ⟨by kernel_rfl, rfl⟩) hS ?_
  try simp only [Act.put, List.getElem_toArray, List.getElem_cons_succ, List.getElem_cons_zero, List.setIfInBounds_toArray, List.set_cons_zero, List.set_cons_succ]
  refine wpAnyH_take (i := 11) (v := ?_) rfl (by kernel_rfl) (by kernel_rfl) (by kernel_rfl) (fun _ _ _ h => h) (Or.inl ⟨by kernel_rfl, ?_⟩) hS ?_; rotate_left; focus (intro uu hu; clear hu; go_simp; try with_reducible rfl)
  try simp only [Act.put, List.getElem_toArray, List.getElem_cons_succ, List.getElem_cons_zero, List.setIfInBounds_toArray, List.set_cons_zero, List.set_cons_succ]
  refine wpAnyH_take (i := 12) (v := ?_) rfl (by kernel_rfl) (by kernel_rfl) (by kernel_rfl) (fun _ _ _ h => h) (Or.inl ⟨by kernel_rfl, ?_⟩) hS ?_; rotate_left; focus (intro uu hu; clear hu; go_simp; try with_reducible rfl)
  try simp only [Act.put, List.getElem_toArray, List.getElem_cons_succ, List.getElem_cons_zero, List.setIfInBounds_toArray, List.set_cons_zero, List.set_cons_succ]
  refine wpAnyH_take (i := 13) (v := undef) rfl (by kernel_rfl) (by kernel_rfl) (by kernel_rfl) (fun _ _ _ h => h) (Or.inr ⟨by kernel_rfl, rfl⟩) hS ?_
  try simp only [Act.put, List.getElem_toArray, List.getElem_cons_succ, List.getElem_cons_zero, List.setIfInBounds_toArray, List.set_cons_zero, List.set_cons_succ]
  refine wpAnyH_take (i := 14) (v := undef) rfl (by kernel_rfl) (by kernel_rfl) (by kernel_rfl) (fun _ _ _ h => h) (Or.inr ⟨by kernel_rfl, rfl⟩) hS ?_
  try simp only [Act.put, List.getElem_toArray, List.getElem_cons_succ, List.getElem_cons_zero, List.setIfInBounds_toArray, List.set_cons_zero, List.set_cons_succ]
  refine wpAnyH_take (i := 15) (v := undef) rfl (by kernel_rfl) (by kernel_rfl) (by kernel_rfl) (fun _ _ _ h => h) (Or.inr ⟨by kernel_rfl, rfl⟩) hS ?_
  try simp only [Act.put, List.getElem_toArray, List.getElem_cons_succ, List.getElem_cons_zero, List.setIfInBounds_toArray, List.set_cons_zero, List.set_cons_succ]
  refine wpAnyH_take (i := 16) (v := undef) rfl (by kernel_rfl) (by kernel_rfl) (by kernel_rfl) (fun _ _ _ h => h) (Or.inr ⟨by kernel_rfl, rfl⟩) hS ?_
  try simp only [Act.put, List.getElem_toArray, List.getElem_cons_succ, List.getElem_cons_zero, List.setIfInBounds_toArray, List.set_cons_zero, List.set_cons_succ]
  refine wpAnyH_take (i := 17) (v := undef) rfl (by kernel_rfl) (by kernel_rfl) (by kernel_rfl) (fun _ _ _ h => h) (Or.inr ⟨by kernel_rfl, rfl⟩) hS ?_
  try simp only [Act.put, List.getElem_toArray, List.getElem_cons_succ, List.getElem_cons_zero, List.setIfInBounds_toArray, List.set_cons_zero, List.set_cons_succ]
  refine wpAnyH_take (i := 18) (v := undef) rfl (by kernel_rfl) (by kernel_rfl) (by kernel_rfl) (fun _ _ _ h => h) (Or.inr ⟨by kernel_rfl, rfl⟩) hS ?_
  try simp only [Act.put, List.getElem_toArray, List.getElem_cons_succ, List.getElem_cons_zero, List.setIfInBounds_toArray, List.set_cons_zero, List.set_cons_succ]
  refine wpAnyH_take (i := 19) (v := undef) rfl (by kernel_rfl) (by kernel_rfl) (by kernel_rfl) (fun _ _ _ h => h) (Or.inr ⟨by kernel_rfl, rfl⟩) hS ?_
  try simp only [Act.put, List.getElem_toArray, List.getElem_cons_succ, List.getElem_cons_zero, List.setIfInBounds_toArray, List.set_cons_zero, List.set_cons_succ]
  refine wpAnyH_take (i := 20) (v := undef) rfl (by kernel_rfl) (by kernel_rfl) (by kernel_rfl) (fun _ _ _ h => h) (Or.inr ⟨by kernel_rfl, rfl⟩) hS ?_
  try simp only [Act.put, List.getElem_toArray, List.getElem_cons_succ, List.getElem_cons_zero, List.setIfInBounds_toArray, List.set_cons_zero, List.set_cons_succ]
  refine wpAnyH_take (i := 21) (v := undef) rfl (by kernel_rfl) (by kernel_rfl) (by kernel_rfl) (fun _ _ _ h => h) (Or.inr ⟨by kernel_rfl, rfl⟩) hS ?_
  try simp only [Act.put, List.getElem_toArray, List.getElem_cons_succ, List.getElem_cons_zero, List.setIfInBounds_toArray, List.set_cons_zero, List.set_cons_succ]
  refine wpAnyH_take (i := 22) (v := undef) rfl (by kernel_rfl) (by kernel_rfl) (by kernel_rfl) (fun _ _ _ h => h) (Or.inr ⟨by kernel_rfl, rfl⟩) hS ?_
  try simp only [Act.put, List.getElem_toArray, List.getElem_cons_succ, List.getElem_cons_zero, List.setIfInBounds_toArray, List.set_cons_zero, List.set_cons_succ]
  refine wpAnyH_take (i := 23) (v := undef) rfl (by kernel_rfl) (by kernel_rfl) (by kernel_rfl) (fun _ _ _ h => h) (Or.inr ⟨by kernel_rfl, rfl⟩) hS ?_
  try simp only [Act.put, List.getElem_toArray, List.getElem_cons_succ, List.getElem_cons_zero, List.setIfInBounds_toArray, List.set_cons_zero, List.set_cons_succ]
  refine wpAnyH_take (i := 24) (v := undef) rfl (by kernel_rfl) (by kernel_rfl) (by kernel_rfl) (fun _ _ _ h => h) (Or.inr ⟨by kernel_rfl, rfl⟩) hS ?_
  try simp only [Act.put, List.getElem_toArray, List.getElem_cons_succ, List.getElem_cons_zero, List.setIfInBounds_toArray, List.set_cons_zero, List.set_cons_succ]
  refine wpAnyH_take (i := 25) (v := undef) rfl (by kernel_rfl) (by kernel_rfl) (by kernel_rfl) (fun _ _ _ h => h) (Or.inr ⟨by kernel_rfl, rfl⟩) hS ?_
  try simp only [Act.put, List.getElem_toArray, List.getElem_cons_succ, List.getElem_cons_zero, List.setIfInBounds_toArray, List.set_cons_zero, List.set_cons_succ]
  refine wpAnyH_take (i := 26) (v := undef) rfl (by kernel_rfl) (by kernel_rfl) (by kernel_rfl) (fun _ _ _ h => h) (Or.inr ⟨by kernel_rfl, rfl⟩) hS ?_
  try simp only [Act.put, List.getElem_toArray, List.getElem_cons_succ, List.getElem_cons_zero, List.setIfInBounds_toArray, List.set_cons_zero, List.set_cons_succ]
  refine wpAnyH_take (i := 27) (v := undef) rfl (by kernel_rfl) (by kernel_rfl) (by kernel_rfl) (fun _ _ _ h => h) (Or.inr ⟨by kernel_rfl, rfl⟩) hS ?_
  try simp only [Act.put, List.getElem_toArray, List.getElem_cons_succ, List.getElem_cons_zero, List.setIfInBounds_toArray, List.set_cons_zero, List.set_cons_succ]
  refine wpAnyH_take (i := 28) (v := ?_) rfl (by kernel_rfl) (by kernel_rfl) (by kernel_rfl) (fun _ _ _ h => h) (Or.inl ⟨by kernel_rfl, ?_⟩) hS ?_; rotate_left; focus (intro uu hu; clear hu; go_simp; try with_reducible rfl)
  try simp only [Act.put, List.getElem_toArray, List.getElem_cons_succ, List.getElem_cons_zero, List.setIfInBounds_toArray, List.set_cons_zero, List.set_cons_succ]
  refine wpAnyH_done (by kernel_rfl) ?_ _
  clear hS
  go_wp2_with fail
  go_ret
  exact ⟨rfl, rfl⟩
set_option maxHeartbeats 1000000 in
theorem l16In_kM (r : Int) (b : ByteArray)  (r2 : Int) (b2 : ByteArray) (e2 k2 : Bool) (wt cm : Int) (s : ByteArray) (fin : Bool) (g ot : Nat) (ty : TypeId) (A C : List Value) (w : World) (R : MidIs w g ty A C ot [.int .i64 r, .string b, .bool false, .bool true, .int .i64 r2, .string b2, .bool e2, .bool k2, .int .i64 wt, .int .i64 cm]) :
    Calls Tryz.prog 111 #[.pointer (some ⟨g, ot, none⟩), .string s, .bool fin] w fun x w' => x = .returned (.bool false) ∧ w' = w.drewN 1 := by
  have hx0 : World.cell? _ ⟨g, ot, none⟩ = some _ := MidIs.cell (j := 0) R rfl
  have hx1 : World.cell? _ ⟨g, ot + 1, none⟩ = some _ := MidIs.cell (j := 1) R rfl
  have hx2 : World.cell? _ ⟨g, ot + 2, none⟩ = some _ := MidIs.cell (j := 2) R rfl
  have hx3 : World.cell? _ ⟨g, ot + 3, none⟩ = some _ := MidIs.cell (j := 3) R rfl
  go_enter Tryz.func111, Tryz.ntmps111
  go_wp2_with fail
  refine wp_region_held_drew (S := (fun u => u.cell? ⟨g, ot, none⟩ = some (.int .i64 r) ∧ u.cell? ⟨g, ot + 1, none⟩ = some (.string b) ∧ u.cell? ⟨g, ot + 2, none⟩ = some (.bool false) ∧ u.cell? ⟨g, ot + 3, none⟩ = some (.bool true))) (by kernel_rfl) (And.intro hx0 (And.intro hx1 (And.intro hx2 hx3))) (fun hS => ?_)
  refine wpAnyH_take (i := 0) (v := ?_) rfl (by kernel_rfl) (by kernel_rfl) (by kernel_rfl) (fun _ _ _ h => h) (Or.inl ⟨by kernel_rfl, ?_⟩) hS ?_; rotate_left; focus (intro uu hu; clear hu; go_simp; try with_reducible rfl)
  try simp only [Act.put, List.getElem_toArray, List.getElem_cons_succ, List.getElem_cons_zero, List.setIfInBounds_toArray, List.set_cons_zero, List.set_cons_succ]
  refine wpAnyH_take (i := 1) (v := ?_) rfl (by kernel_rfl) (by kernel_rfl) (by kernel_rfl) (fun _ _ _ h => h) (Or.inl ⟨by kernel_rfl, ?_⟩) hS ?_; rotate_left; focus (intro uu hu; clear hu; go_simp; try with_reducible rfl)
  try simp only [Act.put, List.getElem_toArray, List.getElem_cons_succ, List.getElem_cons_zero, List.setIfInBounds_toArray, List.set_cons_zero, List.set_cons_succ]
  refine wpAnyH_take (i := 2) (v := ?_) rfl (by kernel_rfl) (by kernel_rfl) (by kernel_rfl) (fun _ _ _ h => h) (Or.inl ⟨by kernel_rfl, ?_⟩) hS ?_; rotate_left; focus (intro uu hu; clear hu; go_simp; try with_reducible rfl)
  try simp only [Act.put, List.getElem_toArray, List.getElem_cons_succ, List.getElem_cons_zero, List.setIfInBounds_toArray, List.set_cons_zero, List.set_cons_succ]
  refine wpAnyH_take (i := 3) (v := ?_) rfl (by kernel_rfl) (by kernel_rfl) (by kernel_rfl) (fun _ _ _ h => h) (Or.inl ⟨by kernel_rfl, ?_⟩) hS ?_; rotate_left; focus (intro uu hu; clear hu; go_simp; try with_reducible rfl)
  try simp only [Act.put, List.getElem_toArray, List.getElem_cons_succ, List.getElem_cons_zero, List.setIfInBounds_toArray, List.set_cons_zero, List.set_cons_succ]
  refine wpAnyH_take (i := 4) (v := .bool false) rfl (by kernel_rfl) (by kernel_rfl) (by kernel_rfl) (fun _ _ _ h => h) (Or.inl ⟨by kernel_rfl, ?ld⟩) hS ?_; case ld => (intro uu hu; have hu2 := hu; obtain ⟨l0, l1, l2, l3⟩ := hu2; clear hu; go_simp)
  try simp only [Act.put, List.getElem_toArray, List.getElem_cons_succ, List.getElem_cons_zero, List.setIfInBounds_toArray, List.set_cons_zero, List.set_cons_succ]
  refine wpAnyH_take (i := 5) (v := ?_) rfl (by kernel_rfl) (by kernel_rfl) (by kernel_rfl) (fun _ _ _ h => h) (Or.inl ⟨by kernel_rfl, ?_⟩) hS ?_; rotate_left; focus (intro uu hu; clear hu; go_simp; try with_reducible rfl)
  try simp only [Act.put, List.getElem_toArray, List.getElem_cons_succ, List.getElem_cons_zero, List.setIfInBounds_toArray, List.set_cons_zero, List.set_cons_succ]
  refine wpAnyH_take (i := 6) (v := ?_) rfl (by kernel_rfl) (by kernel_rfl) (by kernel_rfl) (fun _ _ _ h => h) (Or.inl ⟨by kernel_rfl, ?_⟩) hS ?_; rotate_left; focus (intro uu hu; clear hu; go_simp; try with_reducible rfl)
  try simp only [Act.put, List.getElem_toArray, List.getElem_cons_succ, List.getElem_cons_zero, List.setIfInBounds_toArray, List.set_cons_zero, List.set_cons_succ]
  refine wpAnyH_take (i := 7) (v := ?_) rfl (by kernel_rfl) (by kernel_rfl) (by kernel_rfl) (fun _ _ _ h => h) (Or.inl ⟨by kernel_rfl, ?_⟩) hS ?_; rotate_left; focus (intro uu hu; clear hu; go_simp; try with_reducible rfl)
  try simp only [Act.put, List.getElem_toArray, List.getElem_cons_succ, List.getElem_cons_zero, List.setIfInBounds_toArray, List.set_cons_zero, List.set_cons_succ]
  refine wpAnyH_take (i := 8) (v := ?_) rfl (by kernel_rfl) (by kernel_rfl) (by kernel_rfl) (fun _ _ _ h => h) (Or.inl ⟨by kernel_rfl, ?_⟩) hS ?_; rotate_left; focus (intro uu hu; clear hu; go_simp; try with_reducible rfl)
  try simp only [Act.put, List.getElem_toArray, List.getElem_cons_succ, List.getElem_cons_zero, List.setIfInBounds_toArray, List.set_cons_zero, List.set_cons_succ]
  refine wpAnyH_take (i := 9) (v := ?_) rfl (by kernel_rfl) (by kernel_rfl) (by kernel_rfl) (fun _ _ _ h => h) (Or.inl ⟨by kernel_rfl, ?_⟩) hS ?_; rotate_left; focus (intro uu hu; clear hu; go_simp; try with_reducible rfl)
  try simp only [Act.put, List.getElem_toArray, List.getElem_cons_succ, List.getElem_cons_zero, List.setIfInBounds_toArray, List.set_cons_zero, List.set_cons_succ]
  refine wpAnyH_take (i := 10) (v := .bool true) rfl (by kernel_rfl) (by kernel_rfl) (by kernel_rfl) (fun _ _ _ h => h) (Or.inl ⟨by kernel_rfl, ?ld⟩) hS ?_; case ld => (intro uu hu; have hu2 := hu; obtain ⟨l0, l1, l2, l3⟩ := hu2; clear hu; go_simp)
  try simp only [Act.put, List.getElem_toArray, List.getElem_cons_succ, List.getElem_cons_zero, List.setIfInBounds_toArray, List.set_cons_zero, List.set_cons_succ]
  refine wpAnyH_take (i := 11) (v := ?_) rfl (by kernel_rfl) (by kernel_rfl) (by kernel_rfl) (fun _ _ _ h => h) (Or.inl ⟨by kernel_rfl, ?_⟩) hS ?_; rotate_left; focus (intro uu hu; clear hu; go_simp; try with_reducible rfl)
  try simp only [Act.put, List.getElem_toArray, List.getElem_cons_succ, List.getElem_cons_zero, List.setIfInBounds_toArray, List.set_cons_zero, List.set_cons_succ]
  refine wpAnyH_take (i := 12) (v := ?_) rfl (by kernel_rfl) (by kernel_rfl) (by kernel_rfl) (fun _ _ _ h => h) (Or.inl ⟨by kernel_rfl, ?_⟩) hS ?_; rotate_left; focus (intro uu hu; clear hu; go_simp; try with_reducible rfl)
  try simp only [Act.put, List.getElem_toArray, List.getElem_cons_succ, List.getElem_cons_zero, List.setIfInBounds_toArray, List.set_cons_zero, List.set_cons_succ]
  refine wpAnyH_take (i := 13) (v := undef) rfl (by kernel_rfl) (by kernel_rfl) (by kernel_rfl) (fun _ _ _ h => h) (Or.inr ⟨by kernel_rfl, rfl⟩) hS ?_
  try simp only [Act.put, List.getElem_toArray, List.getElem_cons_succ, List.getElem_cons_zero, List.setIfInBounds_toArray, List.set_cons_zero, List.set_cons_succ]
  refine wpAnyH_take (i := 14) (v := undef) rfl (by kernel_rfl) (by kernel_rfl) (by kernel_rfl) (fun _ _ _ h => h) (Or.inr ⟨by kernel_rfl, rfl⟩) hS ?_
  try simp only [Act.put, List.getElem_toArray, List.getElem_cons_succ, List.getElem_cons_zero, List.setIfInBounds_toArray, List.set_cons_zero, List.set_cons_succ]
  refine wpAnyH_take (i := 15) (v := undef) rfl (by kernel_rfl) (by kernel_rfl) (by kernel_rfl) (fun _ _ _ h => h) (Or.inr ⟨by kernel_rfl, rfl⟩) hS ?_
  try simp only [Act.put, List.getElem_toArray, List.getElem_cons_succ, List.getElem_cons_zero, List.setIfInBounds_toArray, List.set_cons_zero, List.set_cons_succ]
  refine wpAnyH_take (i := 16) (v := undef) rfl (by kernel_rfl) (by kernel_rfl) (by kernel_rfl) (fun _ _ _ h => h) (Or.inr ⟨by kernel_rfl, rfl⟩) hS ?_
  try simp only [Act.put, List.getElem_toArray, List.getElem_cons_succ, List.getElem_cons_zero, List.setIfInBounds_toArray, List.set_cons_zero, List.set_cons_succ]
  refine wpAnyH_take (i := 17) (v := undef) rfl (by kernel_rfl) (by kernel_rfl) (by kernel_rfl) (fun _ _ _ h => h) (Or.inr ⟨by kernel_rfl, rfl⟩) hS ?_
  try simp only [Act.put, List.getElem_toArray, List.getElem_cons_succ, List.getElem_cons_zero, List.setIfInBounds_toArray, List.set_cons_zero, List.set_cons_succ]
  refine wpAnyH_take (i := 18) (v := undef) rfl (by kernel_rfl) (by kernel_rfl) (by kernel_rfl) (fun _ _ _ h => h) (Or.inr ⟨by kernel_rfl, rfl⟩) hS ?_
  try simp only [Act.put, List.getElem_toArray, List.getElem_cons_succ, List.getElem_cons_zero, List.setIfInBounds_toArray, List.set_cons_zero, List.set_cons_succ]
  refine wpAnyH_take (i := 19) (v := undef) rfl (by kernel_rfl) (by kernel_rfl) (by kernel_rfl) (fun _ _ _ h => h) (Or.inr ⟨by kernel_rfl, rfl⟩) hS ?_
  try simp only [Act.put, List.getElem_toArray, List.getElem_cons_succ, List.getElem_cons_zero, List.setIfInBounds_toArray, List.set_cons_zero, List.set_cons_succ]
  refine wpAnyH_take (i := 20) (v := undef) rfl (by kernel_rfl) (by kernel_rfl) (by kernel_rfl) (fun _ _ _ h => h) (Or.inr ⟨by kernel_rfl, rfl⟩) hS ?_
  try simp only [Act.put, List.getElem_toArray, List.getElem_cons_succ, List.getElem_cons_zero, List.setIfInBounds_toArray, List.set_cons_zero, List.set_cons_succ]
  refine wpAnyH_take (i := 21) (v := undef) rfl (by kernel_rfl) (by kernel_rfl) (by kernel_rfl) (fun _ _ _ h => h) (Or.inr ⟨by kernel_rfl, rfl⟩) hS ?_
  try simp only [Act.put, List.getElem_toArray, List.getElem_cons_succ, List.getElem_cons_zero, List.setIfInBounds_toArray, List.set_cons_zero, List.set_cons_succ]
  refine wpAnyH_take (i := 22) (v := undef) rfl (by kernel_rfl) (by kernel_rfl) (by kernel_rfl) (fun _ _ _ h => h) (Or.inr ⟨by kernel_rfl, rfl⟩) hS ?_
  try simp only [Act.put, List.getElem_toArray, List.getElem_cons_succ, List.getElem_cons_zero, List.setIfInBounds_toArray, List.set_cons_zero, List.set_cons_succ]
  refine wpAnyH_take (i := 23) (v := undef) rfl (by kernel_rfl) (by kernel_rfl) (by kernel_rfl) (fun _ _ _ h => h) (Or.inr ⟨by kernel_rfl, rfl⟩) hS ?_
  try simp only [Act.put, List.getElem_toArray, List.getElem_cons_succ, List.getElem_cons_zero, List.setIfInBounds_toArray, List.set_cons_zero, List.set_cons_succ]
  refine wpAnyH_take (i := 24) (v := undef) rfl (by kernel_rfl) (by kernel_rfl) (by kernel_rfl) (fun _ _ _ h => h) (Or.inr ⟨by kernel_rfl, rfl⟩) hS ?_
  try simp only [Act.put, List.getElem_toArray, List.getElem_cons_succ, List.getElem_cons_zero, List.setIfInBounds_toArray, List.set_cons_zero, List.set_cons_succ]
  refine wpAnyH_take (i := 25) (v := undef) rfl (by kernel_rfl) (by kernel_rfl) (by kernel_rfl) (fun _ _ _ h => h) (Or.inr ⟨by kernel_rfl, rfl⟩) hS ?_
  try simp only [Act.put, List.getElem_toArray, List.getElem_cons_succ, List.getElem_cons_zero, List.setIfInBounds_toArray, List.set_cons_zero, List.set_cons_succ]
  refine wpAnyH_take (i := 26) (v := undef) rfl (by kernel_rfl) (by kernel_rfl) (by kernel_rfl) (fun _ _ _ h => h) (Or.inr ⟨by kernel_rfl, rfl⟩) hS ?_
  try simp only [Act.put, List.getElem_toArray, List.getElem_cons_succ, List.getElem_cons_zero, List.setIfInBounds_toArray, List.set_cons_zero, List.set_cons_succ]
  refine wpAnyH_take (i := 27) (v := undef) rfl (by kernel_rfl) (by kernel_rfl) (by kernel_rfl) (fun _ _ _ h => h) (Or.inr ⟨by kernel_rfl, rfl⟩) hS ?_
  try simp only [Act.put, List.getElem_toArray, List.getElem_cons_succ, List.getElem_cons_zero, List.setIfInBounds_toArray, List.set_cons_zero, List.set_cons_succ]
  refine wpAnyH_take (i := 28) (v := ?_) rfl (by kernel_rfl) (by kernel_rfl) (by kernel_rfl) (fun _ _ _ h => h) (Or.inl ⟨by kernel_rfl, ?_⟩) hS ?_; rotate_left; focus (intro uu hu; clear hu; go_simp; try with_reducible rfl)
  try simp only [Act.put, List.getElem_toArray, List.getElem_cons_succ, List.getElem_cons_zero, List.setIfInBounds_toArray, List.set_cons_zero, List.set_cons_succ]
  refine wpAnyH_done (by kernel_rfl) ?_ _
  clear hS
  go_wp2_with fail
  go_ret
  exact ⟨rfl, rfl⟩
set_option maxHeartbeats 1000000 in
theorem l16In_roomM (r : Int) (b : ByteArray)  (r2 : Int) (b2 : ByteArray) (e2 k2 : Bool) (wt cm : Int) (s : ByteArray) (fin : Bool) (g ot : Nat) (ty : TypeId) (A C : List Value) (w : World) (R : MidIs w g ty A C ot [.int .i64 r, .string b, .bool false, .bool false, .int .i64 r2, .string b2, .bool e2, .bool k2, .int .i64 wt, .int .i64 cm]) (hb1 : b.size ≤ 2000) (hr1 : r ≤ 2000) (hr0 : 1 ≤ r) (hs : s.size ≤ maxLen) (hno : r - b.size < s.size) :
    Calls Tryz.prog 111 #[.pointer (some ⟨g, ot, none⟩), .string s, .bool fin] w fun x w' => x = .returned (.bool false) ∧ w' = w.drewN 1 := by
  have hx0 : World.cell? _ ⟨g, ot, none⟩ = some _ := MidIs.cell (j := 0) R rfl
  have hx1 : World.cell? _ ⟨g, ot + 1, none⟩ = some _ := MidIs.cell (j := 1) R rfl
  have hx2 : World.cell? _ ⟨g, ot + 2, none⟩ = some _ := MidIs.cell (j := 2) R rfl
  have hx3 : World.cell? _ ⟨g, ot + 3, none⟩ = some _ := MidIs.cell (j := 3) R rfl
  unfold maxLen at hs
  have e1 : IntKind.i64.wrap (r - (b.size : Int)) = r - b.size := by rw [IntKind.wrap_i64]; omega
  have hgt : (s.size : Int) > r - b.size := by omega
  go_enter Tryz.func111, Tryz.ntmps111
  go_wp2_with fail
  refine wp_region_held_drew (S := (fun u => u.cell? ⟨g, ot, none⟩ = some (.int .i64 r) ∧ u.cell? ⟨g, ot + 1, none⟩ = some (.string b) ∧ u.cell? ⟨g, ot + 2, none⟩ = some (.bool false) ∧ u.cell? ⟨g, ot + 3, none⟩ = some (.bool false))) (by kernel_rfl) (And.intro hx0 (And.intro hx1 (And.intro hx2 hx3))) (fun hS => ?_)
  refine wpAnyH_take (i := 0) (v := ?_) rfl (by kernel_rfl) (by kernel_rfl) (by kernel_rfl) (fun _ _ _ h => h) (Or.inl ⟨by kernel_rfl, ?_⟩) hS ?_; rotate_left; focus (intro uu hu; clear hu; go_simp; try with_reducible rfl)
  try simp only [Act.put, List.getElem_toArray, List.getElem_cons_succ, List.getElem_cons_zero, List.setIfInBounds_toArray, List.set_cons_zero, List.set_cons_succ]
  refine wpAnyH_take (i := 1) (v := ?_) rfl (by kernel_rfl) (by kernel_rfl) (by kernel_rfl) (fun _ _ _ h => h) (Or.inl ⟨by kernel_rfl, ?_⟩) hS ?_; rotate_left; focus (intro uu hu; clear hu; go_simp; try with_reducible rfl)
  try simp only [Act.put, List.getElem_toArray, List.getElem_cons_succ, List.getElem_cons_zero, List.setIfInBounds_toArray, List.set_cons_zero, List.set_cons_succ]
  refine wpAnyH_take (i := 2) (v := ?_) rfl (by kernel_rfl) (by kernel_rfl) (by kernel_rfl) (fun _ _ _ h => h) (Or.inl ⟨by kernel_rfl, ?_⟩) hS ?_; rotate_left; focus (intro uu hu; clear hu; go_simp; try with_reducible rfl)
  try simp only [Act.put, List.getElem_toArray, List.getElem_cons_succ, List.getElem_cons_zero, List.setIfInBounds_toArray, List.set_cons_zero, List.set_cons_succ]
  refine wpAnyH_take (i := 3) (v := ?_) rfl (by kernel_rfl) (by kernel_rfl) (by kernel_rfl) (fun _ _ _ h => h) (Or.inl ⟨by kernel_rfl, ?_⟩) hS ?_; rotate_left; focus (intro uu hu; clear hu; go_simp; try with_reducible rfl)
  try simp only [Act.put, List.getElem_toArray, List.getElem_cons_succ, List.getElem_cons_zero, List.setIfInBounds_toArray, List.set_cons_zero, List.set_cons_succ]
  refine wpAnyH_take (i := 4) (v := .bool false) rfl (by kernel_rfl) (by kernel_rfl) (by kernel_rfl) (fun _ _ _ h => h) (Or.inl ⟨by kernel_rfl, ?ld⟩) hS ?_; case ld => (intro uu hu; have hu2 := hu; obtain ⟨l0, l1, l2, l3⟩ := hu2; clear hu; go_simp)
  try simp only [Act.put, List.getElem_toArray, List.getElem_cons_succ, List.getElem_cons_zero, List.setIfInBounds_toArray, List.set_cons_zero, List.set_cons_succ]
  refine wpAnyH_take (i := 5) (v := ?_) rfl (by kernel_rfl) (by kernel_rfl) (by kernel_rfl) (fun _ _ _ h => h) (Or.inl ⟨by kernel_rfl, ?_⟩) hS ?_; rotate_left; focus (intro uu hu; clear hu; go_simp; try with_reducible rfl)
  try simp only [Act.put, List.getElem_toArray, List.getElem_cons_succ, List.getElem_cons_zero, List.setIfInBounds_toArray, List.set_cons_zero, List.set_cons_succ]
  refine wpAnyH_take (i := 6) (v := ?_) rfl (by kernel_rfl) (by kernel_rfl) (by kernel_rfl) (fun _ _ _ h => h) (Or.inl ⟨by kernel_rfl, ?_⟩) hS ?_; rotate_left; focus (intro uu hu; clear hu; go_simp; try with_reducible rfl)
  try simp only [Act.put, List.getElem_toArray, List.getElem_cons_succ, List.getElem_cons_zero, List.setIfInBounds_toArray, List.set_cons_zero, List.set_cons_succ]
  refine wpAnyH_take (i := 7) (v := ?_) rfl (by kernel_rfl) (by kernel_rfl) (by kernel_rfl) (fun _ _ _ h => h) (Or.inl ⟨by kernel_rfl, ?_⟩) hS ?_; rotate_left; focus (intro uu hu; clear hu; go_simp; try with_reducible rfl)
  try simp only [Act.put, List.getElem_toArray, List.getElem_cons_succ, List.getElem_cons_zero, List.setIfInBounds_toArray, List.set_cons_zero, List.set_cons_succ]
  refine wpAnyH_take (i := 8) (v := ?_) rfl (by kernel_rfl) (by kernel_rfl) (by kernel_rfl) (fun _ _ _ h => h) (Or.inl ⟨by kernel_rfl, ?_⟩) hS ?_; rotate_left; focus (intro uu hu; clear hu; go_simp; try with_reducible rfl)
  try simp only [Act.put, List.getElem_toArray, List.getElem_cons_succ, List.getElem_cons_zero, List.setIfInBounds_toArray, List.set_cons_zero, List.set_cons_succ]
  refine wpAnyH_take (i := 9) (v := ?_) rfl (by kernel_rfl) (by kernel_rfl) (by kernel_rfl) (fun _ _ _ h => h) (Or.inl ⟨by kernel_rfl, ?_⟩) hS ?_; rotate_left; focus (intro uu hu; clear hu; go_simp; try with_reducible rfl)
  try simp only [Act.put, List.getElem_toArray, List.getElem_cons_succ, List.getElem_cons_zero, List.setIfInBounds_toArray, List.set_cons_zero, List.set_cons_succ]
  refine wpAnyH_take (i := 10) (v := .bool false) rfl (by kernel_rfl) (by kernel_rfl) (by kernel_rfl) (fun _ _ _ h => h) (Or.inl ⟨by kernel_rfl, ?ld⟩) hS ?_; case ld => (intro uu hu; have hu2 := hu; obtain ⟨l0, l1, l2, l3⟩ := hu2; clear hu; go_simp)
  try simp only [Act.put, List.getElem_toArray, List.getElem_cons_succ, List.getElem_cons_zero, List.setIfInBounds_toArray, List.set_cons_zero, List.set_cons_succ]
  refine wpAnyH_take (i := 11) (v := ?_) rfl (by kernel_rfl) (by kernel_rfl) (by kernel_rfl) (fun _ _ _ h => h) (Or.inl ⟨by kernel_rfl, ?_⟩) hS ?_; rotate_left; focus (intro uu hu; clear hu; go_simp; try with_reducible rfl)
  try simp only [Act.put, List.getElem_toArray, List.getElem_cons_succ, List.getElem_cons_zero, List.setIfInBounds_toArray, List.set_cons_zero, List.set_cons_succ]
  refine wpAnyH_take (i := 12) (v := ?_) rfl (by kernel_rfl) (by kernel_rfl) (by kernel_rfl) (fun _ _ _ h => h) (Or.inl ⟨by kernel_rfl, ?_⟩) hS ?_; rotate_left; focus (intro uu hu; clear hu; go_simp; try with_reducible rfl)
  try simp only [Act.put, List.getElem_toArray, List.getElem_cons_succ, List.getElem_cons_zero, List.setIfInBounds_toArray, List.set_cons_zero, List.set_cons_succ]
  refine wpAnyH_take (i := 13) (v := ?_) rfl (by kernel_rfl) (by kernel_rfl) (by kernel_rfl) (fun _ _ _ h => h) (Or.inl ⟨by kernel_rfl, ?_⟩) hS ?_; rotate_left; focus (intro uu hu; clear hu; go_simp; try with_reducible rfl)
  try simp only [Act.put, List.getElem_toArray, List.getElem_cons_succ, List.getElem_cons_zero, List.setIfInBounds_toArray, List.set_cons_zero, List.set_cons_succ]
  refine wpAnyH_take (i := 14) (v := ?_) rfl (by kernel_rfl) (by kernel_rfl) (by kernel_rfl) (fun _ _ _ h => h) (Or.inl ⟨by kernel_rfl, ?_⟩) hS ?_; rotate_left; focus (intro uu hu; clear hu; go_simp; try with_reducible rfl)
  try simp only [Act.put, List.getElem_toArray, List.getElem_cons_succ, List.getElem_cons_zero, List.setIfInBounds_toArray, List.set_cons_zero, List.set_cons_succ]
  refine wpAnyH_take (i := 15) (v := ?_) rfl (by kernel_rfl) (by kernel_rfl) (by kernel_rfl) (fun _ _ _ h => h) (Or.inl ⟨by kernel_rfl, ?_⟩) hS ?_; rotate_left; focus (intro uu hu; clear hu; go_simp; try with_reducible rfl)
  try simp only [Act.put, List.getElem_toArray, List.getElem_cons_succ, List.getElem_cons_zero, List.setIfInBounds_toArray, List.set_cons_zero, List.set_cons_succ]
  refine wpAnyH_take (i := 16) (v := ?_) rfl (by kernel_rfl) (by kernel_rfl) (by kernel_rfl) (fun _ _ _ h => h) (Or.inl ⟨by kernel_rfl, ?_⟩) hS ?_; rotate_left; focus (intro uu hu; clear hu; go_simp; try with_reducible rfl)
  try simp only [Act.put, List.getElem_toArray, List.getElem_cons_succ, List.getElem_cons_zero, List.setIfInBounds_toArray, List.set_cons_zero, List.set_cons_succ]
  refine wpAnyH_take (i := 17) (v := ?_) rfl (by kernel_rfl) (by kernel_rfl) (by kernel_rfl) (fun _ _ _ h => h) (Or.inl ⟨by kernel_rfl, ?_⟩) hS ?_; rotate_left; focus (intro uu hu; clear hu; go_simp; try with_reducible rfl)
  try simp only [Act.put, List.getElem_toArray, List.getElem_cons_succ, List.getElem_cons_zero, List.setIfInBounds_toArray, List.set_cons_zero, List.set_cons_succ]
  refine wpAnyH_take (i := 18) (v := ?_) rfl (by kernel_rfl) (by kernel_rfl) (by kernel_rfl) (fun _ _ _ h => h) (Or.inl ⟨by kernel_rfl, ?_⟩) hS ?_; rotate_left; focus (intro uu hu; clear hu; go_simp; try with_reducible rfl)
  try simp only [Act.put, List.getElem_toArray, List.getElem_cons_succ, List.getElem_cons_zero, List.setIfInBounds_toArray, List.set_cons_zero, List.set_cons_succ]
  refine wpAnyH_take (i := 19) (v := .int .i64 r) rfl (by kernel_rfl) (by kernel_rfl) (by kernel_rfl) (fun _ _ _ h => h) (Or.inl ⟨by kernel_rfl, ?ld⟩) hS ?_; case ld => (intro uu hu; have hu2 := hu; obtain ⟨l0, l1, l2, l3⟩ := hu2; clear hu; go_simp)
  try simp only [Act.put, List.getElem_toArray, List.getElem_cons_succ, List.getElem_cons_zero, List.setIfInBounds_toArray, List.set_cons_zero, List.set_cons_succ]
  refine wpAnyH_take (i := 20) (v := ?_) rfl (by kernel_rfl) (by kernel_rfl) (by kernel_rfl) (fun _ _ _ h => h) (Or.inl ⟨by kernel_rfl, ?_⟩) hS ?_; rotate_left; focus (intro uu hu; clear hu; go_simp; try with_reducible rfl)
  try simp only [Act.put, List.getElem_toArray, List.getElem_cons_succ, List.getElem_cons_zero, List.setIfInBounds_toArray, List.set_cons_zero, List.set_cons_succ]
  refine wpAnyH_take (i := 21) (v := ?_) rfl (by kernel_rfl) (by kernel_rfl) (by kernel_rfl) (fun _ _ _ h => h) (Or.inl ⟨by kernel_rfl, ?_⟩) hS ?_; rotate_left; focus (intro uu hu; clear hu; go_simp; try with_reducible rfl)
  try simp only [Act.put, List.getElem_toArray, List.getElem_cons_succ, List.getElem_cons_zero, List.setIfInBounds_toArray, List.set_cons_zero, List.set_cons_succ]
  refine wpAnyH_take (i := 22) (v := ?_) rfl (by kernel_rfl) (by kernel_rfl) (by kernel_rfl) (fun _ _ _ h => h) (Or.inl ⟨by kernel_rfl, ?_⟩) hS ?_; rotate_left; focus (intro uu hu; clear hu; go_simp; try with_reducible rfl)
  try simp only [Act.put, List.getElem_toArray, List.getElem_cons_succ, List.getElem_cons_zero, List.setIfInBounds_toArray, List.set_cons_zero, List.set_cons_succ]
  refine wpAnyH_take (i := 23) (v := ?_) rfl (by kernel_rfl) (by kernel_rfl) (by kernel_rfl) (fun _ _ _ h => h) (Or.inl ⟨by kernel_rfl, ?_⟩) hS ?_; rotate_left; focus (intro uu hu; clear hu; go_simp; try with_reducible rfl)
  try simp only [Act.put, List.getElem_toArray, List.getElem_cons_succ, List.getElem_cons_zero, List.setIfInBounds_toArray, List.set_cons_zero, List.set_cons_succ]
  refine wpAnyH_take (i := 24) (v := .string b) rfl (by kernel_rfl) (by kernel_rfl) (by kernel_rfl) (fun _ _ _ h => h) (Or.inl ⟨by kernel_rfl, ?ld⟩) hS ?_; case ld => (intro uu hu; have hu2 := hu; obtain ⟨l0, l1, l2, l3⟩ := hu2; clear hu; go_simp)
  try simp only [Act.put, List.getElem_toArray, List.getElem_cons_succ, List.getElem_cons_zero, List.setIfInBounds_toArray, List.set_cons_zero, List.set_cons_succ]
  refine wpAnyH_take (i := 25) (v := ?_) rfl (by kernel_rfl) (by kernel_rfl) (by kernel_rfl) (fun _ _ _ h => h) (Or.inl ⟨by kernel_rfl, ?_⟩) hS ?_; rotate_left; focus (intro uu hu; clear hu; go_simp; try with_reducible rfl)
  try simp only [Act.put, List.getElem_toArray, List.getElem_cons_succ, List.getElem_cons_zero, List.setIfInBounds_toArray, List.set_cons_zero, List.set_cons_succ]
  refine wpAnyH_take (i := 26) (v := ?_) rfl (by kernel_rfl) (by kernel_rfl) (by kernel_rfl) (fun _ _ _ h => h) (Or.inl ⟨by kernel_rfl, ?_⟩) hS ?_; rotate_left; focus (intro uu hu; clear hu; go_simp; try with_reducible rfl)
  try simp only [Act.put, List.getElem_toArray, List.getElem_cons_succ, List.getElem_cons_zero, List.setIfInBounds_toArray, List.set_cons_zero, List.set_cons_succ]
  refine wpAnyH_take (i := 27) (v := .bool true) rfl (by kernel_rfl) (by kernel_rfl) (by kernel_rfl) (fun _ _ _ h => h) (Or.inl ⟨by kernel_rfl, ?ld⟩) hS ?_; case ld => (intro uu hu; clear hu; go_simp)
  try simp only [Act.put, List.getElem_toArray, List.getElem_cons_succ, List.getElem_cons_zero, List.setIfInBounds_toArray, List.set_cons_zero, List.set_cons_succ]
  refine wpAnyH_take (i := 28) (v := ?_) rfl (by kernel_rfl) (by kernel_rfl) (by kernel_rfl) (fun _ _ _ h => h) (Or.inl ⟨by kernel_rfl, ?_⟩) hS ?_; rotate_left; focus (intro uu hu; clear hu; go_simp; try with_reducible rfl)
  try simp only [Act.put, List.getElem_toArray, List.getElem_cons_succ, List.getElem_cons_zero, List.setIfInBounds_toArray, List.set_cons_zero, List.set_cons_succ]
  refine wpAnyH_done (by kernel_rfl) ?_ _
  clear hS
  go_wp2_with fail
  go_ret
  exact ⟨rfl, rfl⟩
set_option maxHeartbeats 1000000 in
theorem l16In_yesM (r : Int) (b : ByteArray)  (r2 : Int) (b2 : ByteArray) (e2 k2 : Bool) (wt cm : Int) (s : ByteArray) (fin : Bool) (g ot : Nat) (ty : TypeId) (A C : List Value) (w : World) (R : MidIs w g ty A C ot [.int .i64 r, .string b, .bool false, .bool false, .int .i64 r2, .string b2, .bool e2, .bool k2, .int .i64 wt, .int .i64 cm]) (hr1 : r ≤ 2000) (hb1 : (b.size : Int) ≤ r) (hs : s.size ≤ 1048576) (hyes : (s.size : Int) ≤ r - b.size) :
    Calls Tryz.prog 111 #[.pointer (some ⟨g, ot, none⟩), .string s, .bool fin] w fun x w' => x = .returned (.bool true) ∧ MidIs w' g ty A C ot [.int .i64 r, .string (b ++ s), .bool fin, .bool false, .int .i64 r2, .string b2, .bool e2, .bool k2, .int .i64 wt, .int .i64 cm] ∧ Turn g (g + 1) w w' := by
  have hx0 : World.cell? _ ⟨g, ot, none⟩ = some _ := MidIs.cell (j := 0) R rfl
  have hx1 : World.cell? _ ⟨g, ot + 1, none⟩ = some _ := MidIs.cell (j := 1) R rfl
  have hx2 : World.cell? _ ⟨g, ot + 2, none⟩ = some _ := MidIs.cell (j := 2) R rfl
  have hx3 : World.cell? _ ⟨g, ot + 3, none⟩ = some _ := MidIs.cell (j := 3) R rfl
  have e1 : IntKind.i64.wrap (r - (b.size : Int)) = r - b.size := by rw [IntKind.wrap_i64]; omega
  have hgt : ¬ (s.size : Int) > r - b.size := by omega
  go_enter Tryz.func111, Tryz.ntmps111
  go_wp2_with fail
  refine wp_region_held_drew (S := (fun u => u.cell? ⟨g, ot, none⟩ = some (.int .i64 r) ∧ u.cell? ⟨g, ot + 1, none⟩ = some (.string b) ∧ u.cell? ⟨g, ot + 2, none⟩ = some (.bool false) ∧ u.cell? ⟨g, ot + 3, none⟩ = some (.bool false))) (by kernel_rfl) (And.intro hx0 (And.intro hx1 (And.intro hx2 hx3))) (fun hS => ?_)
  refine wpAnyH_take (i := 0) (v := ?_) rfl (by kernel_rfl) (by kernel_rfl) (by kernel_rfl) (fun _ _ _ h => h) (Or.inl ⟨by kernel_rfl, ?_⟩) hS ?_; rotate_left; focus (intro uu hu; clear hu; go_simp; try with_reducible rfl)
  try simp only [Act.put, List.getElem_toArray, List.getElem_cons_succ, List.getElem_cons_zero, List.setIfInBounds_toArray, List.set_cons_zero, List.set_cons_succ]
  refine wpAnyH_take (i := 1) (v := ?_) rfl (by kernel_rfl) (by kernel_rfl) (by kernel_rfl) (fun _ _ _ h => h) (Or.inl ⟨by kernel_rfl, ?_⟩) hS ?_; rotate_left; focus (intro uu hu; clear hu; go_simp; try with_reducible rfl)
  try simp only [Act.put, List.getElem_toArray, List.getElem_cons_succ, List.getElem_cons_zero, List.setIfInBounds_toArray, List.set_cons_zero, List.set_cons_succ]
  refine wpAnyH_take (i := 2) (v := ?_) rfl (by kernel_rfl) (by kernel_rfl) (by kernel_rfl) (fun _ _ _ h => h) (Or.inl ⟨by kernel_rfl, ?_⟩) hS ?_; rotate_left; focus (intro uu hu; clear hu; go_simp; try with_reducible rfl)
  try simp only [Act.put, List.getElem_toArray, List.getElem_cons_succ, List.getElem_cons_zero, List.setIfInBounds_toArray, List.set_cons_zero, List.set_cons_succ]
  refine wpAnyH_take (i := 3) (v := ?_) rfl (by kernel_rfl) (by kernel_rfl) (by kernel_rfl) (fun _ _ _ h => h) (Or.inl ⟨by kernel_rfl, ?_⟩) hS ?_; rotate_left; focus (intro uu hu; clear hu; go_simp; try with_reducible rfl)
  try simp only [Act.put, List.getElem_toArray, List.getElem_cons_succ, List.getElem_cons_zero, List.setIfInBounds_toArray, List.set_cons_zero, List.set_cons_succ]
  refine wpAnyH_take (i := 4) (v := .bool false) rfl (by kernel_rfl) (by kernel_rfl) (by kernel_rfl) (fun _ _ _ h => h) (Or.inl ⟨by kernel_rfl, ?ld⟩) hS ?_; case ld => (intro uu hu; have hu2 := hu; obtain ⟨l0, l1, l2, l3⟩ := hu2; clear hu; go_simp)
  try simp only [Act.put, List.getElem_toArray, List.getElem_cons_succ, List.getElem_cons_zero, List.setIfInBounds_toArray, List.set_cons_zero, List.set_cons_succ]
  refine wpAnyH_take (i := 5) (v := ?_) rfl (by kernel_rfl) (by kernel_rfl) (by kernel_rfl) (fun _ _ _ h => h) (Or.inl ⟨by kernel_rfl, ?_⟩) hS ?_; rotate_left; focus (intro uu hu; clear hu; go_simp; try with_reducible rfl)
  try simp only [Act.put, List.getElem_toArray, List.getElem_cons_succ, List.getElem_cons_zero, List.setIfInBounds_toArray, List.set_cons_zero, List.set_cons_succ]
  refine wpAnyH_take (i := 6) (v := ?_) rfl (by kernel_rfl) (by kernel_rfl) (by kernel_rfl) (fun _ _ _ h => h) (Or.inl ⟨by kernel_rfl, ?_⟩) hS ?_; rotate_left; focus (intro uu hu; clear hu; go_simp; try with_reducible rfl)
  try simp only [Act.put, List.getElem_toArray, List.getElem_cons_succ, List.getElem_cons_zero, List.setIfInBounds_toArray, List.set_cons_zero, List.set_cons_succ]
  refine wpAnyH_take (i := 7) (v := ?_) rfl (by kernel_rfl) (by kernel_rfl) (by kernel_rfl) (fun _ _ _ h => h) (Or.inl ⟨by kernel_rfl, ?_⟩) hS ?_; rotate_left; focus (intro uu hu; clear hu; go_simp; try with_reducible rfl)
  try simp only [Act.put, List.getElem_toArray, List.getElem_cons_succ, List.getElem_cons_zero, List.setIfInBounds_toArray, List.set_cons_zero, List.set_cons_succ]
  refine wpAnyH_take (i := 8) (v := ?_) rfl (by kernel_rfl) (by kernel_rfl) (by kernel_rfl) (fun _ _ _ h => h) (Or.inl ⟨by kernel_rfl, ?_⟩) hS ?_; rotate_left; focus (intro uu hu; clear hu; go_simp; try with_reducible rfl)
  try simp only [Act.put, List.getElem_toArray, List.getElem_cons_succ, List.getElem_cons_zero, List.setIfInBounds_toArray, List.set_cons_zero, List.set_cons_succ]
  refine wpAnyH_take (i := 9) (v := ?_) rfl (by kernel_rfl) (by kernel_rfl) (by kernel_rfl) (fun _ _ _ h => h) (Or.inl ⟨by kernel_rfl, ?_⟩) hS ?_; rotate_left; focus (intro uu hu; clear hu; go_simp; try with_reducible rfl)
  try simp only [Act.put, List.getElem_toArray, List.getElem_cons_succ, List.getElem_cons_zero, List.setIfInBounds_toArray, List.set_cons_zero, List.set_cons_succ]
  refine wpAnyH_take (i := 10) (v := .bool false) rfl (by kernel_rfl) (by kernel_rfl) (by kernel_rfl) (fun _ _ _ h => h) (Or.inl ⟨by kernel_rfl, ?ld⟩) hS ?_; case ld => (intro uu hu; have hu2 := hu; obtain ⟨l0, l1, l2, l3⟩ := hu2; clear hu; go_simp)
  try simp only [Act.put, List.getElem_toArray, List.getElem_cons_succ, List.getElem_cons_zero, List.setIfInBounds_toArray, List.set_cons_zero, List.set_cons_succ]
  refine wpAnyH_take (i := 11) (v := ?_) rfl (by kernel_rfl) (by kernel_rfl) (by kernel_rfl) (fun _ _ _ h => h) (Or.inl ⟨by kernel_rfl, ?_⟩) hS ?_; rotate_left; focus (intro uu hu; clear hu; go_simp; try with_reducible rfl)
  try simp only [Act.put, List.getElem_toArray, List.getElem_cons_succ, List.getElem_cons_zero, List.setIfInBounds_toArray, List.set_cons_zero, List.set_cons_succ]
  refine wpAnyH_take (i := 12) (v := ?_) rfl (by kernel_rfl) (by kernel_rfl) (by kernel_rfl) (fun _ _ _ h => h) (Or.inl ⟨by kernel_rfl, ?_⟩) hS ?_; rotate_left; focus (intro uu hu; clear hu; go_simp; try with_reducible rfl)
  try simp only [Act.put, List.getElem_toArray, List.getElem_cons_succ, List.getElem_cons_zero, List.setIfInBounds_toArray, List.set_cons_zero, List.set_cons_succ]
  refine wpAnyH_take (i := 13) (v := ?_) rfl (by kernel_rfl) (by kernel_rfl) (by kernel_rfl) (fun _ _ _ h => h) (Or.inl ⟨by kernel_rfl, ?_⟩) hS ?_; rotate_left; focus (intro uu hu; clear hu; go_simp; try with_reducible rfl)
  try simp only [Act.put, List.getElem_toArray, List.getElem_cons_succ, List.getElem_cons_zero, List.setIfInBounds_toArray, List.set_cons_zero, List.set_cons_succ]
  refine wpAnyH_take (i := 14) (v := ?_) rfl (by kernel_rfl) (by kernel_rfl) (by kernel_rfl) (fun _ _ _ h => h) (Or.inl ⟨by kernel_rfl, ?_⟩) hS ?_; rotate_left; focus (intro uu hu; clear hu; go_simp; try with_reducible rfl)
  try simp only [Act.put, List.getElem_toArray, List.getElem_cons_succ, List.getElem_cons_zero, List.setIfInBounds_toArray, List.set_cons_zero, List.set_cons_succ]
  refine wpAnyH_take (i := 15) (v := ?_) rfl (by kernel_rfl) (by kernel_rfl) (by kernel_rfl) (fun _ _ _ h => h) (Or.inl ⟨by kernel_rfl, ?_⟩) hS ?_; rotate_left; focus (intro uu hu; clear hu; go_simp; try with_reducible rfl)
  try simp only [Act.put, List.getElem_toArray, List.getElem_cons_succ, List.getElem_cons_zero, List.setIfInBounds_toArray, List.set_cons_zero, List.set_cons_succ]
  refine wpAnyH_take (i := 16) (v := ?_) rfl (by kernel_rfl) (by kernel_rfl) (by kernel_rfl) (fun _ _ _ h => h) (Or.inl ⟨by kernel_rfl, ?_⟩) hS ?_; rotate_left; focus (intro uu hu; clear hu; go_simp; try with_reducible rfl)
  try simp only [Act.put, List.getElem_toArray, List.getElem_cons_succ, List.getElem_cons_zero, List.setIfInBounds_toArray, List.set_cons_zero, List.set_cons_succ]
  refine wpAnyH_take (i := 17) (v := ?_) rfl (by kernel_rfl) (by kernel_rfl) (by kernel_rfl) (fun _ _ _ h => h) (Or.inl ⟨by kernel_rfl, ?_⟩) hS ?_; rotate_left; focus (intro uu hu; clear hu; go_simp; try with_reducible rfl)
  try simp only [Act.put, List.getElem_toArray, List.getElem_cons_succ, List.getElem_cons_zero, List.setIfInBounds_toArray, List.set_cons_zero, List.set_cons_succ]
  refine wpAnyH_take (i := 18) (v := ?_) rfl (by kernel_rfl) (by kernel_rfl) (by kernel_rfl) (fun _ _ _ h => h) (Or.inl ⟨by kernel_rfl, ?_⟩) hS ?_; rotate_left; focus (intro uu hu; clear hu; go_simp; try with_reducible rfl)
  try simp only [Act.put, List.getElem_toArray, List.getElem_cons_succ, List.getElem_cons_zero, List.setIfInBounds_toArray, List.set_cons_zero, List.set_cons_succ]
  refine wpAnyH_take (i := 19) (v := .int .i64 r) rfl (by kernel_rfl) (by kernel_rfl) (by kernel_rfl) (fun _ _ _ h => h) (Or.inl ⟨by kernel_rfl, ?ld⟩) hS ?_; case ld => (intro uu hu; have hu2 := hu; obtain ⟨l0, l1, l2, l3⟩ := hu2; clear hu; go_simp)
  try simp only [Act.put, List.getElem_toArray, List.getElem_cons_succ, List.getElem_cons_zero, List.setIfInBounds_toArray, List.set_cons_zero, List.set_cons_succ]
  refine wpAnyH_take (i := 20) (v := ?_) rfl (by kernel_rfl) (by kernel_rfl) (by kernel_rfl) (fun _ _ _ h => h) (Or.inl ⟨by kernel_rfl, ?_⟩) hS ?_; rotate_left; focus (intro uu hu; clear hu; go_simp; try with_reducible rfl)
  try simp only [Act.put, List.getElem_toArray, List.getElem_cons_succ, List.getElem_cons_zero, List.setIfInBounds_toArray, List.set_cons_zero, List.set_cons_succ]
  refine wpAnyH_take (i := 21) (v := ?_) rfl (by kernel_rfl) (by kernel_rfl) (by kernel_rfl) (fun _ _ _ h => h) (Or.inl ⟨by kernel_rfl, ?_⟩) hS ?_; rotate_left; focus (intro uu hu; clear hu; go_simp; try with_reducible rfl)
  try simp only [Act.put, List.getElem_toArray, List.getElem_cons_succ, List.getElem_cons_zero, List.setIfInBounds_toArray, List.set_cons_zero, List.set_cons_succ]
  refine wpAnyH_take (i := 22) (v := ?_) rfl (by kernel_rfl) (by kernel_rfl) (by kernel_rfl) (fun _ _ _ h => h) (Or.inl ⟨by kernel_rfl, ?_⟩) hS ?_; rotate_left; focus (intro uu hu; clear hu; go_simp; try with_reducible rfl)
  try simp only [Act.put, List.getElem_toArray, List.getElem_cons_succ, List.getElem_cons_zero, List.setIfInBounds_toArray, List.set_cons_zero, List.set_cons_succ]
  refine wpAnyH_take (i := 23) (v := ?_) rfl (by kernel_rfl) (by kernel_rfl) (by kernel_rfl) (fun _ _ _ h => h) (Or.inl ⟨by kernel_rfl, ?_⟩) hS ?_; rotate_left; focus (intro uu hu; clear hu; go_simp; try with_reducible rfl)
  try simp only [Act.put, List.getElem_toArray, List.getElem_cons_succ, List.getElem_cons_zero, List.setIfInBounds_toArray, List.set_cons_zero, List.set_cons_succ]
  refine wpAnyH_take (i := 24) (v := .string b) rfl (by kernel_rfl) (by kernel_rfl) (by kernel_rfl) (fun _ _ _ h => h) (Or.inl ⟨by kernel_rfl, ?ld⟩) hS ?_; case ld => (intro uu hu; have hu2 := hu; obtain ⟨l0, l1, l2, l3⟩ := hu2; clear hu; go_simp)
  try simp only [Act.put, List.getElem_toArray, List.getElem_cons_succ, List.getElem_cons_zero, List.setIfInBounds_toArray, List.set_cons_zero, List.set_cons_succ]
  refine wpAnyH_take (i := 25) (v := ?_) rfl (by kernel_rfl) (by kernel_rfl) (by kernel_rfl) (fun _ _ _ h => h) (Or.inl ⟨by kernel_rfl, ?_⟩) hS ?_; rotate_left; focus (intro uu hu; clear hu; go_simp; try with_reducible rfl)
  try simp only [Act.put, List.getElem_toArray, List.getElem_cons_succ, List.getElem_cons_zero, List.setIfInBounds_toArray, List.set_cons_zero, List.set_cons_succ]
  refine wpAnyH_take (i := 26) (v := ?_) rfl (by kernel_rfl) (by kernel_rfl) (by kernel_rfl) (fun _ _ _ h => h) (Or.inl ⟨by kernel_rfl, ?_⟩) hS ?_; rotate_left; focus (intro uu hu; clear hu; go_simp; try with_reducible rfl)
  try simp only [Act.put, List.getElem_toArray, List.getElem_cons_succ, List.getElem_cons_zero, List.setIfInBounds_toArray, List.set_cons_zero, List.set_cons_succ]
  refine wpAnyH_take (i := 27) (v := .bool false) rfl (by kernel_rfl) (by kernel_rfl) (by kernel_rfl) (fun _ _ _ h => h) (Or.inl ⟨by kernel_rfl, ?ld⟩) hS ?_; case ld => (intro uu hu; clear hu; go_simp)
  try simp only [Act.put, List.getElem_toArray, List.getElem_cons_succ, List.getElem_cons_zero, List.setIfInBounds_toArray, List.set_cons_zero, List.set_cons_succ]
  refine wpAnyH_take (i := 28) (v := ?_) rfl (by kernel_rfl) (by kernel_rfl) (by kernel_rfl) (fun _ _ _ h => h) (Or.inl ⟨by kernel_rfl, ?_⟩) hS ?_; rotate_left; focus (intro uu hu; clear hu; go_simp; try with_reducible rfl)
  try simp only [Act.put, List.getElem_toArray, List.getElem_cons_succ, List.getElem_cons_zero, List.setIfInBounds_toArray, List.set_cons_zero, List.set_cons_succ]
  refine wpAnyH_done (by kernel_rfl) ?_ _
  clear hS
  go_wp2_with fail
  have hmn : min (s.size : Int) (r - b.size) = (s.size : Nat) := by omega
  refine (pushOpenM r b s g ot (World.drew w) hs hr1 hb1 s.size hmn hx0 hx1 hx2 hx3 (R.frozen (ot + 1))).mono ?_; rintro x w1 ⟨rfl, q, rfl⟩
  have hse : s.extract 0 s.size = s := by simp
  rw [hse]
  have R1 : MidIs (((World.drew w).drewN q).setCell ⟨g, ot + 1, none⟩ (.string (b ++ s))) g ty A C ot [.int .i64 r, .string (b ++ s), .bool false, .bool false, .int .i64 r2, .string b2, .bool e2, .bool k2, .int .i64 wt, .int .i64 cm] := MidIs.set (w := (World.drew w).drewN q) ⟨R.row, R.off⟩ 1 (.string (b ++ s)) (by simp)
  have B1 : Turn g (g + 1) w (((World.drew w).drewN q).setCell ⟨g, ot + 1, none⟩ (.string (b ++ s))) := ((Turn.refl g (g + 1) w).drew.drewN q).setCell _ (.inl ⟨Nat.le_refl _, Nat.lt_succ_self _⟩)
  clear hx0 hx1 hx2 hx3 R
  generalize ((World.drew w).drewN q).setCell ⟨g, ot + 1, none⟩ (.string (b ++ s)) = V at *
  have hy2 : World.cell? _ ⟨g, ot + 2, none⟩ = some _ := MidIs.cell (j := 2) R1 rfl
  have hyf := MidIs.frozen R1 (ot + 2)
  go_wp2_with fail
  go_ret
  exact ⟨rfl, R1.set 2 (.bool fin) (by simp), B1.setCell _ (.inl ⟨Nat.le_refl _, Nat.lt_succ_self _⟩)⟩
set_option maxHeartbeats 1000000 in
theorem l16TornM (r : Int) (b : ByteArray) (e k : Bool) (r2 : Int) (b2 : ByteArray) (e2 k2 : Bool) (wt cm : Int) (g ot : Nat) (ty : TypeId) (A C : List Value) (w : World) (R : MidIs w g ty A C ot [.int .i64 r, .string b, .bool e, .bool k, .int .i64 r2, .string b2, .bool e2, .bool k2, .int .i64 wt, .int .i64 cm]) :
    Calls Tryz.prog 65 #[.pointer (some ⟨g, ot, none⟩)] w fun x w' => x = .returned (.tuple #[]) ∧ MidIs w' g ty A C ot [.int .i64 r, .string ⟨#[]⟩, .bool e, .bool true, .int .i64 r2, .string ⟨#[]⟩, .bool e2, .bool true, .int .i64 wt, .int .i64 cm] ∧ Turn g (g + 1) w w' := by
  have hx1 : World.cell? _ ⟨g, ot + 1, none⟩ = some _ := MidIs.cell (j := 1) R rfl
  have hx3 : World.cell? _ ⟨g, ot + 3, none⟩ = some _ := MidIs.cell (j := 3) R rfl
  have hx5 : World.cell? _ ⟨g, ot + 4 + 1, none⟩ = some _ := MidIs.cell (j := 5) R rfl
  have hx7 : World.cell? _ ⟨g, ot + 4 + 3, none⟩ = some _ := MidIs.cell (j := 7) R rfl
  have hxf := fun j => MidIs.frozen R j
  have hB : Turn g (g + 1) w ((((w.setCell ⟨g, ot + 3, none⟩ (.bool true)).setCell ⟨g, ot + 1, none⟩ (.string ⟨#[]⟩)).setCell ⟨g, ot + 4 + 3, none⟩ (.bool true)).setCell ⟨g, ot + 4 + 1, none⟩ (.string ⟨#[]⟩)) := ((((Turn.refl g (g + 1) w).setCell _ (.inl ⟨Nat.le_refl _, Nat.lt_succ_self _⟩)).setCell _ (.inl ⟨Nat.le_refl _, Nat.lt_succ_self _⟩)).setCell _ (.inl ⟨Nat.le_refl _, Nat.lt_succ_self _⟩)).setCell _ (.inl ⟨Nat.le_refl _, Nat.lt_succ_self _⟩)
  go_enter Tryz.func65, Tryz.ntmps65
  go_wp2_with fail
  refine bodyPost_end (v := .tuple #[]) (by simp [results, Tryz.results65, go_sem]) rfl ?_
  exact ⟨rfl, (((R.set 3 (.bool true) (by simp)).set 1 (.string ⟨#[]⟩) (by simp)).set 7 (.bool true) (by simp)).set 5 (.string ⟨#[]⟩) (by simp), hB⟩
end Go.Proofs.YtllaeakeaabiaaaGreat
/- Chapter 10's model, what it asks: odd numbers, how many live, where one is, RegistryOk, StateOf, Live. -/
namespace Go.Proofs.YtllaeakeaabiaaaGreat
open Go.RowKit
set_option maxRecDepth 100000
set_option linter.unusedSimpArgs false
set_option linter.unusedVariables false
def ev (L : List EntryD) : List Value := L.flatMap EntryD.cs
theorem ev_len (L : List EntryD) : (ev L).length = L.length * 2 := flat_length EntryD.cs 2 (fun _ => rfl) L
theorem ev_get (L : List EntryD) (k : Nat) (h : k < L.length) : (ev L)[k * 2]? = some (.int .i64 L[k].id) ∧ (ev L)[k * 2 + 1]? = some (.int .i64 L[k].state) :=
  ⟨flat_get EntryD.cs 2 (fun _ => rfl) L k h 0 (by decide), flat_get EntryD.cs 2 (fun _ => rfl) L k h 1 (by decide)⟩
theorem ev_one (L : List EntryD) : ∀ u ∈ ev L, u.oneCell' = true := by
  intro u hu
  obtain ⟨f, _, hf⟩ := List.mem_flatMap.1 hu
  simp only [EntryD.cs, List.mem_cons, List.not_mem_nil, or_false] at hf
  rcases hf with rfl | rfl <;> rfl
theorem ev_app (A B : List EntryD) : ev (A ++ B) = ev A ++ ev B := by simp [ev]
theorem ent_flat : ∀ (w : World) (cs : List Value) (d : EntryD), entryS.rd w cs d → cs = EntryD.cs d := fun _ _ _ h => h
theorem rd_ev {w : World} {v : Value} {L : List EntryD} (h : RdR entryS w v L) : Reads w v L.length 2 (ev L) := RdR.flat (E := entryS) ent_flat h
theorem ow_ev {w : World} {lo hi : Nat} {v : Value} {L : List EntryD} (h : OwX entryS w lo hi v L) : w.ownsRow lo 103 2 v L.length (ev L) := OwX.flat (E := entryS) ent_flat h
theorem ev_ow {w : World} {lo : Nat} {v : Value} {L : List EntryD} (h : w.ownsRow lo 103 2 v L.length (ev L)) : OwX entryS w lo w.heap.size v L := owX_flat (E := entryS) (f := EntryD.cs) (fun d _ => ⟨rfl, rfl⟩) h
theorem ev_rd {w : World} {v : Value} {L : List EntryD} (h : Reads w v L.length 2 (ev L)) : RdR entryS w v L :=
  ⟨L.map fun d => (d.cs, d), by simp [Function.comp_def], by show Reads w v (L.map _).length 2 _; simpa [List.flatMap_map, ev] using h, fun t ht => by obtain ⟨d, _, rfl⟩ := List.mem_map.1 ht; rfl⟩
def atI (L : List EntryD) (id : Int) : Int := match atE L id with | some k => (k : Int) | none => -1
theorem specId (x : Int) (w : World) : Calls Tryz.prog 95 #[.int .i64 x] w fun e w' => e = .returned (.bool (idB x)) ∧ w' = w := by
  cases h : inB x 1 100000
  · have hv : idB x = false := by unfold idB; refine decide_eq_false fun c => ?_; exact inB_false h ⟨c.1, c.2.1⟩
    rw [hv]
    go_enter Tryz.func95, Tryz.ntmps95
    go_wp2_with fail
    refine (specIn _ _ _ _).mono ?_; rw [h]; rintro e w1 ⟨rfl, hsame⟩; obtain rfl := hsame.symm; clear hsame
    go_wp2_with fail
    go_ret
    exact ⟨rfl, rfl⟩
  · obtain ⟨h0, h1⟩ := inB_true h
    have ht : x.tmod 2 = x % 2 := Int.tmod_eq_emod_of_nonneg (by omega)
    have hv : idB x = decide (x % 2 = 1) := by unfold idB; congr 1; exact propext ⟨fun c => c.2.2, fun c => ⟨h0, h1, c⟩⟩
    rw [hv]
    go_enter Tryz.func95, Tryz.ntmps95
    go_wp2_with fail
    refine (specIn _ _ _ _).mono ?_; rw [h]; rintro e w1 ⟨rfl, hsame⟩; obtain rfl := hsame.symm; clear hsame
    go_wp2_with fail
    go_ret
    exact ⟨by rfl, rfl⟩

set_option maxHeartbeats 1000000 in
theorem specLiveL (d : RegistryD) (v : Value) (w : World) (hr : RdR entryS w v d.es) : Calls Tryz.prog 155 #[.agg #[.int .i64 d.lim, .int .i64 d.top, v]] w fun x w' => x = .returned (.int .i64 (liveL d.es)) ∧ Below w.heap.size w w' := by
  obtain ⟨ad, cap, rfl, h1, h2⟩ := hr.form
  have HR := hide hr
  clear hr
  go_enter Tryz.func155, Tryz.ntmps155
  go_wp2_with fail
  go_loop [3, 4] (fun n i => ∃ (k : Nat), i = .int .i64 k ∧ k ≤ d.es.length ∧ n = .int .i64 (liveL (d.es.take k))) (fun _ i => d.es.length - (intOf i).toNat)
  case atStart => exact ⟨0, rfl, Nat.zero_le _, rfl⟩
  case round =>
    obtain ⟨k, rfl, hk, rfl⟩ := hrel
    by_cases hlt : k < d.es.length
    · have hbx : Below w.heap.size w (w.alloc (.cells #[.int .i64 d.lim, .int .i64 d.top, .slice ad d.es.length cap] 37)) := (Below.refl _ _).alloc (Nat.le_refl _) _
      obtain ⟨b, o, cs, rfl, hbw, rfl, hc⟩ := HR.out.at k hlt
      have c1 : w.cell? ⟨b, o + k * 2 + 1, none⟩ = some (.int .i64 d.es[k].state) := hc 1 _ rfl
      clear hc
      have hlk := sum_take lv1 d.es k hlt
      have hll := live_le (d.es.take k)
      have hln := live_nn (d.es.take k)
      have hlk2 : (d.es.take k).length ≤ k := by rw [List.length_take]; omega
      have HK : Hid (liveL (d.es.take (k + 1)) = liveL (d.es.take k) + lv1 d.es[k]) := hlk
      generalize liveL (d.es.take k) = q at *
      obtain ⟨s, hs⟩ : ∃ s, d.es[k].state = s := ⟨_, rfl⟩
      rw [hs] at c1
      have HS := hide hs
      clear hs hlk hbx
      by_cases h4 : s = 4
      · have H4 : Hid (lv1 d.es[k] = 0) := by show lv1 _ = 0; unfold lv1; rw [HS.out, if_pos h4]
        subst h4
        go_wp2_with fail
        go_round
        case rel => exact ⟨k + 1, by go_num, by omega, int_eq (by have := HK.out; have := H4.out; omega)⟩
        case measure => simp [intOf]; omega
      · have H4 : Hid (lv1 d.es[k] = 1) := by show lv1 _ = 1; unfold lv1; rw [HS.out, if_neg h4]
        have h4' : (s != 4) = true := by simpa using h4
        clear h4
        go_wp2_with fail
        go_round
        case rel => exact ⟨k + 1, by go_num, by omega, int_eq (by have := HK.out; have := H4.out; omega)⟩
        case measure => simp [intOf]; omega
    · obtain rfl : k = d.es.length := by omega
      rw [List.take_length]
      go_wp2_with fail
      go_ret
      exact ⟨rfl, (by repeat' (first | (with_reducible exact Below.refl _ _) | (with_reducible refine Below.drew ?_) | (with_reducible refine bo_drewN _ ?_) | (with_reducible refine bo_alloc ?_ _) | (refine bchain ?_ (by with_reducible assumption)) | (with_reducible refine Below.setCell ?_ ?_ _) | go_size))⟩
theorem atI_none {L : List EntryD} {id : Int} (h : ∀ e ∈ L, e.id ≠ id) : atI L id = -1 := by unfold atI; rw [atE_no h]
theorem atI_some {L : List EntryD} {id : Int} {k : Nat} (h : atE L id = some k) : atI L id = k := by unfold atI; rw [h]
set_option maxHeartbeats 1000000 in
theorem specAt (d : RegistryD) (id : Int) (v : Value) (w : World) (hr : RdR entryS w v d.es) : Calls Tryz.prog 64 #[.agg #[.int .i64 d.lim, .int .i64 d.top, v], .int .i64 id] w fun x w' => x = .returned (.int .i64 (atI d.es id)) ∧ Below w.heap.size w w' := by
  obtain ⟨ad, cap, rfl, h1, h2⟩ := hr.form
  have HR := hide hr
  clear hr
  obtain ⟨A, hA⟩ : ∃ A, atI d.es id = A := ⟨_, rfl⟩
  rw [hA]
  have HA := hide hA
  clear hA
  go_enter Tryz.func64, Tryz.ntmps64
  go_wp2_with fail
  go_loop [5] (fun i => ∃ (k : Nat), i = .int .i64 k ∧ k ≤ d.es.length ∧ Hid (∀ j (hj : j < d.es.length), j < k → d.es[j].id ≠ id)) (fun i => d.es.length - (intOf i).toNat)
  case atStart => exact ⟨0, rfl, Nat.zero_le _, fun j _ hj => absurd hj (Nat.not_lt_zero _)⟩
  case round =>
    obtain ⟨k, rfl, hk, HN⟩ := hrel
    by_cases hlt : k < d.es.length
    · obtain ⟨b, o, cs, rfl, hbw, rfl, hc⟩ := HR.out.at k hlt
      have c0 : w.cell? ⟨b, o + k * 2, none⟩ = some (.int .i64 d.es[k].id) := hc 0 _ rfl
      clear hc
      obtain ⟨s, hs⟩ : ∃ s, d.es[k].id = s := ⟨_, rfl⟩
      rw [hs] at c0
      have HS := hide hs
      clear hs
      by_cases h4 : s = id
      · subst h4
        have HF : Hid (A = k) := by show A = k; rw [← HA.out]; exact atI_some (atE_of k hlt HS.out fun j hj => HN.out j (by omega) hj)
        go_wp2_with fail
        go_ret
        exact ⟨by rw [HF.out]; rfl, (by repeat' (first | (with_reducible exact Below.refl _ _) | (with_reducible refine Below.drew ?_) | (with_reducible refine bo_drewN _ ?_) | (with_reducible refine bo_alloc ?_ _) | (refine bchain ?_ (by with_reducible assumption)) | (with_reducible refine Below.setCell ?_ ?_ _) | go_size))⟩
      · have h4' : (s == id) = false := by simpa using h4
        have HN2 : Hid (∀ j (hj : j < d.es.length), j < k + 1 → d.es[j].id ≠ id) := fun j hj hjk => by
          by_cases e : j = k
          · subst e; rw [HS.out]; exact h4
          · exact HN.out j hj (by omega)
        clear h4
        go_wp2_with fail
        go_round
        case rel => exact ⟨k + 1, by go_num, by omega, HN2⟩
        case measure => simp [intOf]; omega
    · have HF : Hid (A = -1) := by
        show A = -1
        rw [← HA.out]
        refine atI_none fun e he => ?_
        obtain ⟨j, hj, rfl⟩ := List.mem_iff_getElem.1 he
        exact HN.out j hj (by omega)
      go_wp2_with fail
      go_ret
      exact ⟨by rw [HF.out]; rfl, (by repeat' (first | (with_reducible exact Below.refl _ _) | (with_reducible refine Below.drew ?_) | (with_reducible refine bo_drewN _ ?_) | (with_reducible refine bo_alloc ?_ _) | (refine bchain ?_ (by with_reducible assumption)) | (with_reducible refine Below.setCell ?_ ?_ _) | go_size))⟩
set_option maxHeartbeats 1000000 in
theorem specState0 (d : RegistryD) (v : Value) (id : Int) (w : World) (hr : RdR entryS w v d.es) : Calls Tryz.prog 61 #[.agg #[.int .i64 d.lim, .int .i64 d.top, v], .int .i64 id] w fun x w' => x = .returned (.int .i64 (stateD d id)) ∧ Below w.heap.size w w' := by
  obtain ⟨ad, cap, rfl, h1, h2⟩ := hr.form
  have HR := hide hr
  clear hr
  obtain ⟨A, hA⟩ : ∃ A, stateD d id = A := ⟨_, rfl⟩
  rw [hA]
  have HA := hide hA
  clear hA
  go_enter Tryz.func61, Tryz.ntmps61
  go_wp2_with fail
  have hbx : Below w.heap.size w (w.alloc (.cells #[.int .i64 d.lim, .int .i64 d.top, .slice ad d.es.length cap] 37)) := (Below.refl _ _).alloc (Nat.le_refl _) _
  have hX : RowIs (w.alloc (.cells #[.int .i64 d.lim, .int .i64 d.top, .slice ad d.es.length cap] 37)) w.heap.size 37 [.int .i64 d.lim, .int .i64 d.top, .slice ad d.es.length cap] := rowIs_new w 37 [.int .i64 d.lim, .int .i64 d.top, .slice ad d.es.length cap]
  refine (specAt d id _ _ (HR.out.new hbx)).mono ?_; rintro x w1 ⟨rfl, hb1⟩
  have hX1 := hX.new hb1
  have hbw := bchain hbx hb1
  have x1 := hX1.cell (j := 1) rfl
  have x2 := hX1.cell (j := 2) rfl
  have hlX := hX1.lt
  clear hX hX1 hbx hb1
  cases hq : atE d.es id with
  | none =>
    have hI : atI d.es id = -1 := by unfold atI; rw [hq]
    rw [hI]
    have HV := hide (stateD_none hq)
    clear hI hq
    cases hid : idB id
    · have HF : Hid (A = 0) := by show A = 0; rw [← HA.out, HV.out, if_neg (by rw [hid]; simp)]
      go_wp2_with fail
      refine (specId id _).mono ?_; rw [hid]; rintro e w2 ⟨rfl, hsame⟩; obtain rfl := hsame.symm; clear hsame
      go_wp2_with fail
      go_ret
      exact ⟨by rw [HF.out]; rfl, hbw⟩
    · by_cases htop : id ≤ d.top
      · have HF : Hid (A = 4) := by show A = 4; rw [← HA.out, HV.out, if_pos ⟨hid, htop⟩]
        go_wp2_with fail
        refine (specId id _).mono ?_; rw [hid]; rintro e w2 ⟨rfl, hsame⟩; obtain rfl := hsame.symm; clear hsame
        go_wp2_with fail
        go_ret
        exact ⟨by rw [HF.out]; rfl, hbw⟩
      · have HF : Hid (A = 0) := by show A = 0; rw [← HA.out, HV.out, if_neg (fun c => htop c.2)]
        go_wp2_with fail
        refine (specId id _).mono ?_; rw [hid]; rintro e w2 ⟨rfl, hsame⟩; obtain rfl := hsame.symm; clear hsame
        go_wp2_with fail
        go_ret
        exact ⟨by rw [HF.out]; rfl, hbw⟩
  | some k =>
    obtain ⟨hk, _, _⟩ := atE_some hq
    have hI : atI d.es id = k := atI_some hq
    rw [hI]
    have HF : Hid (A = d.es[k].state) := by show A = _; rw [← HA.out, stateD_some hq hk]
    obtain ⟨b, o, cs, rfl, hbb, rfl, hc⟩ := (HR.out.new hbw).at k hk
    have c1 : w1.cell? ⟨b, o + k * 2 + 1, none⟩ = some (.int .i64 d.es[k].state) := hc 1 _ rfl
    clear hc hI hq
    generalize d.es[k].state = s at *
    go_wp2_with fail
    go_ret
    exact ⟨by rw [HF.out]; rfl, hbw⟩

theorem ok_false {d : RegistryD} (h : ¬ ((0 ≤ d.lim ∧ d.lim ≤ 20) ∧ (d.top = 0 ∨ idB d.top = true) ∧ d.es.length ≤ 60 ∧ (∀ i (h : i < d.es.length), entOk d.top d.es[i] = true ∧ (0 < i → (d.es[i - 1]'(by omega)).id < d.es[i].id)) ∧ liveL d.es ≤ d.lim)) : okRg d = false := by
  cases hq : okRg d
  · rfl
  · exact absurd (okRg_iff.1 hq) h
set_option maxHeartbeats 4000000 in
theorem specRegistryOk (d : RegistryD) (v : Value) (w : World) (hr : RdR entryS w v d.es) : Calls Tryz.prog 48 #[.agg #[.int .i64 d.lim, .int .i64 d.top, v]] w fun x w' => x = .returned (.bool (okRg d)) ∧ Below w.heap.size w w' := by
  obtain ⟨ad, cap, rfl, h1, h2⟩ := hr.form
  have HR := hide hr
  clear hr
  obtain ⟨A, hA⟩ : ∃ A, okRg d = A := ⟨_, rfl⟩
  rw [hA]
  have HA := hide hA
  clear hA
  cases hlim : inB d.lim 0 20
  · have HF : Hid (A = false) := by show A = false; rw [← HA.out]; exact ok_false fun c => inB_false hlim c.1
    go_enter Tryz.func48, Tryz.ntmps48; go_wp2_with fail; refine (specIn _ _ _ _).mono ?_; rw [hlim]; rintro e w1 ⟨rfl, hsame⟩; obtain rfl := hsame.symm; clear hsame; go_wp2_with fail
    go_ret
    exact ⟨by rw [HF.out]; rfl, (by repeat' (first | (with_reducible exact Below.refl _ _) | (with_reducible refine Below.drew ?_) | (with_reducible refine bo_drewN _ ?_) | (with_reducible refine bo_alloc ?_ _) | (refine bchain ?_ (by with_reducible assumption)) | (with_reducible refine Below.setCell ?_ ?_ _) | go_size))⟩
  have htc : (d.top = 0 ∧ (d.top != 0) = false) ∨ ((d.top != 0) = true ∧ idB d.top = false) ∨ ((d.top != 0) = true ∧ idB d.top = true) := by
    by_cases h : d.top = 0
    · exact .inl ⟨h, by simp [h]⟩
    · cases hq : idB d.top
      · exact .inr (.inl ⟨by simpa using h, rfl⟩)
      · exact .inr (.inr ⟨by simpa using h, rfl⟩)
  have hid := fun w => specId d.top w
  rcases htc with ⟨ht0, ht1⟩ | ⟨ht1, ht2⟩ | ⟨ht1, ht2⟩
  · have HT0 := hide ht0
    clear ht0
    go_enter Tryz.func48, Tryz.ntmps48
    go_wp2_with fail
    refine (specIn _ _ _ _).mono ?_; rw [hlim]; rintro e w1 ⟨rfl, hsame⟩; obtain rfl := hsame.symm; clear hsame
    by_cases h60 : (60 : Int) < d.es.length
    · have HF : Hid (A = false) := by show A = false; rw [← HA.out]; exact ok_false fun c => by have := c.2.2.1; omega
      go_wp2_with fail
      go_ret
      exact ⟨by rw [HF.out]; rfl, (by repeat' (first | (with_reducible exact Below.refl _ _) | (with_reducible refine Below.drew ?_) | (with_reducible refine bo_drewN _ ?_) | (with_reducible refine bo_alloc ?_ _) | (refine bchain ?_ (by with_reducible assumption)) | (with_reducible refine Below.setCell ?_ ?_ _) | go_size))⟩
    have HTOP : Hid (d.top = 0 ∨ idB d.top = true) := .inl HT0.out
    have HLIM := hide (inB_true hlim)
    clear hid
    have hbx : Below w.heap.size w (w.alloc (.cells #[.int .i64 d.lim, .int .i64 d.top, .slice ad d.es.length cap] 37)) := (Below.refl _ _).alloc (Nat.le_refl _) _
    have HX : Hid (RowIs (w.alloc (.cells #[.int .i64 d.lim, .int .i64 d.top, .slice ad d.es.length cap] 37)) w.heap.size 37 [.int .i64 d.lim, .int .i64 d.top, .slice ad d.es.length cap]) := rowIs_new w 37 [.int .i64 d.lim, .int .i64 d.top, .slice ad d.es.length cap]
    go_wp2_with fail
    go_loopw [3, 4] (fun n i wr => ∃ (k : Nat), i = .int .i64 k ∧ k ≤ d.es.length ∧ n = .int .i64 (liveL (d.es.take k)) ∧ Hid (∀ j (hj : j < d.es.length), j < k → entOk d.top d.es[j] = true ∧ (0 < j → (d.es[j - 1]'(by omega)).id < d.es[j].id)) ∧ Hid (RowIs wr w.heap.size 37 [.int .i64 d.lim, .int .i64 d.top, .slice ad d.es.length cap]) ∧ Hid (Below w.heap.size w wr)) (fun _ i _ => d.es.length - (intOf i).toNat)
    case atStart => exact ⟨0, rfl, Nat.zero_le _, rfl, fun j _ hj => absurd hj (Nat.not_lt_zero _), HX, hbx⟩
    case round =>
      clear HX hbx
      obtain ⟨k, rfl, hk, rfl, HC, HX, HB⟩ := hrel
      by_cases hlt : k < d.es.length
      · obtain ⟨b, o, cs, rfl, hbw, rfl, hc⟩ := (HR.out.new HB.out).at k hlt
        have c0 : wr.cell? ⟨b, o + k * 2, none⟩ = some (.int .i64 d.es[k].id) := hc 0 _ rfl
        have c1 : wr.cell? ⟨b, o + k * 2 + 1, none⟩ = some (.int .i64 d.es[k].state) := hc 1 _ rfl
        clear hc
        have x2 := HX.out.cell (j := 2) rfl
        have hlX := HX.out.lt
        have hlk := sum_take lv1 d.es k hlt
        have hll := live_le (d.es.take k)
        have hln := live_nn (d.es.take k)
        have hlk2 : (d.es.take k).length ≤ k := by rw [List.length_take]; omega
        have HLV : Hid (liveL (d.es.take (k + 1)) = liveL (d.es.take k) + lv1 d.es[k]) := hlk
        generalize liveL (d.es.take k) = q at *
        obtain ⟨e, he⟩ : ∃ e, d.es[k] = e := ⟨_, rfl⟩
        rw [he] at c0 c1
        have HE := hide he
        clear he hlk
        go_upto_region 8 with fail
        have hbe : Below wr.heap.size wr (wr.alloc (.cells #[.int .i64 e.id, .int .i64 e.state] 103)) := (Below.refl _ _).alloc (Nat.le_refl _) _
        have hre : RowIs (wr.alloc (.cells #[.int .i64 e.id, .int .i64 e.state] 103)) wr.heap.size 103 [.int .i64 e.id, .int .i64 e.state] := rowIs_new wr 103 [.int .i64 e.id, .int .i64 e.state]
        generalize wr.alloc (.cells #[.int .i64 e.id, .int .i64 e.state] 103) = X at *
        replace HX := hide (HX.out.new hbe)
        replace HB := hide (bchain HB.out hbe)
        have hre0 := hre.cell (j := 0) rfl
        have hre1 := hre.cell (j := 1) rfl
        have hlE := hre.lt
        have hx1 := HX.out.cell (j := 1) rfl
        have hx2 := HX.out.cell (j := 2) rfl
        have hlX2 := HX.out.lt
        generalize wr.heap.size = ge at *
        have qe0 : ∀ y : Later X, y.w.cell? ⟨ge, 0, none⟩ = some (.int .i64 e.id) := fun y => (y.b.cell (p := ⟨ge, 0, none⟩) hlE).trans hre0
        have qe1 : ∀ y : Later X, y.w.cell? ⟨ge, 1, none⟩ = some (.int .i64 e.state) := fun y => (y.b.cell (p := ⟨ge, 1, none⟩) hlE).trans hre1
        have qx1 : ∀ y : Later X, y.w.cell? ⟨w.heap.size, 1, none⟩ = some (.int .i64 d.top) := fun y => (y.b.cell (p := ⟨w.heap.size, 1, none⟩) hlX2).trans hx1
        have qx2 : ∀ y : Later X, y.w.cell? ⟨w.heap.size, 2, none⟩ = some (.slice (some ⟨b, o, none⟩) d.es.length cap) := fun y => (y.b.cell (p := ⟨w.heap.size, 2, none⟩) hlX2).trans hx2
        clear c0 c1 x2 hlX hbe hre hre0 hre1 hx1 hx2
        have hI := fun w => specId e.id w
        have hS := fun w => specIn e.state 1 4 w
        cases hi : idB e.id
        · rw [hi] at hI
          have HF : Hid (A = false) := by
            show A = false
            rw [← HA.out]
            refine ok_false fun c => ?_
            have hck := c.2.2.2.1 k hlt
            rw [HE.out] at hck
            have hek := entOk_iff.1 hck.1
            rw [hi] at hek; simp at hek
          have hne : Nonempty (Later X) := ⟨⟨X, Below.refl _ _⟩⟩; refine region_later (by kernel_rfl) (by kernel_rfl) ?_
          repeat (go_big_quiet_step (fail))
          go_big_quiet_want; go_big_quiet_op; refine ⟨.bool false, fun y => later_same (x := y) (hI y.w), ?_⟩; go_big_quiet_on
          repeat (go_big_quiet_step (fail))
          refine wpQuiet_nil ?_; intro _ hw'; obtain ⟨y, hw''⟩ := hw'; subst hw''; have hby := y.b
          go_wp2_with fail
          go_ret
          exact ⟨by rw [HF.out]; rfl, bchain HB.out hby⟩
        rw [hi] at hI
        by_cases htp : d.top < e.id
        · have HF : Hid (A = false) := by
            show A = false
            rw [← HA.out]
            refine ok_false fun c => ?_
            have hck := c.2.2.2.1 k hlt
            rw [HE.out] at hck
            have hek := entOk_iff.1 hck.1
            omega
          have hne : Nonempty (Later X) := ⟨⟨X, Below.refl _ _⟩⟩; refine region_later (by kernel_rfl) (by kernel_rfl) ?_
          repeat (go_big_quiet_step (fail))
          go_big_quiet_want; go_big_quiet_op; refine ⟨.bool true, fun y => later_same (x := y) (hI y.w), ?_⟩; go_big_quiet_on
          repeat (go_big_quiet_step (fail))
          refine wpQuiet_nil ?_; intro _ hw'; obtain ⟨y, hw''⟩ := hw'; subst hw''; have hby := y.b
          go_wp2_with fail
          go_ret
          exact ⟨by rw [HF.out]; rfl, bchain HB.out hby⟩
        cases hs : inB e.state 1 4
        · rw [hs] at hS
          have HF : Hid (A = false) := by
            show A = false
            rw [← HA.out]
            refine ok_false fun c => ?_
            have hck := c.2.2.2.1 k hlt
            rw [HE.out] at hck
            have hek := entOk_iff.1 hck.1
            exact inB_false hs hek.2.2
          have hne : Nonempty (Later X) := ⟨⟨X, Below.refl _ _⟩⟩; refine region_later (by kernel_rfl) (by kernel_rfl) ?_
          repeat (go_big_quiet_step (fail))
          go_big_quiet_want; go_big_quiet_op; refine ⟨.bool true, fun y => later_same (x := y) (hI y.w), ?_⟩; go_big_quiet_on
          repeat (go_big_quiet_step (fail))
          go_big_quiet_want; go_big_quiet_op; refine ⟨.bool false, fun y => later_same (x := y) (hS y.w), ?_⟩; go_big_quiet_on
          repeat (go_big_quiet_step (fail))
          refine wpQuiet_nil ?_; intro _ hw'; obtain ⟨y, hw''⟩ := hw'; subst hw''; have hby := y.b
          go_wp2_with fail
          go_ret
          exact ⟨by rw [HF.out]; rfl, bchain HB.out hby⟩
        rw [hs] at hS
        have HEK : Hid (entOk d.top d.es[k] = true) := by show _ = true; rw [HE.out]; exact entOk_iff.2 ⟨hi, by omega, inB_true hs⟩
        cases k with
        | zero =>
          have hk0 : decide ((0 : Int) < ((0 : Nat) : Int)) = false := rfl
          have hne : Nonempty (Later X) := ⟨⟨X, Below.refl _ _⟩⟩; refine region_later (by kernel_rfl) (by kernel_rfl) ?_
          repeat (go_big_quiet_step (fail))
          go_big_quiet_want; go_big_quiet_op; refine ⟨.bool true, fun y => later_same (x := y) (hI y.w), ?_⟩; go_big_quiet_on
          repeat (go_big_quiet_step (fail))
          go_big_quiet_want; go_big_quiet_op; refine ⟨.bool true, fun y => later_same (x := y) (hS y.w), ?_⟩; go_big_quiet_on
          repeat (go_big_quiet_step (fail))
          refine wpQuiet_nil ?_; intro _ hw'; obtain ⟨y, hw''⟩ := hw'; subst hw''; have hby := y.b
          have HC2 : Hid (∀ j (hj : j < d.es.length), j < 0 + 1 → entOk d.top d.es[j] = true ∧ (0 < j → (d.es[j - 1]'(by omega)).id < d.es[j].id)) := fun j hj hjk => by
            by_cases ej : j = 0
            · subst ej; exact ⟨HEK.out, fun h => absurd h (Nat.lt_irrefl _)⟩
            · exact HC.out j hj (by omega)
          have qq1 := qe1 y
          have HX2 := hide (HX.out.new hby)
          have HB2 := hide (bchain HB.out hby)
          have hlE2 := Nat.lt_of_lt_of_le hlE hby.size
          clear qe0 qe1 qx1 qx2 hne
          by_cases h4 : e.state = 4
          · have H4 : Hid (lv1 d.es[0] = 0) := by show lv1 _ = 0; unfold lv1; rw [HE.out, if_pos h4]
            have h4' : (e.state != 4) = false := by simp [h4]
            clear h4
            go_wp2_with fail
            go_roundw
            case rel => exact ⟨0 + 1, by go_num, by omega, int_eq (by have := HLV.out; have := H4.out; omega), HC2, HX2, HB2⟩
            case measure => simp [intOf]; omega
          · have H4 : Hid (lv1 d.es[0] = 1) := by show lv1 _ = 1; unfold lv1; rw [HE.out, if_neg h4]
            have h4' : (e.state != 4) = true := by simpa using h4
            clear h4
            go_wp2_with fail
            go_roundw
            case rel => exact ⟨0 + 1, by go_num, by omega, int_eq (by have := HLV.out; have := H4.out; omega), HC2, HX2, HB2⟩
            case measure => simp [intOf]; omega
        | succ k =>
          have hkp : decide ((0 : Int) < ((k + 1 : Nat) : Int)) = true := decide_eq_true (by omega)
          obtain ⟨b', o', cs', hbo, hbw', rfl, hc'⟩ := (HR.out.new HB.out).at k (by omega)
          simp only [Option.some.injEq, Addr.mk.injEq] at hbo
          obtain ⟨rfl, rfl, -⟩ := hbo
          have hp0 : X.cell? ⟨b, o + k * 2, none⟩ = some (.int .i64 (d.es[k]'(by omega)).id) := hc' 0 _ rfl
          clear hc'
          obtain ⟨pe, hpe⟩ : ∃ pe, (d.es[k]'(by omega)).id = pe := ⟨_, rfl⟩
          rw [hpe] at hp0
          have HPE := hide hpe
          clear hpe
          have qp0 : ∀ y : Later X, y.w.cell? ⟨b, o + k * 2, none⟩ = some (.int .i64 pe) := fun y => (y.b.cell (p := ⟨b, o + k * 2, none⟩) hbw').trans hp0
          clear hp0
          by_cases hpr : e.id ≤ pe
          · have HF : Hid (A = false) := by
              show A = false
              rw [← HA.out]
              refine ok_false fun c => ?_
              have hck := c.2.2.2.1 (k + 1) hlt
              rw [HE.out] at hck
              have hek := entOk_iff.1 hck.1
              have h3 := hck.2 (by omega)
              simp only [Nat.add_sub_cancel] at h3
              rw [HPE.out] at h3
              omega
            have hne : Nonempty (Later X) := ⟨⟨X, Below.refl _ _⟩⟩; refine region_later (by kernel_rfl) (by kernel_rfl) ?_
            repeat (go_big_quiet_step (fail))
            go_big_quiet_want; go_big_quiet_op; refine ⟨.bool true, fun y => later_same (x := y) (hI y.w), ?_⟩; go_big_quiet_on
            repeat (go_big_quiet_step (fail))
            go_big_quiet_want; go_big_quiet_op; refine ⟨.bool true, fun y => later_same (x := y) (hS y.w), ?_⟩; go_big_quiet_on
            repeat (go_big_quiet_step (fail))
            refine wpQuiet_nil ?_; intro _ hw'; obtain ⟨y, hw''⟩ := hw'; subst hw''; have hby := y.b
            go_wp2_with fail
            go_ret
            exact ⟨by rw [HF.out]; rfl, bchain HB.out hby⟩
          · have hne : Nonempty (Later X) := ⟨⟨X, Below.refl _ _⟩⟩; refine region_later (by kernel_rfl) (by kernel_rfl) ?_
            repeat (go_big_quiet_step (fail))
            go_big_quiet_want; go_big_quiet_op; refine ⟨.bool true, fun y => later_same (x := y) (hI y.w), ?_⟩; go_big_quiet_on
            repeat (go_big_quiet_step (fail))
            go_big_quiet_want; go_big_quiet_op; refine ⟨.bool true, fun y => later_same (x := y) (hS y.w), ?_⟩; go_big_quiet_on
            repeat (go_big_quiet_step (fail))
            refine wpQuiet_nil ?_; intro _ hw'; obtain ⟨y, hw''⟩ := hw'; subst hw''; have hby := y.b
            have HC2 : Hid (∀ j (hj : j < d.es.length), j < k + 1 + 1 → entOk d.top d.es[j] = true ∧ (0 < j → (d.es[j - 1]'(by omega)).id < d.es[j].id)) := fun j hj hjk => by
              by_cases ej : j = k + 1
              · subst ej; exact ⟨HEK.out, fun h => by have h3 := HPE.out; have h4 := HE.out; simp only [Nat.add_sub_cancel]; rw [h3, h4]; omega⟩
              · exact HC.out j hj (by omega)
            have qq1 := qe1 y
            have HX2 := hide (HX.out.new hby)
            have HB2 := hide (bchain HB.out hby)
            have hlE2 := Nat.lt_of_lt_of_le hlE hby.size
            clear qe0 qe1 qx1 qx2 qp0 hne
            by_cases h4 : e.state = 4
            · have H4 : Hid (lv1 d.es[k + 1] = 0) := by show lv1 _ = 0; unfold lv1; rw [HE.out, if_pos h4]
              have h4' : (e.state != 4) = false := by simp [h4]
              clear h4
              go_wp2_with fail
              go_roundw
              case rel => exact ⟨k + 1 + 1, by go_num, by omega, int_eq (by have := HLV.out; have := H4.out; omega), HC2, HX2, HB2⟩
              case measure => simp [intOf]; omega
            · have H4 : Hid (lv1 d.es[k + 1] = 1) := by show lv1 _ = 1; unfold lv1; rw [HE.out, if_neg h4]
              have h4' : (e.state != 4) = true := by simpa using h4
              clear h4
              go_wp2_with fail
              go_roundw
              case rel => exact ⟨k + 1 + 1, by go_num, by omega, int_eq (by have := HLV.out; have := H4.out; omega), HC2, HX2, HB2⟩
              case measure => simp [intOf]; omega
      · obtain rfl : k = d.es.length := by omega
        rw [List.take_length]
        have x0 := HX.out.cell (j := 0) rfl
        have x2 := HX.out.cell (j := 2) rfl
        have hlX := HX.out.lt
        have HOK : Hid (A = decide (liveL d.es ≤ d.lim)) := by
          show A = _
          rw [← HA.out]
          by_cases hl : liveL d.es ≤ d.lim
          · rw [decide_eq_true hl]; exact okRg_iff.2 ⟨HLIM.out, HTOP.out, by omega, fun j hj => HC.out j hj hj, hl⟩
          · rw [decide_eq_false hl]; exact ok_false fun c => hl c.2.2.2.2
        go_wp2_with fail
        go_ret
        exact ⟨by rw [HOK.out]; rfl, HB.out⟩
  · have HF : Hid (A = false) := by show A = false; rw [← HA.out]; exact ok_false fun c => c.2.1.elim (fun h => by simp [h] at ht1) (fun h => by rw [ht2] at h; cases h)
    rw [ht2] at hid
    go_enter Tryz.func48, Tryz.ntmps48; go_wp2_with fail; refine (specIn _ _ _ _).mono ?_; rw [hlim]; rintro e w1 ⟨rfl, hsame⟩; obtain rfl := hsame.symm; clear hsame; go_wp2_with fail
    refine (hid _).mono ?_; rintro e w2 ⟨rfl, hsame⟩; obtain rfl := hsame.symm; clear hsame
    go_wp2_with fail
    go_ret
    exact ⟨by rw [HF.out]; rfl, (by repeat' (first | (with_reducible exact Below.refl _ _) | (with_reducible refine Below.drew ?_) | (with_reducible refine bo_drewN _ ?_) | (with_reducible refine bo_alloc ?_ _) | (refine bchain ?_ (by with_reducible assumption)) | (with_reducible refine Below.setCell ?_ ?_ _) | go_size))⟩
  · rw [ht2] at hid
    go_enter Tryz.func48, Tryz.ntmps48; go_wp2_with fail; refine (specIn _ _ _ _).mono ?_; rw [hlim]; rintro e w1 ⟨rfl, hsame⟩; obtain rfl := hsame.symm; clear hsame; go_wp2_with fail
    refine (hid _).mono ?_; rintro e w2 ⟨rfl, hsame⟩; obtain rfl := hsame.symm; clear hsame
    by_cases h60 : (60 : Int) < d.es.length
    · have HF : Hid (A = false) := by show A = false; rw [← HA.out]; exact ok_false fun c => by have := c.2.2.1; omega
      go_wp2_with fail
      go_ret
      exact ⟨by rw [HF.out]; rfl, (by repeat' (first | (with_reducible exact Below.refl _ _) | (with_reducible refine Below.drew ?_) | (with_reducible refine bo_drewN _ ?_) | (with_reducible refine bo_alloc ?_ _) | (refine bchain ?_ (by with_reducible assumption)) | (with_reducible refine Below.setCell ?_ ?_ _) | go_size))⟩
    have HTOP : Hid (d.top = 0 ∨ idB d.top = true) := .inr ht2
    have HLIM := hide (inB_true hlim)
    clear hid
    have hbx : Below w.heap.size w (w.alloc (.cells #[.int .i64 d.lim, .int .i64 d.top, .slice ad d.es.length cap] 37)) := (Below.refl _ _).alloc (Nat.le_refl _) _
    have HX : Hid (RowIs (w.alloc (.cells #[.int .i64 d.lim, .int .i64 d.top, .slice ad d.es.length cap] 37)) w.heap.size 37 [.int .i64 d.lim, .int .i64 d.top, .slice ad d.es.length cap]) := rowIs_new w 37 [.int .i64 d.lim, .int .i64 d.top, .slice ad d.es.length cap]
    go_wp2_with fail
    go_loopw [3, 4] (fun n i wr => ∃ (k : Nat), i = .int .i64 k ∧ k ≤ d.es.length ∧ n = .int .i64 (liveL (d.es.take k)) ∧ Hid (∀ j (hj : j < d.es.length), j < k → entOk d.top d.es[j] = true ∧ (0 < j → (d.es[j - 1]'(by omega)).id < d.es[j].id)) ∧ Hid (RowIs wr w.heap.size 37 [.int .i64 d.lim, .int .i64 d.top, .slice ad d.es.length cap]) ∧ Hid (Below w.heap.size w wr)) (fun _ i _ => d.es.length - (intOf i).toNat)
    case atStart => exact ⟨0, rfl, Nat.zero_le _, rfl, fun j _ hj => absurd hj (Nat.not_lt_zero _), HX, hbx⟩
    case round =>
      clear HX hbx
      obtain ⟨k, rfl, hk, rfl, HC, HX, HB⟩ := hrel
      by_cases hlt : k < d.es.length
      · obtain ⟨b, o, cs, rfl, hbw, rfl, hc⟩ := (HR.out.new HB.out).at k hlt
        have c0 : wr.cell? ⟨b, o + k * 2, none⟩ = some (.int .i64 d.es[k].id) := hc 0 _ rfl
        have c1 : wr.cell? ⟨b, o + k * 2 + 1, none⟩ = some (.int .i64 d.es[k].state) := hc 1 _ rfl
        clear hc
        have x2 := HX.out.cell (j := 2) rfl
        have hlX := HX.out.lt
        have hlk := sum_take lv1 d.es k hlt
        have hll := live_le (d.es.take k)
        have hln := live_nn (d.es.take k)
        have hlk2 : (d.es.take k).length ≤ k := by rw [List.length_take]; omega
        have HLV : Hid (liveL (d.es.take (k + 1)) = liveL (d.es.take k) + lv1 d.es[k]) := hlk
        generalize liveL (d.es.take k) = q at *
        obtain ⟨e, he⟩ : ∃ e, d.es[k] = e := ⟨_, rfl⟩
        rw [he] at c0 c1
        have HE := hide he
        clear he hlk
        go_upto_region 8 with fail
        have hbe : Below wr.heap.size wr (wr.alloc (.cells #[.int .i64 e.id, .int .i64 e.state] 103)) := (Below.refl _ _).alloc (Nat.le_refl _) _
        have hre : RowIs (wr.alloc (.cells #[.int .i64 e.id, .int .i64 e.state] 103)) wr.heap.size 103 [.int .i64 e.id, .int .i64 e.state] := rowIs_new wr 103 [.int .i64 e.id, .int .i64 e.state]
        generalize wr.alloc (.cells #[.int .i64 e.id, .int .i64 e.state] 103) = X at *
        replace HX := hide (HX.out.new hbe)
        replace HB := hide (bchain HB.out hbe)
        have hre0 := hre.cell (j := 0) rfl
        have hre1 := hre.cell (j := 1) rfl
        have hlE := hre.lt
        have hx1 := HX.out.cell (j := 1) rfl
        have hx2 := HX.out.cell (j := 2) rfl
        have hlX2 := HX.out.lt
        generalize wr.heap.size = ge at *
        have qe0 : ∀ y : Later X, y.w.cell? ⟨ge, 0, none⟩ = some (.int .i64 e.id) := fun y => (y.b.cell (p := ⟨ge, 0, none⟩) hlE).trans hre0
        have qe1 : ∀ y : Later X, y.w.cell? ⟨ge, 1, none⟩ = some (.int .i64 e.state) := fun y => (y.b.cell (p := ⟨ge, 1, none⟩) hlE).trans hre1
        have qx1 : ∀ y : Later X, y.w.cell? ⟨w.heap.size, 1, none⟩ = some (.int .i64 d.top) := fun y => (y.b.cell (p := ⟨w.heap.size, 1, none⟩) hlX2).trans hx1
        have qx2 : ∀ y : Later X, y.w.cell? ⟨w.heap.size, 2, none⟩ = some (.slice (some ⟨b, o, none⟩) d.es.length cap) := fun y => (y.b.cell (p := ⟨w.heap.size, 2, none⟩) hlX2).trans hx2
        clear c0 c1 x2 hlX hbe hre hre0 hre1 hx1 hx2
        have hI := fun w => specId e.id w
        have hS := fun w => specIn e.state 1 4 w
        cases hi : idB e.id
        · rw [hi] at hI
          have HF : Hid (A = false) := by
            show A = false
            rw [← HA.out]
            refine ok_false fun c => ?_
            have hck := c.2.2.2.1 k hlt
            rw [HE.out] at hck
            have hek := entOk_iff.1 hck.1
            rw [hi] at hek; simp at hek
          have hne : Nonempty (Later X) := ⟨⟨X, Below.refl _ _⟩⟩; refine region_later (by kernel_rfl) (by kernel_rfl) ?_
          repeat (go_big_quiet_step (fail))
          go_big_quiet_want; go_big_quiet_op; refine ⟨.bool false, fun y => later_same (x := y) (hI y.w), ?_⟩; go_big_quiet_on
          repeat (go_big_quiet_step (fail))
          refine wpQuiet_nil ?_; intro _ hw'; obtain ⟨y, hw''⟩ := hw'; subst hw''; have hby := y.b
          go_wp2_with fail
          go_ret
          exact ⟨by rw [HF.out]; rfl, bchain HB.out hby⟩
        rw [hi] at hI
        by_cases htp : d.top < e.id
        · have HF : Hid (A = false) := by
            show A = false
            rw [← HA.out]
            refine ok_false fun c => ?_
            have hck := c.2.2.2.1 k hlt
            rw [HE.out] at hck
            have hek := entOk_iff.1 hck.1
            omega
          have hne : Nonempty (Later X) := ⟨⟨X, Below.refl _ _⟩⟩; refine region_later (by kernel_rfl) (by kernel_rfl) ?_
          repeat (go_big_quiet_step (fail))
          go_big_quiet_want; go_big_quiet_op; refine ⟨.bool true, fun y => later_same (x := y) (hI y.w), ?_⟩; go_big_quiet_on
          repeat (go_big_quiet_step (fail))
          refine wpQuiet_nil ?_; intro _ hw'; obtain ⟨y, hw''⟩ := hw'; subst hw''; have hby := y.b
          go_wp2_with fail
          go_ret
          exact ⟨by rw [HF.out]; rfl, bchain HB.out hby⟩
        cases hs : inB e.state 1 4
        · rw [hs] at hS
          have HF : Hid (A = false) := by
            show A = false
            rw [← HA.out]
            refine ok_false fun c => ?_
            have hck := c.2.2.2.1 k hlt
            rw [HE.out] at hck
            have hek := entOk_iff.1 hck.1
            exact inB_false hs hek.2.2
          have hne : Nonempty (Later X) := ⟨⟨X, Below.refl _ _⟩⟩; refine region_later (by kernel_rfl) (by kernel_rfl) ?_
          repeat (go_big_quiet_step (fail))
          go_big_quiet_want; go_big_quiet_op; refine ⟨.bool true, fun y => later_same (x := y) (hI y.w), ?_⟩; go_big_quiet_on
          repeat (go_big_quiet_step (fail))
          go_big_quiet_want; go_big_quiet_op; refine ⟨.bool false, fun y => later_same (x := y) (hS y.w), ?_⟩; go_big_quiet_on
          repeat (go_big_quiet_step (fail))
          refine wpQuiet_nil ?_; intro _ hw'; obtain ⟨y, hw''⟩ := hw'; subst hw''; have hby := y.b
          go_wp2_with fail
          go_ret
          exact ⟨by rw [HF.out]; rfl, bchain HB.out hby⟩
        rw [hs] at hS
        have HEK : Hid (entOk d.top d.es[k] = true) := by show _ = true; rw [HE.out]; exact entOk_iff.2 ⟨hi, by omega, inB_true hs⟩
        cases k with
        | zero =>
          have hk0 : decide ((0 : Int) < ((0 : Nat) : Int)) = false := rfl
          have hne : Nonempty (Later X) := ⟨⟨X, Below.refl _ _⟩⟩; refine region_later (by kernel_rfl) (by kernel_rfl) ?_
          repeat (go_big_quiet_step (fail))
          go_big_quiet_want; go_big_quiet_op; refine ⟨.bool true, fun y => later_same (x := y) (hI y.w), ?_⟩; go_big_quiet_on
          repeat (go_big_quiet_step (fail))
          go_big_quiet_want; go_big_quiet_op; refine ⟨.bool true, fun y => later_same (x := y) (hS y.w), ?_⟩; go_big_quiet_on
          repeat (go_big_quiet_step (fail))
          refine wpQuiet_nil ?_; intro _ hw'; obtain ⟨y, hw''⟩ := hw'; subst hw''; have hby := y.b
          have HC2 : Hid (∀ j (hj : j < d.es.length), j < 0 + 1 → entOk d.top d.es[j] = true ∧ (0 < j → (d.es[j - 1]'(by omega)).id < d.es[j].id)) := fun j hj hjk => by
            by_cases ej : j = 0
            · subst ej; exact ⟨HEK.out, fun h => absurd h (Nat.lt_irrefl _)⟩
            · exact HC.out j hj (by omega)
          have qq1 := qe1 y
          have HX2 := hide (HX.out.new hby)
          have HB2 := hide (bchain HB.out hby)
          have hlE2 := Nat.lt_of_lt_of_le hlE hby.size
          clear qe0 qe1 qx1 qx2 hne
          by_cases h4 : e.state = 4
          · have H4 : Hid (lv1 d.es[0] = 0) := by show lv1 _ = 0; unfold lv1; rw [HE.out, if_pos h4]
            have h4' : (e.state != 4) = false := by simp [h4]
            clear h4
            go_wp2_with fail
            go_roundw
            case rel => exact ⟨0 + 1, by go_num, by omega, int_eq (by have := HLV.out; have := H4.out; omega), HC2, HX2, HB2⟩
            case measure => simp [intOf]; omega
          · have H4 : Hid (lv1 d.es[0] = 1) := by show lv1 _ = 1; unfold lv1; rw [HE.out, if_neg h4]
            have h4' : (e.state != 4) = true := by simpa using h4
            clear h4
            go_wp2_with fail
            go_roundw
            case rel => exact ⟨0 + 1, by go_num, by omega, int_eq (by have := HLV.out; have := H4.out; omega), HC2, HX2, HB2⟩
            case measure => simp [intOf]; omega
        | succ k =>
          have hkp : decide ((0 : Int) < ((k + 1 : Nat) : Int)) = true := decide_eq_true (by omega)
          obtain ⟨b', o', cs', hbo, hbw', rfl, hc'⟩ := (HR.out.new HB.out).at k (by omega)
          simp only [Option.some.injEq, Addr.mk.injEq] at hbo
          obtain ⟨rfl, rfl, -⟩ := hbo
          have hp0 : X.cell? ⟨b, o + k * 2, none⟩ = some (.int .i64 (d.es[k]'(by omega)).id) := hc' 0 _ rfl
          clear hc'
          obtain ⟨pe, hpe⟩ : ∃ pe, (d.es[k]'(by omega)).id = pe := ⟨_, rfl⟩
          rw [hpe] at hp0
          have HPE := hide hpe
          clear hpe
          have qp0 : ∀ y : Later X, y.w.cell? ⟨b, o + k * 2, none⟩ = some (.int .i64 pe) := fun y => (y.b.cell (p := ⟨b, o + k * 2, none⟩) hbw').trans hp0
          clear hp0
          by_cases hpr : e.id ≤ pe
          · have HF : Hid (A = false) := by
              show A = false
              rw [← HA.out]
              refine ok_false fun c => ?_
              have hck := c.2.2.2.1 (k + 1) hlt
              rw [HE.out] at hck
              have hek := entOk_iff.1 hck.1
              have h3 := hck.2 (by omega)
              simp only [Nat.add_sub_cancel] at h3
              rw [HPE.out] at h3
              omega
            have hne : Nonempty (Later X) := ⟨⟨X, Below.refl _ _⟩⟩; refine region_later (by kernel_rfl) (by kernel_rfl) ?_
            repeat (go_big_quiet_step (fail))
            go_big_quiet_want; go_big_quiet_op; refine ⟨.bool true, fun y => later_same (x := y) (hI y.w), ?_⟩; go_big_quiet_on
            repeat (go_big_quiet_step (fail))
            go_big_quiet_want; go_big_quiet_op; refine ⟨.bool true, fun y => later_same (x := y) (hS y.w), ?_⟩; go_big_quiet_on
            repeat (go_big_quiet_step (fail))
            refine wpQuiet_nil ?_; intro _ hw'; obtain ⟨y, hw''⟩ := hw'; subst hw''; have hby := y.b
            go_wp2_with fail
            go_ret
            exact ⟨by rw [HF.out]; rfl, bchain HB.out hby⟩
          · have hne : Nonempty (Later X) := ⟨⟨X, Below.refl _ _⟩⟩; refine region_later (by kernel_rfl) (by kernel_rfl) ?_
            repeat (go_big_quiet_step (fail))
            go_big_quiet_want; go_big_quiet_op; refine ⟨.bool true, fun y => later_same (x := y) (hI y.w), ?_⟩; go_big_quiet_on
            repeat (go_big_quiet_step (fail))
            go_big_quiet_want; go_big_quiet_op; refine ⟨.bool true, fun y => later_same (x := y) (hS y.w), ?_⟩; go_big_quiet_on
            repeat (go_big_quiet_step (fail))
            refine wpQuiet_nil ?_; intro _ hw'; obtain ⟨y, hw''⟩ := hw'; subst hw''; have hby := y.b
            have HC2 : Hid (∀ j (hj : j < d.es.length), j < k + 1 + 1 → entOk d.top d.es[j] = true ∧ (0 < j → (d.es[j - 1]'(by omega)).id < d.es[j].id)) := fun j hj hjk => by
              by_cases ej : j = k + 1
              · subst ej; exact ⟨HEK.out, fun h => by have h3 := HPE.out; have h4 := HE.out; simp only [Nat.add_sub_cancel]; rw [h3, h4]; omega⟩
              · exact HC.out j hj (by omega)
            have qq1 := qe1 y
            have HX2 := hide (HX.out.new hby)
            have HB2 := hide (bchain HB.out hby)
            have hlE2 := Nat.lt_of_lt_of_le hlE hby.size
            clear qe0 qe1 qx1 qx2 qp0 hne
            by_cases h4 : e.state = 4
            · have H4 : Hid (lv1 d.es[k + 1] = 0) := by show lv1 _ = 0; unfold lv1; rw [HE.out, if_pos h4]
              have h4' : (e.state != 4) = false := by simp [h4]
              clear h4
              go_wp2_with fail
              go_roundw
              case rel => exact ⟨k + 1 + 1, by go_num, by omega, int_eq (by have := HLV.out; have := H4.out; omega), HC2, HX2, HB2⟩
              case measure => simp [intOf]; omega
            · have H4 : Hid (lv1 d.es[k + 1] = 1) := by show lv1 _ = 1; unfold lv1; rw [HE.out, if_neg h4]
              have h4' : (e.state != 4) = true := by simpa using h4
              clear h4
              go_wp2_with fail
              go_roundw
              case rel => exact ⟨k + 1 + 1, by go_num, by omega, int_eq (by have := HLV.out; have := H4.out; omega), HC2, HX2, HB2⟩
              case measure => simp [intOf]; omega
      · obtain rfl : k = d.es.length := by omega
        rw [List.take_length]
        have x0 := HX.out.cell (j := 0) rfl
        have x2 := HX.out.cell (j := 2) rfl
        have hlX := HX.out.lt
        have HOK : Hid (A = decide (liveL d.es ≤ d.lim)) := by
          show A = _
          rw [← HA.out]
          by_cases hl : liveL d.es ≤ d.lim
          · rw [decide_eq_true hl]; exact okRg_iff.2 ⟨HLIM.out, HTOP.out, by omega, fun j hj => HC.out j hj hj, hl⟩
          · rw [decide_eq_false hl]; exact ok_false fun c => hl c.2.2.2.2
        go_wp2_with fail
        go_ret
        exact ⟨by rw [HOK.out]; rfl, HB.out⟩
end Go.Proofs.YtllaeakeaabiaaaGreat
/- Chapter 16's model: NewTunnel, In, Out, Back, Torn, Over. -/
namespace Go.Proofs.YtllaeakeaabiaaaGreat
open Go.RowKit
set_option maxRecDepth 100000
set_option linter.unusedSimpArgs false
set_option linter.unusedVariables false
set_option maxHeartbeats 2000000 in
theorem specNewTunnel (r : Int) (w : World) : Calls Tryz.prog 107 #[.int .i64 r] w fun x w' => x = .returned (.tuple #[tuv (newTu r).1, .bool (newTu r).2]) ∧ Below w.heap.size w w' := by
  cases hk : newB r
  · have hv : newTu r = (zTu, false) := by unfold newTu; rw [if_neg (by rw [hk]; decide)]
    rw [hv]
    dsimp only [tuv, zTu, zPp]
    have hcl := specNew r (w.alloc (.cells #[.int .i64 0, .string ⟨#[]⟩, .bool false, .bool false, .int .i64 0, .string ⟨#[]⟩, .bool false, .bool false, .int .i64 0, .int .i64 0] 87))
    rw [hk] at hcl
    have RY := rowIs_new w 87 [.int .i64 0, .string ⟨#[]⟩, .bool false, .bool false, .int .i64 0, .string ⟨#[]⟩, .bool false, .bool false, .int .i64 0, .int .i64 0]
    have HB : Below w.heap.size w (w.alloc (.cells #[.int .i64 0, .string ⟨#[]⟩, .bool false, .bool false, .int .i64 0, .string ⟨#[]⟩, .bool false, .bool false, .int .i64 0, .int .i64 0] 87)) := (Below.refl _ _).alloc (Nat.le_refl _) _
    go_enter Tryz.func107, Tryz.ntmps107
    go_wp2_with fail
    refine hcl.mono ?_; clear hcl; rintro x w1 ⟨rfl, hb⟩
    replace RY := RY.new hb
    replace HB := bchain HB hb
    clear hb
    go_upto_region 2 with fail
    have hly := RY.lt
    obtain ⟨gRP, hgRP⟩ : ∃ g, g = w1.heap.size := ⟨_, rfl⟩
    have hltRYRP : w.heap.size < gRP := by have := RY.lt; omega
    have hleRP : w.heap.size ≤ gRP := by have := HB.size; omega
    have hbV : Below w1.heap.size w1 (w1.alloc (.cells #[.int .i64 0, .string ⟨#[]⟩, .bool false, .bool false] 85)) := (Below.refl _ _).alloc (Nat.le_refl _) _
    have RP : RowIs (w1.alloc (.cells #[.int .i64 0, .string ⟨#[]⟩, .bool false, .bool false] 85)) w1.heap.size 85 [.int .i64 0, .string ⟨#[]⟩, .bool false, .bool false] := rowIs_new w1 _ _
    replace RY := RY.new hbV
    replace HB := bchain HB hbV
    clear hbV
    rw [← hgRP] at RP
    try rw [← hgRP]
    generalize hV : w1.alloc (.cells #[.int .i64 0, .string ⟨#[]⟩, .bool false, .bool false] 85) = V2 at *
    clear hV hgRP
    go_wp2_with (refine wpList_store_row (by rfl) 87 _ _ (by rfl) w.heap.size [.int .i64 0, .string ⟨#[]⟩, .bool false, .bool false, .int .i64 0, .string ⟨#[]⟩, .bool false, .bool false, .int .i64 0, .int .i64 0] (by rfl) (by rfl) 87 [.int .i64 0, .string ⟨#[]⟩, .bool false, .bool false, .int .i64 0, .string ⟨#[]⟩, .bool false, .bool false, .int .i64 0, .int .i64 0] RY (by kernel_rfl) rfl (by intro u hu; simp at hu; rcases hu with rfl | rfl | rfl | rfl | rfl | rfl | rfl | rfl | rfl | rfl <;> rfl) ?_)
    have NRY : RowIs (V2.setRow w.heap.size #[.int .i64 0, .string ⟨#[]⟩, .bool false, .bool false, .int .i64 0, .string ⟨#[]⟩, .bool false, .bool false, .int .i64 0, .int .i64 0]) w.heap.size 87 [.int .i64 0, .string ⟨#[]⟩, .bool false, .bool false, .int .i64 0, .string ⟨#[]⟩, .bool false, .bool false, .int .i64 0, .int .i64 0] := rowIs_setRow (cs' := [.int .i64 0, .string ⟨#[]⟩, .bool false, .bool false, .int .i64 0, .string ⟨#[]⟩, .bool false, .bool false, .int .i64 0, .int .i64 0]) RY
    have NRP := RP.kept (setRow_other V2 w.heap.size #[.int .i64 0, .string ⟨#[]⟩, .bool false, .bool false, .int .i64 0, .string ⟨#[]⟩, .bool false, .bool false, .int .i64 0, .int .i64 0] gRP (by omega))
    have NHB := below_setRow HB (show w.heap.size ≤ w.heap.size by omega) #[.int .i64 0, .string ⟨#[]⟩, .bool false, .bool false, .int .i64 0, .string ⟨#[]⟩, .bool false, .bool false, .int .i64 0, .int .i64 0]
    generalize hV : V2.setRow w.heap.size #[.int .i64 0, .string ⟨#[]⟩, .bool false, .bool false, .int .i64 0, .string ⟨#[]⟩, .bool false, .bool false, .int .i64 0, .int .i64 0] = V3 at *
    clear hV
    clear RY
    have RY := NRY
    clear NRY
    clear RP
    have RP := NRP
    clear NRP
    clear HB
    have HB := NHB
    clear NHB
    have y0 := RowIs.cell (j := 0) RY rfl
    have y1 := RowIs.cell (j := 1) RY rfl
    have y2 := RowIs.cell (j := 2) RY rfl
    have y3 := RowIs.cell (j := 3) RY rfl
    have y4 := RowIs.cell (j := 4) RY rfl
    have y5 := RowIs.cell (j := 5) RY rfl
    have y6 := RowIs.cell (j := 6) RY rfl
    have y7 := RowIs.cell (j := 7) RY rfl
    have y8 := RowIs.cell (j := 8) RY rfl
    have y9 := RowIs.cell (j := 9) RY rfl
    have yf := fun j => RowIs.frozen RY j
    have yl := RY.lt
    refine bodyPost_ret (v := .tuple #[.agg #[.int .i64 0, .string ⟨#[]⟩, .bool false, .bool false, .int .i64 0, .string ⟨#[]⟩, .bool false, .bool false, .int .i64 0, .int .i64 0], .bool false]) (by simp [results, Tryz.results107, go_sem, *]) rfl ?_
    exact ⟨rfl, HB⟩
  have hv : newTu r = (⟨⟨r, ⟨#[]⟩, false, false⟩, ⟨r, ⟨#[]⟩, false, false⟩, 0, 0⟩, true) := by unfold newTu; rw [if_pos hk]
  rw [hv]
  dsimp only [tuv]
  have hcl := specNew r (w.alloc (.cells #[.int .i64 0, .string ⟨#[]⟩, .bool false, .bool false, .int .i64 0, .string ⟨#[]⟩, .bool false, .bool false, .int .i64 0, .int .i64 0] 87))
  rw [hk] at hcl
  have RY := rowIs_new w 87 [.int .i64 0, .string ⟨#[]⟩, .bool false, .bool false, .int .i64 0, .string ⟨#[]⟩, .bool false, .bool false, .int .i64 0, .int .i64 0]
  have HB : Below w.heap.size w (w.alloc (.cells #[.int .i64 0, .string ⟨#[]⟩, .bool false, .bool false, .int .i64 0, .string ⟨#[]⟩, .bool false, .bool false, .int .i64 0, .int .i64 0] 87)) := (Below.refl _ _).alloc (Nat.le_refl _) _
  go_enter Tryz.func107, Tryz.ntmps107
  go_wp2_with fail
  refine hcl.mono ?_; clear hcl; rintro x w1 ⟨rfl, hb⟩
  replace RY := RY.new hb
  replace HB := bchain HB hb
  clear hb
  go_upto_region 2 with fail
  have hly := RY.lt
  obtain ⟨gRP, hgRP⟩ : ∃ g, g = w1.heap.size := ⟨_, rfl⟩
  have hltRYRP : w.heap.size < gRP := by have := RY.lt; omega
  have hleRP : w.heap.size ≤ gRP := by have := HB.size; omega
  have hbV : Below w1.heap.size w1 (w1.alloc (.cells #[.int .i64 r, .string ⟨#[]⟩, .bool false, .bool false] 85)) := (Below.refl _ _).alloc (Nat.le_refl _) _
  have RP : RowIs (w1.alloc (.cells #[.int .i64 r, .string ⟨#[]⟩, .bool false, .bool false] 85)) w1.heap.size 85 [.int .i64 r, .string ⟨#[]⟩, .bool false, .bool false] := rowIs_new w1 _ _
  replace RY := RY.new hbV
  replace HB := bchain HB hbV
  clear hbV
  rw [← hgRP] at RP
  try rw [← hgRP]
  generalize hV : w1.alloc (.cells #[.int .i64 r, .string ⟨#[]⟩, .bool false, .bool false] 85) = V2 at *
  clear hV hgRP
  have p0 := RowIs.cell (j := 0) RP rfl
  have p1 := RowIs.cell (j := 1) RP rfl
  have p2 := RowIs.cell (j := 2) RP rfl
  have p3 := RowIs.cell (j := 3) RP rfl
  have pf := fun j => RowIs.frozen RP j
  have pl := RP.lt
  go_wp2_with (refine wpList_store_row (by rfl) 87 _ _ (by rfl) w.heap.size [.int .i64 r, .string ⟨#[]⟩, .bool false, .bool false, .int .i64 r, .string ⟨#[]⟩, .bool false, .bool false, .int .i64 0, .int .i64 0] (by rfl) (by rfl) 87 [.int .i64 0, .string ⟨#[]⟩, .bool false, .bool false, .int .i64 0, .string ⟨#[]⟩, .bool false, .bool false, .int .i64 0, .int .i64 0] RY (by kernel_rfl) rfl (by intro u hu; simp at hu; rcases hu with rfl | rfl | rfl | rfl | rfl | rfl | rfl | rfl | rfl | rfl <;> rfl) ?_)
  clear p0 p1 p2 p3 pf pl
  have NRY : RowIs (V2.setRow w.heap.size #[.int .i64 r, .string ⟨#[]⟩, .bool false, .bool false, .int .i64 r, .string ⟨#[]⟩, .bool false, .bool false, .int .i64 0, .int .i64 0]) w.heap.size 87 [.int .i64 r, .string ⟨#[]⟩, .bool false, .bool false, .int .i64 r, .string ⟨#[]⟩, .bool false, .bool false, .int .i64 0, .int .i64 0] := rowIs_setRow (cs' := [.int .i64 r, .string ⟨#[]⟩, .bool false, .bool false, .int .i64 r, .string ⟨#[]⟩, .bool false, .bool false, .int .i64 0, .int .i64 0]) RY
  have NRP := RP.kept (setRow_other V2 w.heap.size #[.int .i64 r, .string ⟨#[]⟩, .bool false, .bool false, .int .i64 r, .string ⟨#[]⟩, .bool false, .bool false, .int .i64 0, .int .i64 0] gRP (by omega))
  have NHB := below_setRow HB (show w.heap.size ≤ w.heap.size by omega) #[.int .i64 r, .string ⟨#[]⟩, .bool false, .bool false, .int .i64 r, .string ⟨#[]⟩, .bool false, .bool false, .int .i64 0, .int .i64 0]
  generalize hV : V2.setRow w.heap.size #[.int .i64 r, .string ⟨#[]⟩, .bool false, .bool false, .int .i64 r, .string ⟨#[]⟩, .bool false, .bool false, .int .i64 0, .int .i64 0] = V3 at *
  clear hV
  clear RY
  have RY := NRY
  clear NRY
  clear RP
  have RP := NRP
  clear NRP
  clear HB
  have HB := NHB
  clear NHB
  have y0 := RowIs.cell (j := 0) RY rfl
  have y1 := RowIs.cell (j := 1) RY rfl
  have y2 := RowIs.cell (j := 2) RY rfl
  have y3 := RowIs.cell (j := 3) RY rfl
  have y4 := RowIs.cell (j := 4) RY rfl
  have y5 := RowIs.cell (j := 5) RY rfl
  have y6 := RowIs.cell (j := 6) RY rfl
  have y7 := RowIs.cell (j := 7) RY rfl
  have y8 := RowIs.cell (j := 8) RY rfl
  have y9 := RowIs.cell (j := 9) RY rfl
  have yf := fun j => RowIs.frozen RY j
  have yl := RY.lt
  refine bodyPost_ret (v := .tuple #[.agg #[.int .i64 r, .string ⟨#[]⟩, .bool false, .bool false, .int .i64 r, .string ⟨#[]⟩, .bool false, .bool false, .int .i64 0, .int .i64 0], .bool true]) (by simp [results, Tryz.results107, go_sem, *]) rfl ?_
  exact ⟨rfl, HB⟩
end Go.Proofs.YtllaeakeaabiaaaGreat
/- The model's Table: copied, shrunk, noted in. -/
namespace Go.Proofs.YtllaeakeaabiaaaGreat
open Go.RowKit
set_option maxRecDepth 100000
set_option linter.unusedSimpArgs false
set_option linter.unusedVariables false

theorem owns_none (w : World) (e : TypeId) : (w.alloc (.cells #[] e)).ownsRow w.heap.size e 2 (.slice (some ⟨w.heap.size, 0, none⟩) 0 0) 0 [] :=
  ⟨rfl, .inr ⟨w.heap.size, 0, #[], rfl, Nat.le_refl _, heap_alloc_last w _, Nat.le_refl _, Nat.zero_le _, rfl, rfl⟩⟩
theorem owns_two (w : World) (e : TypeId) (f : Fd) : (w.alloc (.cells #[.string f.n, .string f.v] e)).ownsRow w.heap.size e 2 (.slice (some ⟨w.heap.size, 0, none⟩) 1 1) 1 (fv [f]) :=
  ⟨rfl, .inr ⟨w.heap.size, 1, #[.string f.n, .string f.v], rfl, Nat.le_refl _, heap_alloc_last w _, Nat.le_refl _, by unfold maxLen; omega, rfl, rfl⟩⟩
theorem owns_short {w : World} {base : Nat} {e : TypeId} {size n k cap : Nat} {ad : Option Addr} {xs : List Value} (h : w.ownsRow base e size (.slice ad n cap) n xs) (hk : k ≤ n) (h0 : 0 < n) : w.ownsRow base e size (.slice ad k cap) k (xs.take (k * size)) := by
  have hm : k * size ≤ n * size := Nat.mul_le_mul_right _ hk
  refine ⟨by rw [List.length_take, h.1]; omega, ?_⟩
  rcases h.2 with ⟨_, rfl⟩ | ⟨g, cap', cur, e1, hb, hg, h1, h2, h3, h4⟩
  · omega
  · simp only [Value.slice.injEq] at e1
    obtain ⟨rfl, _, rfl⟩ := e1
    exact .inr ⟨g, cap, cur, rfl, hb, hg, by omega, h2, h3, by rw [← h4, List.take_take, Nat.min_eq_left hm]⟩

set_option maxHeartbeats 2000000 in
theorem copy1 (L : List Fd) (room : Int) (v : Value) (w : World) (hr0 : Reads w v L.length 2 (fv L)) (hL : L.length ≤ 1000) :
    Calls Tryz.prog 55 #[.agg #[.int .i64 room, v]] w fun x w' => ∃ v', x = .returned (.agg #[.int .i64 room, v']) ∧ w'.ownsRow w.heap.size 146 2 v' L.length (fv L) ∧ Below w.heap.size w w' := by
  have HR := hide hr0
  obtain ⟨hl, ad, cap, rfl, h1, h2, h3⟩ := hr0
  clear h3
  go_enter Tryz.func55, Tryz.ntmps55
  go_wp2_with fail
  generalize hV : (w.alloc (.cells #[.int .i64 room, .slice ad L.length cap] 40)).alloc (.cells #[.int .i64 0, .slice none 0 0] 40) = V
  have hbV : Below w.heap.size w V := by rw [← hV]; exact bo_alloc ((Below.refl _ _).alloc (Nat.le_refl _) _) _
  have hX : RowIs V w.heap.size 40 [.int .i64 room, .slice ad L.length cap] := by rw [← hV]; exact (rowIs_new w 40 [.int .i64 room, .slice ad L.length cap]).alloc _
  have hRR : RowIs V (w.heap.size + 1) 40 [.int .i64 0, .slice none 0 0] := by rw [← hV]; simpa using rowIs_new (w.alloc (.cells #[.int .i64 room, .slice ad L.length cap] 40)) 40 [.int .i64 0, .slice none 0 0]
  clear hV
  have HX := hide hX; have HRR := hide hRR
  have hlV := hRR.lt
  have x0 := hX.cell (j := 0) rfl
  have x1 := hX.cell (j := 1) rfl
  clear hX hRR
  have hS0 := And.intro x0 x1
  refine wp_region_held_drew (S := (fun u => u.cell? ⟨w.heap.size, 0, none⟩ = some (.int .i64 room) ∧ u.cell? ⟨w.heap.size, 1, none⟩ = some (.slice ad L.length cap))) (by kernel_rfl) hS0 (fun hS => ?_)
  refine wpAnyH_take (i := 0) (v := ?_) rfl (by kernel_rfl) (by kernel_rfl) (by kernel_rfl) (fun _ _ _ h => h) (Or.inl ⟨by rfl, ?_⟩) hS ?_; rotate_left; focus (intro w hw; clear hw; go_simp; try with_reducible rfl)
  refine wpAnyH_take (i := 3) (v := ?_) rfl (by kernel_rfl) (by kernel_rfl) (by kernel_rfl) (fun _ _ _ h => h) (Or.inl ⟨by rfl, ?_⟩) hS ?_; rotate_left; focus (intro w hw; clear hw; go_simp; try with_reducible rfl)
  refine wpAnyH_take (i := 1) (v := ?_) rfl (by kernel_rfl) (by kernel_rfl) (by kernel_rfl) (fun _ _ _ h => h) (Or.inl ⟨by rfl, ?_⟩) hS ?_; rotate_left; focus (intro w hw; obtain ⟨l0, l1⟩ := hw; go_simp; try with_reducible rfl)
  refine wpAnyH_take (i := 4) (v := ?_) rfl (by kernel_rfl) (by kernel_rfl) (by kernel_rfl) (fun _ _ _ h => h) (Or.inl ⟨by rfl, ?_⟩) hS ?_; rotate_left; focus (intro w hw; obtain ⟨l0, l1⟩ := hw; go_simp; try with_reducible rfl)
  refine wpAnyH_ready (rs := [2]) (by kernel_rfl) (by simp) ?_; refine AllReadyH.cons rfl (fun K hK => ?_) AllReadyH.nil; go_simp
  have hbA : Below V.heap.size V ((World.drew V).alloc (.cells #[] 146)) := bo_alloc (bo_drewN 1 (Below.refl _ _)) _
  have hoA := owns_none (World.drew V) 146
  have hrA := (HR.out.new hbV).new hbA
  refine hK.out _ _ ⟨(HX.out.new hbA).cell (j := 0) rfl, (HX.out.new hbA).cell (j := 1) rfl⟩ (fun hS => ?_)
  clear hK K
  refine wpAnyH_ready (rs := [5]) (by kernel_rfl) (by simp) ?_
  refine AllReadyH.cons rfl (fun K hK => ?_) AllReadyH.nil
  refine step_app _ (by rfl) _ _ 38 (by rfl) 146 (.agg #[.string ⟨#[]⟩, .string ⟨#[]⟩]) 2 32 Tryz.underlying38 (by kernel_rfl) rfl (by decide) V.heap.size _ 0 [] (by rfl) hoA _ L.length (fv L) (by rfl) hrA (fv_one _) (by omega) (by decide) hbA.size ?_
  intro ad5 cap5 w5 hown5 hgrow5 hat5
  have hb5 : Below V.heap.size V w5 := ⟨hgrow5.os.trans hbA.os, hgrow5.tape.trans hbA.tape, hgrow5.output.trans hbA.output, Nat.le_trans hbA.size hgrow5.size, fun k hk => (hgrow5.block k (Nat.lt_of_lt_of_le hk hbA.size) (fun e => absurd (show V.heap.size ≤ k from (hoA.lt k e.symm).1) (Nat.not_le_of_lt hk))).trans (hbA.block k hk)⟩
  refine hK.out _ _ ⟨(HX.out.new hb5).cell (j := 0) rfl, (HX.out.new hb5).cell (j := 1) rfl⟩ (fun hS => ?_)
  clear hK K hat5 hgrow5 hoA hrA hbA
  rw [Nat.zero_add] at hown5 ⊢
  rw [List.nil_append] at hown5
  have hRR5 := HRR.out.new hb5
  have r0 := hRR5.cell (j := 0) rfl
  have r1 := hRR5.cell (j := 1) rfl
  have r2 := hRR5.frozen 0
  have r3 := hRR5.frozen 1
  have HO := hide hown5
  clear hown5 hRR5
  refine wpAnyH_take (i := 6) (v := ?_) rfl (by kernel_rfl) (by kernel_rfl) (by kernel_rfl) (fun _ _ _ h => h) (Or.inl ⟨by rfl, ?_⟩) hS ?_; rotate_left; focus (intro w hw; clear hw; go_simp; try with_reducible rfl)
  refine wpAnyH_ready (rs := [7]) (by kernel_rfl) (by simp) ?_; refine AllReadyH.cons rfl (fun K hK => ?_) AllReadyH.nil; go_simp
  refine hK.out _ _ ⟨(World.cell?_setCell_other _ _ _ _ (by simp)).trans ((World.cell?_setCell_other _ _ _ _ (by simp)).trans ((HX.out.new hb5).cell (j := 0) rfl)), (World.cell?_setCell_other _ _ _ _ (by simp)).trans ((World.cell?_setCell_other _ _ _ _ (by simp)).trans ((HX.out.new hb5).cell (j := 1) rfl))⟩ (fun _ => ?_)
  clear hK K
  refine wpAnyH_done (by kernel_rfl) ?_ _
  go_wp2_with fail
  refine bodyPost_ret (v := (.agg #[.int .i64 room, .slice ad5 L.length cap5])) (by simp [results, Tryz.results55, go_sem, *]) rfl ?_
  have hov : ∀ q, (Value.slice ad5 L.length cap5).ownBlock = some q → w.heap.size + 2 ≤ q := fun q hq => by have := (HO.out.lt q hq).1; omega
  exact ⟨_, rfl, owns_base (owns_far (w.heap.size + 2) (owns_far (w.heap.size + 2) HO.out hov _ _ (show w.heap.size + 1 < w.heap.size + 2 by omega)) hov _ _ (show w.heap.size + 1 < w.heap.size + 2 by omega)) (fun q hq => by have := hov q hq; omega), ((hbV.trans (hb5.mono hbV.size)).setCell (show w.heap.size ≤ w.heap.size + 1 by omega) _).setCell (show w.heap.size ≤ w.heap.size + 1 by omega) _⟩

/-- A Table in block g whose rows are owned, in blocks apart from it. -/
structure TabAt (w : World) (g base : Nat) (room : Int) (L : List Fd) : Prop where
  ex : ∃ ad cap, RowIs w g 40 [.int .i64 room, .slice ad L.length cap] ∧ w.ownsRow base 146 2 (.slice ad L.length cap) L.length (fv L) ∧ (Value.slice ad L.length cap).ownBlock ≠ some g
/-- How many rows it tells that it has. -/
def lenOf (g : Nat) (w : World) : Nat := match w.cell? ⟨g, 1, none⟩ with | some (.slice _ n _) => n | _ => 0

set_option maxHeartbeats 2000000 in
theorem shrink1 (g base : Nat) (room : Int) (L : List Fd) (w : World) (h : TabAt w g base room L) (hok : ∀ f ∈ L, okF f = true) (hroom : 0 ≤ room) (hL : L.length ≤ 200) :
    Calls Tryz.prog 190 #[.pointer (some ⟨g, 0, none⟩)] w fun x w' => x = .returned (.tuple #[]) ∧ TabAt w' g base room (shr room L) ∧ Turn g (g + 1) w w' := by
  obtain ⟨R, hR⟩ : ∃ R, R = shr room L := ⟨_, rfl⟩
  rw [← hR]
  have H0 := hide h; have HOK := hide hok; have HRR := hide hR
  clear h hok hR
  go_enter Tryz.func190, Tryz.ntmps190
  go_wp2_with fail
  go_loopw [] (fun wr => ∃ L' : List Fd, TabAt wr g base room L' ∧ (∀ f ∈ L', okF f = true) ∧ R = shr room L' ∧ L'.length ≤ 200 ∧ Turn g (g + 1) w wr) (fun wr => lenOf g wr)
  case atStart => exact ⟨L, H0.out, HOK.out, HRR.out, hL, Turn.refl _ _ _⟩
  case round =>
    obtain ⟨L', hta, hok', hR', hL', ht⟩ := hrel
    obtain ⟨ad, cap, hrow, hown, hap⟩ := hta.ex
    have HAP := hide hap
    clear hap
    have hlen : lenOf g wr = L'.length := by have := hrow.cell (j := 1) rfl; simp [lenOf, this]
    have x0 := hrow.cell (j := 0) rfl
    have x1 := hrow.cell (j := 1) rfl
    have x2 := hrow.frozen 1
    have hgl := hrow.lt
    have hcc : L'.length ≤ cap ∧ cap ≤ maxLen := by
      obtain ⟨_, _, e, h1, h2⟩ := owns_form hown
      simp only [Value.slice.injEq] at e
      obtain ⟨_, _, rfl⟩ := e
      exact ⟨h1, h2⟩
    obtain ⟨hc1, hc2⟩ := hcc
    unfold maxLen at hc2
    have HROW := hide hrow; have HOWN := hide hown; have HO := hide hok'; have HT := hide ht; have HR' := hide hR'; have HLEN := hide hlen
    clear hrow hown hok' ht hR' hta hlen
    go_wp2_with fail
    have q0 : ∀ y : Later wr, y.w.cell? ⟨g, 0, none⟩ = some (.int .i64 room) := fun y => (y.b.cell (p := ⟨g, 0, none⟩) hgl).trans x0
    have q1 : ∀ y : Later wr, y.w.cell? ⟨g, 1, none⟩ = some (.slice ad L'.length cap) := fun y => (y.b.cell (p := ⟨g, 1, none⟩) hgl).trans x1
    have hcall : ∀ y : Later wr, Calls Tryz.prog 97 #[.slice ad L'.length cap] y.w (fun e w' => e = .returned (.int .i64 (sumW L')) ∧ Below y.w.heap.size y.w w') := fun y => specSum L' _ y.w ((reads_of_owns HOWN.out).new y.b) (fun f hf => fine_of (HO.out f hf)) (by omega)
    obtain ⟨sm, hsm⟩ : ∃ sm, sumW L' = sm := ⟨_, rfl⟩
    rw [hsm] at hcall
    have HSM := hide hsm
    have HCALL := hide hcall
    clear hsm hcall
    have hne : Nonempty (Later wr) := ⟨⟨wr, Below.refl _ _⟩⟩; refine region_later (by kernel_rfl) (by kernel_rfl) ?_
    repeat (go_big_quiet_step (fail))
    go_big_quiet_want; go_big_quiet_op; refine ⟨.int .i64 sm, fun y => later_calls (x := y) ((fun _ => HCALL.out y) y.w), ?_⟩; go_big_quiet_on
    repeat (go_big_quiet_step (fail))
    refine wpQuiet_nil ?_; intro _ hw'; obtain ⟨y, hw''⟩ := hw'; subst hw''; have hby := y.b
    clear q0 q1 hne HCALL
    obtain ⟨wy, hwy⟩ : ∃ wy, wy = y.w := ⟨_, rfl⟩
    rw [← hwy] at hby ⊢
    clear hwy y
    replace HROW := hide (HROW.out.new hby)
    replace HOWN := hide (owns_new HOWN.out hby)
    replace HT := hide (HT.out.trans (turn_new hby g (g + 1)))
    clear x0 x1 x2
    have x1 := HROW.out.cell (j := 1) rfl
    have x0 := HROW.out.cell (j := 0) rfl
    have x2 := HROW.out.frozen 1
    by_cases hgt0 : room < sm
    · have hgt : room < sumW L' := by rw [HSM.out]; exact hgt0
      have hpos : 0 < L'.length := by
        rcases Nat.eq_zero_or_pos L'.length with h0 | h0
        · have : L' = [] := List.length_eq_zero_iff.1 h0
          subst this
          simp [sumW] at hgt; omega
        · exact h0
      obtain ⟨n, hn⟩ : ∃ n, L'.length = n + 1 := ⟨L'.length - 1, by omega⟩
      have HD := hide (HR'.out.trans (shr_go hgt))
      have hdn : L'.dropLast.length = n := by rw [List.length_dropLast]; omega
      have hfv : (fv L').take (n * 2) = fv L'.dropLast := by
        rw [List.dropLast_eq_take, show L'.length - 1 = n by omega]
        conv => lhs; rw [← List.take_append_drop n L', fv_app, List.take_append_of_le_length (by rw [fv_len, List.length_take]; omega), List.take_of_length_le (by rw [fv_len, List.length_take]; omega)]
      have FIN : Hid (TabAt ((World.drew wy).setCell ⟨g, 1, none⟩ (.slice ad n cap)) g base room L'.dropLast ∧ Turn g (g + 1) w ((World.drew wy).setCell ⟨g, 1, none⟩ (.slice ad n cap)) ∧ lenOf g ((World.drew wy).setCell ⟨g, 1, none⟩ (.slice ad n cap)) = n) := by
        have h1 := (HROW.out.drewN 1).set 1 (.slice ad n cap)
        have h2 := owns_short HOWN.out (show n ≤ L'.length by omega) hpos
        rw [hfv] at h2
        have h2' : (World.drew wy).ownsRow base 146 2 (.slice ad n cap) n (fv L'.dropLast) := h2
        refine ⟨⟨⟨ad, cap, by rw [hdn]; exact h1, by rw [hdn]; exact owns_apart h2' ⟨g, 1, none⟩ _ (by have := HAP.out; cases ad <;> exact this), by have := HAP.out; cases ad <;> exact this⟩⟩, (HT.out.drewN 1).setCell (p := ⟨g, 1, none⟩) _ (.inl ⟨Nat.le_refl _, Nat.lt_succ_self _⟩), ?_⟩
        have := h1.cell (j := 1) rfl
        have h3 : ((World.drew wy).setCell ⟨g, 1, none⟩ (.slice ad n cap)).cell? ⟨g, 1, none⟩ = some (.slice ad n cap) := this
        simp [lenOf, h3]
      clear hfv
      go_wp2_with fail
      refine wp_region_any (by kernel_rfl) ?_; change wpAny _ _ _ _ _ _ _ (World.drew _)
      refine wpAny_take (i := 0) (v := ?_) rfl (by kernel_rfl) (by kernel_rfl) (by kernel_rfl) (fun _ _ _ h => h) (Or.inl ⟨by rfl, ?_⟩) ?_; rotate_left; focus (intro w; go_simp; try with_reducible rfl)
      refine wpAny_take (i := 1) (v := ?_) rfl (by kernel_rfl) (by kernel_rfl) (by kernel_rfl) (fun _ _ _ h => h) (Or.inl ⟨by rfl, ?_⟩) ?_; rotate_left; focus (intro w; go_simp; try with_reducible rfl)
      refine wpAny_take (i := 2) (v := ?_) rfl (by kernel_rfl) (by kernel_rfl) (by kernel_rfl) (fun _ _ _ h => h) (Or.inl ⟨by rfl, ?_⟩) ?_; rotate_left; focus (intro w; go_simp; try with_reducible rfl)
      refine wpAny_take (i := 3) (v := ?_) rfl (by kernel_rfl) (by kernel_rfl) (by kernel_rfl) (fun _ _ _ h => h) (Or.inl ⟨by rfl, ?_⟩) ?_; rotate_left; focus (intro w; go_simp; try with_reducible rfl)
      refine wpAny_take (i := 5) (v := ?_) rfl (by kernel_rfl) (by kernel_rfl) (by kernel_rfl) (fun _ _ _ h => h) (Or.inl ⟨by rfl, ?_⟩) ?_; rotate_left; focus (intro w; go_simp; try with_reducible rfl)
      refine wpAny_take (i := 6) (v := ?_) rfl (by kernel_rfl) (by kernel_rfl) (by kernel_rfl) (fun _ _ _ h => h) (Or.inl ⟨by rfl, ?_⟩) ?_; rotate_left; focus (intro w; go_simp; try with_reducible rfl)
      refine wpAny_take (i := 7) (v := ?_) rfl (by kernel_rfl) (by kernel_rfl) (by kernel_rfl) (fun _ _ _ h => h) (Or.inl ⟨by rfl, ?_⟩) ?_; rotate_left; focus (intro w; go_simp; try with_reducible rfl)
      have hwn : IntKind.i64.wrap (n : Int) = n := by rw [IntKind.wrap_i64]; omega
      have hn0 : (0 : Int) ≤ (n : Int) := by omega
      have hn1 : (n : Int) ≤ (cap : Int) := by omega
      refine wpAny_ready (rs := [4, 8]) (by kernel_rfl) (by simp) ?_; refine AllReady.cons rfl (fun K hK => ?_) (AllReady.cons rfl (fun K hK => ?_) AllReady.nil)
      · go_simp; refine hK _ _ ?_; clear hK K
        refine wpAny_ready (rs := [8]) (by kernel_rfl) (by simp) ?_; refine AllReady.cons rfl (fun K hK => ?_) AllReady.nil
        go_simp; refine hK _ _ ?_; clear hK K
        refine wpAny_take (i := 9) (v := ?_) rfl (by kernel_rfl) (by kernel_rfl) (by kernel_rfl) (fun _ _ _ h => h) (Or.inl ⟨by rfl, ?_⟩) ?_; rotate_left; focus (intro w; go_simp; try with_reducible rfl)
        refine wpAny_take (i := 10) (v := ?_) rfl (by kernel_rfl) (by kernel_rfl) (by kernel_rfl) (fun _ _ _ h => h) (Or.inl ⟨by rfl, ?_⟩) ?_; rotate_left; focus (intro w; go_simp; try with_reducible rfl)
        refine wpAny_take (i := 11) (v := ?_) rfl (by kernel_rfl) (by kernel_rfl) (by kernel_rfl) (fun _ _ _ h => h) (Or.inl ⟨by rfl, ?_⟩) ?_; rotate_left; focus (intro w; go_simp; try with_reducible rfl)
        refine wpAny_take (i := 12) (v := ?_) rfl (by kernel_rfl) (by kernel_rfl) (by kernel_rfl) (fun _ _ _ h => h) (Or.inl ⟨by rfl, ?_⟩) ?_; rotate_left; focus (intro w; go_simp; try with_reducible rfl)
        refine wpAny_take (i := 13) (v := ?_) rfl (by kernel_rfl) (by kernel_rfl) (by kernel_rfl) (fun _ _ _ h => h) (Or.inl ⟨by rfl, ?_⟩) ?_; rotate_left; focus (intro w; go_simp; try with_reducible rfl)
        refine wpAny_ready (rs := [14]) (by kernel_rfl) (by simp) ?_; refine AllReady.cons rfl (fun K hK => ?_) AllReady.nil
        go_simp; refine hK _ _ ?_; clear hK K
        refine wpAny_done (by kernel_rfl) ?_ _
        go_wp2_with fail
        exact ⟨⟨L'.dropLast, FIN.out.1, fun f hf => HO.out f ((List.dropLast_sublist _).subset hf), HD.out, by rw [List.length_dropLast]; omega, FIN.out.2.1⟩, by show lenOf g ((World.drew wy).setCell ⟨g, 1, none⟩ (.slice ad n cap)) < lenOf g wr; rw [FIN.out.2.2, HLEN.out]; omega⟩
      · go_simp; refine hK _ _ ?_; clear hK K
        refine wpAny_take (i := 9) (v := ?_) rfl (by kernel_rfl) (by kernel_rfl) (by kernel_rfl) (fun _ _ _ h => h) (Or.inl ⟨by rfl, ?_⟩) ?_; rotate_left; focus (intro w; go_simp; try with_reducible rfl)
        refine wpAny_take (i := 10) (v := ?_) rfl (by kernel_rfl) (by kernel_rfl) (by kernel_rfl) (fun _ _ _ h => h) (Or.inl ⟨by rfl, ?_⟩) ?_; rotate_left; focus (intro w; go_simp; try with_reducible rfl)
        refine wpAny_ready (rs := [4]) (by kernel_rfl) (by simp) ?_; refine AllReady.cons rfl (fun K hK => ?_) AllReady.nil
        go_simp; refine hK _ _ ?_; clear hK K
        refine wpAny_take (i := 11) (v := ?_) rfl (by kernel_rfl) (by kernel_rfl) (by kernel_rfl) (fun _ _ _ h => h) (Or.inl ⟨by rfl, ?_⟩) ?_; rotate_left; focus (intro w; go_simp; try with_reducible rfl)
        refine wpAny_take (i := 12) (v := ?_) rfl (by kernel_rfl) (by kernel_rfl) (by kernel_rfl) (fun _ _ _ h => h) (Or.inl ⟨by rfl, ?_⟩) ?_; rotate_left; focus (intro w; go_simp; try with_reducible rfl)
        refine wpAny_take (i := 13) (v := ?_) rfl (by kernel_rfl) (by kernel_rfl) (by kernel_rfl) (fun _ _ _ h => h) (Or.inl ⟨by rfl, ?_⟩) ?_; rotate_left; focus (intro w; go_simp; try with_reducible rfl)
        refine wpAny_ready (rs := [14]) (by kernel_rfl) (by simp) ?_; refine AllReady.cons rfl (fun K hK => ?_) AllReady.nil
        go_simp; refine hK _ _ ?_; clear hK K
        refine wpAny_done (by kernel_rfl) ?_ _
        go_wp2_with fail
        exact ⟨⟨L'.dropLast, FIN.out.1, fun f hf => HO.out f ((List.dropLast_sublist _).subset hf), HD.out, by rw [List.length_dropLast]; omega, FIN.out.2.1⟩, by show lenOf g ((World.drew wy).setCell ⟨g, 1, none⟩ (.slice ad n cap)) < lenOf g wr; rw [FIN.out.2.2, HLEN.out]; omega⟩
    · have HD := hide (HR'.out.trans (shr_stop (by rw [HSM.out]; exact hgt0)))
      go_wp2_with fail
      refine bodyPost_end (v := .tuple #[]) (by simp [results, Tryz.results190, go_sem]) rfl ?_
      exact ⟨rfl, by rw [HD.out]; exact ⟨⟨ad, cap, HROW.out, HOWN.out, HAP.out⟩⟩, HT.out⟩
set_option maxHeartbeats 4000000 in
theorem note1 (g base : Nat) (room : Int) (L : List Fd) (f : Fd) (w : World) (h : TabAt w g base room L) (hok : ∀ f ∈ L, okF f = true) (hf : okF f = true) (hroom : 0 ≤ room) (hL : L.length ≤ 190) (hbs : base ≤ w.heap.size) :
    Calls Tryz.prog 153 #[.pointer (some ⟨g, 0, none⟩), .agg #[.string f.n, .string f.v]] w fun x w' => x = .returned (.tuple #[]) ∧ TabAt w' g base room (shr room (f :: L)) ∧ Turn g (g + 1) w w' := by
  obtain ⟨ad, cap, hrow, hown, _⟩ := h.ex
  have HALL : Hid (∀ u ∈ f :: L, okF u = true) := fun u hu => by rcases List.mem_cons.1 hu with rfl | hu; exact hf; exact hok u hu
  obtain ⟨R, hR⟩ : ∃ R, R = shr room (f :: L) := ⟨_, rfl⟩
  have hgl := hrow.lt
  have HROW0 := hide hrow; have HOWN0 := hide hown
  clear h hrow hown hok
  go_enter Tryz.func153, Tryz.ntmps153
  go_wp2_with fail
  generalize hV : w.alloc (.cells #[.string f.n, .string f.v] 146) = V
  have hbV : Below w.heap.size w V := by rw [← hV]; exact (Below.refl _ _).alloc (Nat.le_refl _) _
  have x0 : V.cell? ⟨w.heap.size, 0, none⟩ = some (.string f.n) := by rw [← hV]; simp
  have x1 : V.cell? ⟨w.heap.size, 1, none⟩ = some (.string f.v) := by rw [← hV]; simp
  have hlV : w.heap.size < V.heap.size := by rw [← hV]; simp
  clear hV
  have HROW := hide (HROW0.out.new hbV)
  have HOWN := hide (owns_new HOWN0.out hbV)
  have y1 := HROW.out.cell (j := 1) rfl
  have hglV : g < V.heap.size := Nat.lt_of_lt_of_le hgl hbV.size
  have hbA : Below V.heap.size V ((World.drew V).alloc (.cells #[.string f.n, .string f.v] 146)) := bo_alloc (bo_drewN 1 (Below.refl _ _)) _
  have hoA := owns_two (World.drew V) 146 f
  have hrA := (reads_of_owns HOWN.out).new hbA
  refine wp_region_any (by kernel_rfl) ?_; change wpAny _ _ _ _ _ _ _ (World.drew _)
  refine wpAny_take (i := 0) (v := ?_) rfl (by kernel_rfl) (by kernel_rfl) (by kernel_rfl) (fun _ _ _ h => h) (Or.inl ⟨by rfl, ?_⟩) ?_; rotate_left; focus (intro w; go_simp; try with_reducible rfl)
  refine wpAny_take (i := 3) (v := ?_) rfl (by kernel_rfl) (by kernel_rfl) (by kernel_rfl) (fun _ _ _ h => h) (Or.inl ⟨by rfl, ?_⟩) ?_; rotate_left; focus (intro w; go_simp; try with_reducible rfl)
  refine wpAny_take (i := 4) (v := ?_) rfl (by kernel_rfl) (by kernel_rfl) (by kernel_rfl) (fun _ _ _ h => h) (Or.inl ⟨by rfl, ?_⟩) ?_; rotate_left; focus (intro w; go_simp; try with_reducible rfl)
  refine wpAny_take (i := 5) (v := ?_) rfl (by kernel_rfl) (by kernel_rfl) (by kernel_rfl) (fun _ _ _ h => h) (Or.inl ⟨by rfl, ?_⟩) ?_; rotate_left; focus (intro w; go_simp; try with_reducible rfl)
  refine wpAny_ready (rs := [1, 6]) (by kernel_rfl) (by simp) ?_; refine AllReady.cons rfl (fun K hK => ?_) (AllReady.cons rfl (fun K hK => ?_) AllReady.nil)
  · go_simp; refine hK _ _ ?_; clear hK K
    refine wpAny_ready (rs := [2, 6]) (by kernel_rfl) (by simp) ?_; refine AllReady.cons rfl (fun K hK => ?_) (AllReady.cons rfl (fun K hK => ?_) AllReady.nil)
    · go_simp; refine hK _ _ ?_; clear hK K
      refine wpAny_ready (rs := [6]) (by kernel_rfl) (by simp) ?_; refine AllReady.cons rfl (fun K hK => ?_) AllReady.nil
      go_simp; refine hK _ _ ?_; clear hK K
      refine wpAny_ready (rs := [7]) (by kernel_rfl) (by simp) ?_; refine AllReady.cons rfl (fun K hK => ?_) AllReady.nil
      refine step_app _ (by rfl) _ _ 38 (by rfl) 146 (.agg #[.string ⟨#[]⟩, .string ⟨#[]⟩]) 2 32 Tryz.underlying38 (by kernel_rfl) rfl (by decide) V.heap.size _ 1 (fv [f]) (by rfl) hoA _ L.length (fv L) (by rfl) hrA (fv_one _) (by omega) (by decide) hbA.size ?_
      intro ad5 cap5 w5 hown5 hgrow5 hat5
      have hb5 : Below V.heap.size V w5 := ⟨hgrow5.os.trans hbA.os, hgrow5.tape.trans hbA.tape, hgrow5.output.trans hbA.output, Nat.le_trans hbA.size hgrow5.size, fun k hk => (hgrow5.block k (Nat.lt_of_lt_of_le hk hbA.size) (fun e => absurd (show V.heap.size ≤ k from (hoA.lt k e.symm).1) (Nat.not_le_of_lt hk))).trans (hbA.block k hk)⟩
      refine hK _ _ ?_
      clear hK K hat5 hgrow5
      have hrow5 := HROW.out.new hb5
      have g0 := hrow5.cell (j := 1) rfl
      have g1 := hrow5.frozen 1
      have HROW5 := hide hrow5; have HOWN5 := hide hown5
      clear hrow5 hown5 x0 x1 y1
      refine wpAny_take (i := 8) (v := ?_) rfl (by kernel_rfl) (by kernel_rfl) (by kernel_rfl) (fun _ _ _ h => h) (Or.inl ⟨by rfl, ?_⟩) ?_; rotate_left; focus (intro w; go_simp; try with_reducible rfl)
      refine wpAny_take (i := 9) (v := ?_) rfl (by kernel_rfl) (by kernel_rfl) (by kernel_rfl) (fun _ _ _ h => h) (Or.inl ⟨by rfl, ?_⟩) ?_; rotate_left; focus (intro w; go_simp; try with_reducible rfl)
      refine wpAny_ready (rs := [10]) (by kernel_rfl) (by simp) ?_; refine AllReady.cons rfl (fun K hK => ?_) AllReady.nil
      go_simp; refine hK _ _ ?_; clear hK K
      refine wpAny_done (by kernel_rfl) ?_ _
      have hta : TabAt (w5.setCell ⟨g, 1, none⟩ (.slice ad5 (1 + L.length) cap5)) g base room (f :: L) := by
        have e1 : (f :: L).length = 1 + L.length := by simp; omega
        refine ⟨⟨ad5, cap5, by rw [e1]; exact HROW5.out.set 1 _, ?_, ?_⟩⟩
        · rw [e1, show fv (f :: L) = fv [f] ++ fv L from fv_app [f] L]
          exact owns_base (owns_apart HOWN5.out ⟨g, 1, none⟩ _ (fun hq => by have := (HOWN5.out.lt g hq).1; have := hbV.size; omega)) (fun q hq => by have := (HOWN5.out.lt q hq).1; have := hbV.size; omega)
        · rw [e1]; exact fun hq => by have := (HOWN5.out.lt g hq).1; have := hbV.size; omega
      have ht5 : Turn g (g + 1) w (w5.setCell ⟨g, 1, none⟩ (.slice ad5 (1 + L.length) cap5)) := ((turn_new hbV g (g + 1)).trans (turn_new hb5 g (g + 1))).setCell (p := ⟨g, 1, none⟩) _ (.inl ⟨Nat.le_refl _, Nat.lt_succ_self _⟩)
      have HTA := hide hta; have HT5 := hide ht5
      clear hta ht5
      generalize w5.setCell ⟨g, 1, none⟩ (.slice ad5 (1 + L.length) cap5) = w6 at *
      go_wp2_with fail
      refine (shrink1 g base room (f :: L) _ HTA.out HALL.out hroom (by simp only [List.length_cons]; omega)).mono ?_; rintro x w7 ⟨rfl, hta7, ht7⟩
      have HTA7 := hide hta7
      clear hta7
      go_wp2_with fail
      refine bodyPost_end (v := .tuple #[]) (by simp [results, Tryz.results153, go_sem]) rfl ?_
      exact ⟨rfl, HTA7.out, HT5.out.trans ht7⟩
    · go_simp; refine hK _ _ ?_; clear hK K
      refine wpAny_ready (rs := [2]) (by kernel_rfl) (by simp) ?_; refine AllReady.cons rfl (fun K hK => ?_) AllReady.nil
      go_simp; refine hK _ _ ?_; clear hK K
      refine wpAny_ready (rs := [7]) (by kernel_rfl) (by simp) ?_; refine AllReady.cons rfl (fun K hK => ?_) AllReady.nil
      refine step_app _ (by rfl) _ _ 38 (by rfl) 146 (.agg #[.string ⟨#[]⟩, .string ⟨#[]⟩]) 2 32 Tryz.underlying38 (by kernel_rfl) rfl (by decide) V.heap.size _ 1 (fv [f]) (by rfl) hoA _ L.length (fv L) (by rfl) hrA (fv_one _) (by omega) (by decide) hbA.size ?_
      intro ad5 cap5 w5 hown5 hgrow5 hat5
      have hb5 : Below V.heap.size V w5 := ⟨hgrow5.os.trans hbA.os, hgrow5.tape.trans hbA.tape, hgrow5.output.trans hbA.output, Nat.le_trans hbA.size hgrow5.size, fun k hk => (hgrow5.block k (Nat.lt_of_lt_of_le hk hbA.size) (fun e => absurd (show V.heap.size ≤ k from (hoA.lt k e.symm).1) (Nat.not_le_of_lt hk))).trans (hbA.block k hk)⟩
      refine hK _ _ ?_
      clear hK K hat5 hgrow5
      have hrow5 := HROW.out.new hb5
      have g0 := hrow5.cell (j := 1) rfl
      have g1 := hrow5.frozen 1
      have HROW5 := hide hrow5; have HOWN5 := hide hown5
      clear hrow5 hown5 x0 x1 y1
      refine wpAny_take (i := 8) (v := ?_) rfl (by kernel_rfl) (by kernel_rfl) (by kernel_rfl) (fun _ _ _ h => h) (Or.inl ⟨by rfl, ?_⟩) ?_; rotate_left; focus (intro w; go_simp; try with_reducible rfl)
      refine wpAny_take (i := 9) (v := ?_) rfl (by kernel_rfl) (by kernel_rfl) (by kernel_rfl) (fun _ _ _ h => h) (Or.inl ⟨by rfl, ?_⟩) ?_; rotate_left; focus (intro w; go_simp; try with_reducible rfl)
      refine wpAny_ready (rs := [10]) (by kernel_rfl) (by simp) ?_; refine AllReady.cons rfl (fun K hK => ?_) AllReady.nil
      go_simp; refine hK _ _ ?_; clear hK K
      refine wpAny_done (by kernel_rfl) ?_ _
      have hta : TabAt (w5.setCell ⟨g, 1, none⟩ (.slice ad5 (1 + L.length) cap5)) g base room (f :: L) := by
        have e1 : (f :: L).length = 1 + L.length := by simp; omega
        refine ⟨⟨ad5, cap5, by rw [e1]; exact HROW5.out.set 1 _, ?_, ?_⟩⟩
        · rw [e1, show fv (f :: L) = fv [f] ++ fv L from fv_app [f] L]
          exact owns_base (owns_apart HOWN5.out ⟨g, 1, none⟩ _ (fun hq => by have := (HOWN5.out.lt g hq).1; have := hbV.size; omega)) (fun q hq => by have := (HOWN5.out.lt q hq).1; have := hbV.size; omega)
        · rw [e1]; exact fun hq => by have := (HOWN5.out.lt g hq).1; have := hbV.size; omega
      have ht5 : Turn g (g + 1) w (w5.setCell ⟨g, 1, none⟩ (.slice ad5 (1 + L.length) cap5)) := ((turn_new hbV g (g + 1)).trans (turn_new hb5 g (g + 1))).setCell (p := ⟨g, 1, none⟩) _ (.inl ⟨Nat.le_refl _, Nat.lt_succ_self _⟩)
      have HTA := hide hta; have HT5 := hide ht5
      clear hta ht5
      generalize w5.setCell ⟨g, 1, none⟩ (.slice ad5 (1 + L.length) cap5) = w6 at *
      go_wp2_with fail
      refine (shrink1 g base room (f :: L) _ HTA.out HALL.out hroom (by simp only [List.length_cons]; omega)).mono ?_; rintro x w7 ⟨rfl, hta7, ht7⟩
      have HTA7 := hide hta7
      clear hta7
      go_wp2_with fail
      refine bodyPost_end (v := .tuple #[]) (by simp [results, Tryz.results153, go_sem]) rfl ?_
      exact ⟨rfl, HTA7.out, HT5.out.trans ht7⟩
  · go_simp; refine hK _ _ ?_; clear hK K
    refine wpAny_ready (rs := [1]) (by kernel_rfl) (by simp) ?_; refine AllReady.cons rfl (fun K hK => ?_) AllReady.nil
    go_simp; refine hK _ _ ?_; clear hK K
    refine wpAny_ready (rs := [2]) (by kernel_rfl) (by simp) ?_; refine AllReady.cons rfl (fun K hK => ?_) AllReady.nil
    go_simp; refine hK _ _ ?_; clear hK K
    refine wpAny_ready (rs := [7]) (by kernel_rfl) (by simp) ?_; refine AllReady.cons rfl (fun K hK => ?_) AllReady.nil
    refine step_app _ (by rfl) _ _ 38 (by rfl) 146 (.agg #[.string ⟨#[]⟩, .string ⟨#[]⟩]) 2 32 Tryz.underlying38 (by kernel_rfl) rfl (by decide) V.heap.size _ 1 (fv [f]) (by rfl) hoA _ L.length (fv L) (by rfl) hrA (fv_one _) (by omega) (by decide) hbA.size ?_
    intro ad5 cap5 w5 hown5 hgrow5 hat5
    have hb5 : Below V.heap.size V w5 := ⟨hgrow5.os.trans hbA.os, hgrow5.tape.trans hbA.tape, hgrow5.output.trans hbA.output, Nat.le_trans hbA.size hgrow5.size, fun k hk => (hgrow5.block k (Nat.lt_of_lt_of_le hk hbA.size) (fun e => absurd (show V.heap.size ≤ k from (hoA.lt k e.symm).1) (Nat.not_le_of_lt hk))).trans (hbA.block k hk)⟩
    refine hK _ _ ?_
    clear hK K hat5 hgrow5
    have hrow5 := HROW.out.new hb5
    have g0 := hrow5.cell (j := 1) rfl
    have g1 := hrow5.frozen 1
    have HROW5 := hide hrow5; have HOWN5 := hide hown5
    clear hrow5 hown5 x0 x1 y1
    refine wpAny_take (i := 8) (v := ?_) rfl (by kernel_rfl) (by kernel_rfl) (by kernel_rfl) (fun _ _ _ h => h) (Or.inl ⟨by rfl, ?_⟩) ?_; rotate_left; focus (intro w; go_simp; try with_reducible rfl)
    refine wpAny_take (i := 9) (v := ?_) rfl (by kernel_rfl) (by kernel_rfl) (by kernel_rfl) (fun _ _ _ h => h) (Or.inl ⟨by rfl, ?_⟩) ?_; rotate_left; focus (intro w; go_simp; try with_reducible rfl)
    refine wpAny_ready (rs := [10]) (by kernel_rfl) (by simp) ?_; refine AllReady.cons rfl (fun K hK => ?_) AllReady.nil
    go_simp; refine hK _ _ ?_; clear hK K
    refine wpAny_done (by kernel_rfl) ?_ _
    have hta : TabAt (w5.setCell ⟨g, 1, none⟩ (.slice ad5 (1 + L.length) cap5)) g base room (f :: L) := by
      have e1 : (f :: L).length = 1 + L.length := by simp; omega
      refine ⟨⟨ad5, cap5, by rw [e1]; exact HROW5.out.set 1 _, ?_, ?_⟩⟩
      · rw [e1, show fv (f :: L) = fv [f] ++ fv L from fv_app [f] L]
        exact owns_base (owns_apart HOWN5.out ⟨g, 1, none⟩ _ (fun hq => by have := (HOWN5.out.lt g hq).1; have := hbV.size; omega)) (fun q hq => by have := (HOWN5.out.lt q hq).1; have := hbV.size; omega)
      · rw [e1]; exact fun hq => by have := (HOWN5.out.lt g hq).1; have := hbV.size; omega
    have ht5 : Turn g (g + 1) w (w5.setCell ⟨g, 1, none⟩ (.slice ad5 (1 + L.length) cap5)) := ((turn_new hbV g (g + 1)).trans (turn_new hb5 g (g + 1))).setCell (p := ⟨g, 1, none⟩) _ (.inl ⟨Nat.le_refl _, Nat.lt_succ_self _⟩)
    have HTA := hide hta; have HT5 := hide ht5
    clear hta ht5
    generalize w5.setCell ⟨g, 1, none⟩ (.slice ad5 (1 + L.length) cap5) = w6 at *
    go_wp2_with fail
    refine (shrink1 g base room (f :: L) _ HTA.out HALL.out hroom (by simp only [List.length_cons]; omega)).mono ?_; rintro x w7 ⟨rfl, hta7, ht7⟩
    have HTA7 := hide hta7
    clear hta7
    go_wp2_with fail
    refine bodyPost_end (v := .tuple #[]) (by simp [results, Tryz.results153, go_sem]) rfl ?_
    exact ⟨rfl, HTA7.out, HT5.out.trans ht7⟩
end Go.Proofs.YtllaeakeaabiaaaGreat
/- Chapter 7's Shown and Payload, of the program and of the model. -/
namespace Go.Proofs.YtllaeakeaabiaaaGreat
open Go.RowKit
set_option maxRecDepth 100000
set_option linter.unusedSimpArgs false
set_option linter.unusedVariables false
theorem bysV_of {n : Int} {c : Nat} (hc1 : 1 ≤ c) (hc : c ≤ 4) (h0 : 0 ≤ n) (h1 : n < 256 ^ c) : bysV n c = bytV c n := by
  unfold bysV
  rw [Int.toNat_natCast, if_pos ⟨decide_eq_true ⟨by omega, by omega⟩, decide_eq_true ⟨h0, by omega⟩⟩]
theorem bytV_one (n : Int) : bytV 1 n = strOf [n % 256] := rfl
theorem strOf_two (a b : Int) : strOf [a] ++ strOf [b] = strOf [a, b] := bys_inj (by unfold strOf; rw [bys_append]; rfl)
/-- The head as the program writes it, part by part. -/
theorem hdV_parts {k fl st : Int} {b : ByteArray} (h : hdOk k fl st b.size = true) : bytV 2 b.size ++ bytV 1 k ++ bytV 1 fl ++ bytV 3 st ++ b = hdV ⟨k, fl, st, b⟩ ++ b := by
  obtain ⟨p1, p2, p3, p4, p5, p6, p7, p8⟩ := hd_parts h
  have e1 : k % 256 = k := by omega
  have e2 : fl % 256 = fl := by omega
  unfold hdV
  dsimp only
  rw [bytV_one, bytV_one, e1, e2, ba_append_assoc (bytV 2 _), strOf_two, ba_append_assoc (bytV 2 _)]

end Go.Proofs.YtllaeakeaabiaaaGreat
