/- Several small texts of one level, one behind the other. -/
import Derived.Test.YtllaeakeaabiaaaQG5
import Derived.Test.YtllaeakeaabiaaaQG4
import Derived.Test.YtllaeakeaabiaaaQG7
import Derived.Test.YtllaeakeaabiaaaQG3
import Derived.Test.YtllaeakeaabiaaaQG6
import Derived.Test.YtllaeakeaabiaaaQG2
import Derived.Deep.DeepCutAuto
import Derived.DeepKeys
import Derived.Deep.Cut
import Derived.Deep.RegionHeld3
/- Plain mathematics of chapter 3's law: a number is read from what it is written as, whatever comes behind and above. -/
namespace Go.Proofs.Ytllaeakeaabiaaa
open Go.RowKit
set_option maxRecDepth 100000
set_option linter.unusedVariables false

theorem split_mul (r p : Int) : r % 128 * p + r / 128 * (p * 128) = r * p := by
  have e : r * p = (r % 128 + 128 * (r / 128)) * p := by rw [Int.emod_add_mul_ediv]
  rw [e, Int.add_mul, Int.mul_comm (r / 128) (p * 128), Int.mul_assoc p, Int.mul_comm p]

theorem rdF_write (k : Nat) : ∀ (r N p : Int) (i : Nat) (cs : List Int), 0 ≤ r → r < 128 ^ (k + 1) → 0 ≤ N → 1 ≤ p → (1 < i → 0 < r) → N + r * p ≤ 268435456 → rdF (k + 1) N p i (restF k r ++ cs) = (N + r * p, (i : Int) + (restF k r).length) := by
  induction k with
  | zero =>
    intro r N p i cs h0 h1 hN hp hi hm
    simp at h1
    rw [restF_small h1]
    simp only [List.singleton_append, rdF, if_pos h1]
    rw [show r % 128 = r by omega, if_neg (by omega)]
    simp
  | succ k ih =>
    intro r N p i cs h0 h1 hN hp hi hm
    by_cases h : r < 128
    · rw [restF_small h]
      simp only [List.singleton_append, rdF, if_pos h]
      rw [show r % 128 = r by omega, if_neg (by omega)]
      simp
    · rw [restF_big (by omega)]
      have hc : ¬ (r % 128 + 128 < 128) := by omega
      simp only [List.cons_append, rdF, if_neg hc]
      have e1 : (r % 128 + 128) % 128 = r % 128 := by omega
      have e2 := split_mul r p
      have h2 : 0 ≤ r % 128 * p := Int.mul_nonneg (by omega) (by omega)
      rw [e1, ih (r / 128) (N + r % 128 * p) (p * 128) (i + 1) cs (by omega) (by rw [Int.pow_succ] at h1; omega) (by omega) (by omega) (fun _ => by omega) (by omega)]
      simp only [List.length_cons]
      refine Prod.ext ?_ ?_
      · simp only; omega
      · simp only; omega

theorem rdF_read (j : Nat) : ∀ (N p : Int) (i : Nat) (cs : List Int) (m k : Int), 1 ≤ i → (∀ c ∈ cs, 0 ≤ c ∧ c ≤ 255) → rdF (j + 1) N p i cs = (m, k) → 0 < k →
    ∃ (r : Int) (rest : List Int), 0 ≤ r ∧ (1 < i → 0 < r) ∧ cs = restF j r ++ rest ∧ m = N + r * p ∧ k = (i : Int) + (restF j r).length ∧ m ≤ 268435456 := by
  induction j with
  | zero =>
    intro N p i cs m k hi1 hc hr hk
    cases cs with
    | nil => simp [rdF] at hr; omega
    | cons c cs =>
      have hcc := hc c List.mem_cons_self
      by_cases h : c < 128
      · simp only [rdF, if_pos h] at hr
        rw [show c % 128 = c by omega] at hr
        by_cases hb : 268435456 < N + c * p ∨ (1 < i ∧ c = 0)
        · rw [if_pos hb] at hr; simp at hr; omega
        · rw [if_neg hb] at hr
          simp only [Prod.mk.injEq] at hr
          exact ⟨c, cs, by omega, fun hi => by omega, by rw [restF_small h]; rfl, hr.1.symm, by rw [restF_small h]; simp; omega, by omega⟩
      · simp only [rdF, if_neg h] at hr
        simp at hr; omega
  | succ j ih =>
    intro N p i cs m k hi1 hc hr hk
    cases cs with
    | nil => simp [rdF] at hr; omega
    | cons c cs =>
      have hcc := hc c List.mem_cons_self
      by_cases h : c < 128
      · simp only [rdF, if_pos h] at hr
        rw [show c % 128 = c by omega] at hr
        by_cases hb : 268435456 < N + c * p ∨ (1 < i ∧ c = 0)
        · rw [if_pos hb] at hr; simp at hr; omega
        · rw [if_neg hb] at hr
          simp only [Prod.mk.injEq] at hr
          exact ⟨c, cs, by omega, fun hi => by omega, by rw [restF_small h]; rfl, hr.1.symm, by rw [restF_small h]; simp; omega, by omega⟩
      · rw [show rdF (j + 1 + 1) N p i (c :: cs) = rdF (j + 1) (N + c % 128 * p) (p * 128) (i + 1) cs by simp only [rdF, if_neg h]] at hr
        obtain ⟨r, rest, h0, h1, h2, h3, h4, h5⟩ := ih _ _ _ _ m k (by omega) (fun y hy => hc y (List.mem_cons_of_mem _ hy)) hr hk
        have hr0 : 0 < r := h1 (by omega)
        have e1 : (c % 128 + 128 * r) % 128 = c % 128 := by omega
        have e2 : (c % 128 + 128 * r) / 128 = r := by omega
        have e3 := split_mul (c % 128 + 128 * r) p
        rw [e1, e2] at e3
        have e4 : restF (j + 1) (c % 128 + 128 * r) = c :: restF j r := by
          rw [restF_big (by omega), e1, e2]
          congr 1; omega
        refine ⟨c % 128 + 128 * r, rest, by omega, fun _ => by omega, by rw [e4, h2]; rfl, by omega, by rw [e4, List.length_cons]; omega, h5⟩

/-- ReadPrefixed over bytes. -/
def rdL (l : List Int) (b : Int) : Int × Int := match l with
  | [] => (-1, 0)
  | x :: xs => if inB b 1 8 = true then (if x % pw b < pw b - 1 then (x % pw b, 1) else rdF 5 (x % pw b) 1 1 xs) else (-1, 0)
def hiL (l : List Int) (b : Int) : Int := match l with
  | [] => -1
  | x :: _ => if inB b 1 8 = true then x / pw b * pw b else -1

theorem rdV_list (s : ByteArray) (b : Int) : rdV s b = rdL (bys s) b := by
  by_cases h : 0 < s.size
  · rw [bys_cons h]
    unfold rdV rdL
    rw [dif_pos h]
  · rw [rdV_empty (by omega), bys_nil (by omega)]; rfl
theorem hiV_list (s : ByteArray) (b : Int) : hiV s b = hiL (bys s) b := by
  by_cases h : 0 < s.size
  · rw [bys_cons h]
    unfold hiV hiL
    rw [dif_pos h]
    by_cases hb : inB b 1 8 = true
    · rw [if_pos (inB_true hb)]
      simp only [hb, if_true]
    · rw [if_neg (inB_false (by simpa using hb))]
      simp [hb]
  · rw [hiV_no (.inl (by omega)), bys_nil (by omega)]; rfl

theorem okP_bytes {n b h : Int} (k : okP n b h = true) : bys (preV n b h) = addHead h (bytesOf n (pw b - 1)) ∧ preV n b h = strOf (addHead h (bytesOf n (pw b - 1))) := by
  obtain ⟨⟨hn0, hn, h1, h8⟩, ⟨hh0, hh1⟩, hm, hf⟩ := okP_true k
  have e : preV n b h = strOf (addHead h (bytesOf n (pw b - 1))) := by simp [preV, k]
  refine ⟨?_, e⟩
  rw [e]
  refine bys_strOf ?_
  obtain ⟨x, xs, hb, hx0, hx1, hxs⟩ := bytesOf_cons hn0 hn h1 h8
  rw [hb]
  intro y hy
  rcases List.mem_cons.1 hy with rfl | hy
  · omega
  · exact hxs y hy

/-- What is read from what is written, whatever comes behind. -/
theorem law_read {n b h : Int} (k : okP n b h = true) (t : ByteArray) : rdV (preV n b h ++ t) b = (n, ((preV n b h).size : Int)) := by
  obtain ⟨⟨hn0, hn, h1, h8⟩, ⟨hh0, hh1⟩, hm, hf⟩ := okP_true k
  obtain ⟨e1, e2⟩ := okP_bytes k
  have hp := pw_lo h1 h8
  have hb : inB b 1 8 = true := decide_eq_true ⟨h1, h8⟩
  have hsz : ((preV n b h).size : Int) = ((bytesOf n (pw b - 1)).length : Int) := by rw [e2, strOf_size, addHead_len]
  rw [rdV_list, bys_append, e1, hsz]
  have hmod : ∀ y : Int, 0 ≤ y → y < pw b → (h + y) % pw b = y := fun y hy0 hy1 => by
    rw [Int.add_emod, hm, Int.zero_add, Int.emod_emod]
    exact Int.emod_eq_of_lt hy0 hy1
  unfold bytesOf
  by_cases hlt : n < pw b - 1
  · rw [if_pos hlt]
    simp only [addHead, rdL, List.cons_append, hb, if_true]
    rw [hmod n hn0 (by omega), if_pos hlt]
    simp
  · rw [if_neg hlt]
    simp only [addHead, rdL, List.cons_append, hb, if_true]
    rw [hmod (pw b - 1) (by omega) (by omega), if_neg (by omega), rdF_write 4 (n - (pw b - 1)) (pw b - 1) 1 1 _ (by omega) (by simp; omega) (by omega) (by omega) (by omega) (by omega)]
    refine Prod.ext ?_ ?_
    · simp only; omega
    · simp only [List.length_cons]; omega

theorem law_high {n b h : Int} (k : okP n b h = true) : hiV (preV n b h) b = h := by
  obtain ⟨⟨hn0, hn, h1, h8⟩, ⟨hh0, hh1⟩, hm, hf⟩ := okP_true k
  obtain ⟨e1, e2⟩ := okP_bytes k
  have hp := pw_lo h1 h8
  have hb : inB b 1 8 = true := decide_eq_true ⟨h1, h8⟩
  rw [hiV_list, e1]
  obtain ⟨x, xs, hbo, hx0, hx1, hxs⟩ := bytesOf_cons hn0 hn h1 h8
  rw [hbo]
  simp only [addHead, hiL, hb, if_true]
  have e : (h + x) / pw b = h / pw b := by
    have hd : h = pw b * (h / pw b) := by have := Int.emod_add_mul_ediv h (pw b); omega
    rw [hd, Int.add_comm, Int.add_mul_ediv_left _ _ (by omega), Int.mul_ediv_cancel_left _ (by omega), Int.ediv_eq_zero_of_lt hx0 hx1]
    omega
  rw [e]
  have := Int.emod_add_mul_ediv h (pw b)
  rw [Int.mul_comm]
  omega

theorem law_size {n b h : Int} (k : okP n b h = true) : 0 < (preV n b h).size ∧ (preV n b h).size ≤ 6 ∧ ((preV n b h).size = 1 ↔ n < pw b - 1) := by
  obtain ⟨⟨hn0, hn, h1, h8⟩, ⟨hh0, hh1⟩, hm, hf⟩ := okP_true k
  obtain ⟨e1, e2⟩ := okP_bytes k
  rw [e2, strOf_size, addHead_len]
  have := bytesOf_len n (pw b - 1)
  refine ⟨this.1, this.2, ?_⟩
  unfold bytesOf
  split
  · rename_i hlt; simp [hlt]
  · rename_i hlt
    have := restF_ne 4 (n - (pw b - 1))
    simp only [List.length_cons]
    constructor
    · intro e; omega
    · intro e; exact absurd e hlt

/-- What is written of what was read is what it was read from. -/
theorem law_written {t : ByteArray} {b : Int} (hk : 0 < (rdV t b).2) : preV (rdV t b).1 b (hiV t b) = t.extract 0 (rdV t b).2.toNat ∧ wdV (rdV t b).1 b = (rdV t b).2 ∧ (rdV t b).2 ≤ t.size ∧ (rdV t b).2 ≤ 6 := by
  by_cases hb : inB b 1 8 = true
  · by_cases h : 0 < t.size
    · obtain ⟨h1, h8⟩ := inB_true hb
      have hp := pw_lo h1 h8
      have hbc := bys_cons h
      have hrange := bys_range t
      have hlen := bys_len t
      have hx : 0 ≤ (t[0].toNat : Int) ∧ (t[0].toNat : Int) ≤ 255 := by have := t[0].toNat_lt; omega
      rw [rdV_list] at hk ⊢
      rw [hiV_list]
      revert hk
      rw [hbc]
      simp only [rdL, hiL, hb, if_true]
      generalize (t[0].toNat : Int) = x at *
      generalize (bys t).drop 1 = xs at *
      have hm0 := Int.emod_nonneg x (show pw b ≠ 0 by omega)
      have hm1 := Int.emod_lt_of_pos x (show (0 : Int) < pw b by omega)
      have hdm : x / pw b * pw b + x % pw b = x := by have := Int.emod_add_mul_ediv x (pw b); rw [Int.mul_comm] at this; omega
      have hq0 : 0 ≤ x / pw b * pw b := by
        have : 0 ≤ x / pw b := Int.ediv_nonneg hx.1 (by omega)
        exact Int.mul_nonneg this (by omega)
      have hq1 : (x / pw b * pw b) % pw b = 0 := Int.mul_emod_left _ _
      have hkey : ∀ (m : Int) (k : Nat), 0 ≤ m → m ≤ 268435456 → (bytesOf m (pw b - 1)).length = k → addHead (x / pw b * pw b) (bytesOf m (pw b - 1)) = (x :: xs).take k → k ≤ t.size →
          preV m b (x / pw b * pw b) = t.extract 0 k ∧ wdV m b = (k : Int) ∧ (k : Int) ≤ t.size ∧ (k : Int) ≤ 6 := by
        intro m k hm0' hm1' hl he hks
        have hok : okN m b = true := decide_eq_true ⟨hm0', hm1', h1, h8⟩
        have hop : okP m b (x / pw b * pw b) = true := by
          have : inB (x / pw b * pw b) 0 255 = true := decide_eq_true ⟨hq0, by omega⟩
          simp [okP, hok, this, hq1]
        refine ⟨?_, by rw [wdV_yes hok, hl], by omega, by have := (bytesOf_len m (pw b - 1)).2; omega⟩
        refine bys_inj ?_
        rw [(okP_bytes hop).1, he, ← hbc]
        unfold bys
        rw [ByteArray.data_extract, Array.toList_extract]
        simp [List.map_take]
      by_cases hlt : x % pw b < pw b - 1
      · rw [if_pos hlt]
        intro _
        have hbo : bytesOf (x % pw b) (pw b - 1) = [x % pw b] := by simp [bytesOf, hlt]
        exact hkey (x % pw b) 1 hm0 (by omega) (by rw [hbo]; rfl) (by rw [hbo]; simp [addHead, hdm]) (by omega)
      · rw [if_neg hlt]
        intro hk
        obtain ⟨r, rest, r0, r1, r2, r3, r4, r5⟩ := rdF_read 4 (x % pw b) 1 1 xs _ _ (by omega) (fun c hc => hrange c (by rw [hbc]; exact List.mem_cons_of_mem _ hc)) rfl hk
        generalize rdF 5 (x % pw b) 1 1 xs = R at *
        obtain ⟨m, k⟩ := R
        simp only at r3 r4 r5 hk ⊢
        have hF : x % pw b = pw b - 1 := by omega
        have hbo : bytesOf m (pw b - 1) = (pw b - 1) :: restF 4 r := by
          unfold bytesOf
          rw [if_neg (by omega), show m - (pw b - 1) = r by omega]
        have hk' : k = ((1 + (restF 4 r).length : Nat) : Int) := by omega
        have := hkey m (1 + (restF 4 r).length) (by omega) r5 (by rw [hbo, List.length_cons]; omega) (by
          rw [hbo, Nat.add_comm 1, List.take_succ_cons, r2]
          simp only [addHead, List.take_left']
          congr 1
          omega) (by
          rw [← hlen, hbc, r2]; simp; omega)
        rw [hk', Int.toNat_natCast]
        exact this
    · rw [rdV_empty (by omega)] at hk; simp at hk
  · rw [rdV_bits (by simpa using hb)] at hk; simp at hk
end Go.Proofs.Ytllaeakeaabiaaa
/- Chapter 3's ReadPrefixed of the program: the parts added up, and held against Width. -/
namespace Go.Proofs.Ytllaeakeaabiaaa
open Go.RowKit Go.Shelf
attribute [local go_sem] Oper.semAt_some
set_option linter.unusedSimpArgs false
set_option linter.unusedVariables false

theorem wrap_i64_64 (z : Int) : IntKind.i64.wrap z = wrap64 z := by rw [IntKind.wrap_i64]; unfold wrap64; omega
theorem box_far {W : World} {B : Nat} {t : TypeId} {v : Value} (h : Boxed W B t v) (b : Nat) (hne : b ≠ B) (v' : Value) : Boxed (W.setCell ⟨b, 0, none⟩ v') B t v := (Below.heap_setCell _ _ _ _ (by simpa using hne.symm)).trans h
theorem read_round {w0 W : World} {pre : List (Int × Bool)} {x : Int × Bool} {N : Nat} (c0 : Boxed W w0.heap.size 2 (.int .i64 (sumWr pre))) (c1 : Boxed W (w0.heap.size + 1) 2 (.int .i64 (pre.length : Int))) (c2 : Boxed W (w0.heap.size + 1 + 1) 4 (.bool (lastB pre))) (hB : Below w0.heap.size w0 W) (hN : pre.length < N) (hN6 : N ≤ 6) :
    let V := (((W.setCell ⟨w0.heap.size, 0, none⟩ (.int .i64 (IntKind.i64.wrap (sumWr pre + x.1)))).setCell ⟨w0.heap.size + 1, 0, none⟩ (.int .i64 (IntKind.i64.wrap ((pre.length : Int) + 1)))).setCell ⟨w0.heap.size + 1 + 1, 0, none⟩ (.bool x.2)).drew
    KeepsOthers W V ∧ Kept2 (w0.heap.size + 1 + 1 + 1) (w0.heap.size + 1 + 1 + 1 + 1) W V ∧ Boxed V w0.heap.size 2 (.int .i64 (sumWr (pre ++ [x]))) ∧ Boxed V (w0.heap.size + 1) 2 (.int .i64 ((pre ++ [x]).length : Int)) ∧ Boxed V (w0.heap.size + 1 + 1) 4 (.bool (lastB (pre ++ [x]))) ∧ Below w0.heap.size w0 V := by
  intro V
  have e1 : IntKind.i64.wrap (sumWr pre + x.1) = sumWr (pre ++ [x]) := by rw [sumW_snoc, wrap_i64_64]
  have e2 : IntKind.i64.wrap ((pre.length : Int) + 1) = ((pre ++ [x]).length : Int) := by rw [wrap_i64_64]; unfold wrap64; simp; omega
  refine ⟨(((KeepsOthers.setCell _ _ _).trans (KeepsOthers.setCell _ _ _)).trans (KeepsOthers.setCell _ _ _)).trans (KeepsOthers.drew _), ⟨?_, ?_⟩, ?_, ?_, ?_, ?_⟩
  · exact ((Below.heap_setCell _ ⟨w0.heap.size + 1 + 1, 0, none⟩ _ _ (by simp)).trans (Below.heap_setCell _ ⟨w0.heap.size + 1, 0, none⟩ _ _ (by simp; omega))).trans (Below.heap_setCell _ ⟨w0.heap.size, 0, none⟩ _ _ (by simp; omega))
  · exact ((Below.heap_setCell _ ⟨w0.heap.size + 1 + 1, 0, none⟩ _ _ (by simp; omega)).trans (Below.heap_setCell _ ⟨w0.heap.size + 1, 0, none⟩ _ _ (by simp; omega))).trans (Below.heap_setCell _ ⟨w0.heap.size, 0, none⟩ _ _ (by simp; omega))
  · rw [← e1]
    exact box_far (box_far (c0.set _) (w0.heap.size + 1) (by omega) _) (w0.heap.size + 1 + 1) (by omega) _
  · rw [← e2]
    exact box_far ((box_far c1 w0.heap.size (by omega) _).set _) (w0.heap.size + 1 + 1) (by omega) _
  · rw [lastB_snoc]
    exact (box_far (box_far c2 w0.heap.size (by omega) _) (w0.heap.size + 1) (by omega) _).set _
  · exact ((((hB.setCell (p := ⟨w0.heap.size, 0, none⟩) (Nat.le_refl _) _).setCell (p := ⟨w0.heap.size + 1, 0, none⟩) (by simp) _).setCell (p := ⟨w0.heap.size + 1 + 1, 0, none⟩) (by simp; omega) _)).drew

end Go.Proofs.Ytllaeakeaabiaaa
/- Chapter 10's model, what it asks: odd numbers, how many live, where one is, RegistryOk, StateOf, Live. -/
namespace Go.Proofs.Ytllaeakeaabiaaa
open Go.RowKit
set_option maxRecDepth 100000
set_option linter.unusedSimpArgs false
set_option linter.unusedVariables false
def ev (L : List EntryD) : List Value := L.flatMap EntryD.cs
theorem ev_len (L : List EntryD) : (ev L).length = L.length * 2 := flat_length EntryD.cs 2 (fun _ => rfl) L
theorem ev_get (L : List EntryD) (k : Nat) (h : k < L.length) : (ev L)[k * 2]? = some (.int .i64 L[k].id) ∧ (ev L)[k * 2 + 1]? = some (.int .i64 L[k].state) :=
  ⟨flat_get EntryD.cs 2 (fun _ => rfl) L k h 0 (by decide), flat_get EntryD.cs 2 (fun _ => rfl) L k h 1 (by decide)⟩
theorem ev_one (L : List EntryD) : ∀ u ∈ ev L, u.oneCell' = true := by
  intro u hu
  obtain ⟨f, _, hf⟩ := List.mem_flatMap.1 hu
  simp only [EntryD.cs, List.mem_cons, List.not_mem_nil, or_false] at hf
  rcases hf with rfl | rfl <;> rfl
theorem ev_app (A B : List EntryD) : ev (A ++ B) = ev A ++ ev B := by simp [ev]
theorem ent_flat : ∀ (w : World) (cs : List Value) (d : EntryD), entryS.rd w cs d → cs = EntryD.cs d := fun _ _ _ h => h
theorem rd_ev {w : World} {v : Value} {L : List EntryD} (h : RdR entryS w v L) : Reads w v L.length 2 (ev L) := RdR.flat (E := entryS) ent_flat h
theorem ow_ev {w : World} {lo hi : Nat} {v : Value} {L : List EntryD} (h : OwX entryS w lo hi v L) : w.ownsRow lo 62 2 v L.length (ev L) := OwX.flat (E := entryS) ent_flat h
theorem ev_ow {w : World} {lo : Nat} {v : Value} {L : List EntryD} (h : w.ownsRow lo 62 2 v L.length (ev L)) : OwX entryS w lo w.heap.size v L := owX_flat (E := entryS) (f := EntryD.cs) (fun d _ => ⟨rfl, rfl⟩) h
theorem ev_rd {w : World} {v : Value} {L : List EntryD} (h : Reads w v L.length 2 (ev L)) : RdR entryS w v L :=
  ⟨L.map fun d => (d.cs, d), by simp [Function.comp_def], by show Reads w v (L.map _).length 2 _; simpa [List.flatMap_map, ev] using h, fun t ht => by obtain ⟨d, _, rfl⟩ := List.mem_map.1 ht; rfl⟩
def atI (L : List EntryD) (id : Int) : Int := match atE L id with | some k => (k : Int) | none => -1
theorem specId (x : Int) (w : World) : Calls Try.prog 39 #[.int .i64 x] w fun e w' => e = .returned (.bool (idB x)) ∧ w' = w := by
  cases h : inB x 1 100000
  · have hv : idB x = false := by unfold idB; refine decide_eq_false fun c => ?_; exact inB_false h ⟨c.1, c.2.1⟩
    rw [hv]
    go_enter Try.func39, Try.ntmps39
    go_wp2_with fail
    refine (specIn _ _ _ _).mono ?_; rw [h]; rintro e w1 ⟨rfl, hsame⟩; obtain rfl := hsame.symm; clear hsame
    go_wp2_with fail
    go_ret
    exact ⟨rfl, rfl⟩
  · obtain ⟨h0, h1⟩ := inB_true h
    have ht : x.tmod 2 = x % 2 := Int.tmod_eq_emod_of_nonneg (by omega)
    have hv : idB x = decide (x % 2 = 1) := by unfold idB; congr 1; exact propext ⟨fun c => c.2.2, fun c => ⟨h0, h1, c⟩⟩
    rw [hv]
    go_enter Try.func39, Try.ntmps39
    go_wp2_with fail
    refine (specIn _ _ _ _).mono ?_; rw [h]; rintro e w1 ⟨rfl, hsame⟩; obtain rfl := hsame.symm; clear hsame
    go_wp2_with fail
    go_ret
    exact ⟨by rfl, rfl⟩

theorem atI_none {L : List EntryD} {id : Int} (h : ∀ e ∈ L, e.id ≠ id) : atI L id = -1 := by unfold atI; rw [atE_no h]
theorem atI_some {L : List EntryD} {id : Int} {k : Nat} (h : atE L id = some k) : atI L id = k := by unfold atI; rw [h]

theorem ok_false {d : RegistryD} (h : ¬ ((0 ≤ d.lim ∧ d.lim ≤ 20) ∧ (d.top = 0 ∨ idB d.top = true) ∧ d.es.length ≤ 60 ∧ (∀ i (h : i < d.es.length), entOk d.top d.es[i] = true ∧ (0 < i → (d.es[i - 1]'(by omega)).id < d.es[i].id)) ∧ liveL d.es ≤ d.lim)) : okRg d = false := by
  cases hq : okRg d
  · rfl
  · exact absurd (okRg_iff.1 hq) h
set_option maxHeartbeats 4000000 in
theorem specRegistryOk (d : RegistryD) (v : Value) (w : World) (hr : RdR entryS w v d.es) : Calls Try.prog 17 #[.agg #[.int .i64 d.lim, .int .i64 d.top, v]] w fun x w' => x = .returned (.bool (okRg d)) ∧ Below w.heap.size w w' := by
  obtain ⟨ad, cap, rfl, h1, h2⟩ := hr.form
  have HR := hide hr
  clear hr
  obtain ⟨A, hA⟩ : ∃ A, okRg d = A := ⟨_, rfl⟩
  rw [hA]
  have HA := hide hA
  clear hA
  cases hlim : inB d.lim 0 20
  · have HF : Hid (A = false) := by show A = false; rw [← HA.out]; exact ok_false fun c => inB_false hlim c.1
    go_enter Try.func17, Try.ntmps17; go_wp2_with fail; refine (specIn _ _ _ _).mono ?_; rw [hlim]; rintro e w1 ⟨rfl, hsame⟩; obtain rfl := hsame.symm; clear hsame; go_wp2_with fail
    go_ret
    exact ⟨by rw [HF.out]; rfl, (by repeat' (first | (with_reducible exact Below.refl _ _) | (with_reducible refine Below.drew ?_) | (with_reducible refine bo_drewN _ ?_) | (with_reducible refine bo_alloc ?_ _) | (refine bchain ?_ (by with_reducible assumption)) | (with_reducible refine Below.setCell ?_ ?_ _) | go_size))⟩
  have htc : (d.top = 0 ∧ (d.top != 0) = false) ∨ ((d.top != 0) = true ∧ idB d.top = false) ∨ ((d.top != 0) = true ∧ idB d.top = true) := by
    by_cases h : d.top = 0
    · exact .inl ⟨h, by simp [h]⟩
    · cases hq : idB d.top
      · exact .inr (.inl ⟨by simpa using h, rfl⟩)
      · exact .inr (.inr ⟨by simpa using h, rfl⟩)
  have hid := fun w => specId d.top w
  rcases htc with ⟨ht0, ht1⟩ | ⟨ht1, ht2⟩ | ⟨ht1, ht2⟩
  · have HT0 := hide ht0
    clear ht0
    go_enter Try.func17, Try.ntmps17
    go_wp2_with fail
    refine (specIn _ _ _ _).mono ?_; rw [hlim]; rintro e w1 ⟨rfl, hsame⟩; obtain rfl := hsame.symm; clear hsame
    by_cases h60 : (60 : Int) < d.es.length
    · have HF : Hid (A = false) := by show A = false; rw [← HA.out]; exact ok_false fun c => by have := c.2.2.1; omega
      go_wp2_with fail
      go_ret
      exact ⟨by rw [HF.out]; rfl, (by repeat' (first | (with_reducible exact Below.refl _ _) | (with_reducible refine Below.drew ?_) | (with_reducible refine bo_drewN _ ?_) | (with_reducible refine bo_alloc ?_ _) | (refine bchain ?_ (by with_reducible assumption)) | (with_reducible refine Below.setCell ?_ ?_ _) | go_size))⟩
    have HTOP : Hid (d.top = 0 ∨ idB d.top = true) := .inl HT0.out
    have HLIM := hide (inB_true hlim)
    clear hid
    have hbx : Below w.heap.size w (w.alloc (.cells #[.int .i64 d.lim, .int .i64 d.top, .slice ad d.es.length cap] 35)) := (Below.refl _ _).alloc (Nat.le_refl _) _
    have HX : Hid (RowIs (w.alloc (.cells #[.int .i64 d.lim, .int .i64 d.top, .slice ad d.es.length cap] 35)) w.heap.size 35 [.int .i64 d.lim, .int .i64 d.top, .slice ad d.es.length cap]) := rowIs_new w 35 [.int .i64 d.lim, .int .i64 d.top, .slice ad d.es.length cap]
    go_wp2_with fail
    go_loopw [3, 4] (fun n i wr => ∃ (k : Nat), i = .int .i64 k ∧ k ≤ d.es.length ∧ n = .int .i64 (liveL (d.es.take k)) ∧ Hid (∀ j (hj : j < d.es.length), j < k → entOk d.top d.es[j] = true ∧ (0 < j → (d.es[j - 1]'(by omega)).id < d.es[j].id)) ∧ Hid (RowIs wr w.heap.size 35 [.int .i64 d.lim, .int .i64 d.top, .slice ad d.es.length cap]) ∧ Hid (Below w.heap.size w wr)) (fun _ i _ => d.es.length - (intOf i).toNat)
    case atStart => exact ⟨0, rfl, Nat.zero_le _, rfl, fun j _ hj => absurd hj (Nat.not_lt_zero _), HX, hbx⟩
    case round =>
      clear HX hbx
      obtain ⟨k, rfl, hk, rfl, HC, HX, HB⟩ := hrel
      by_cases hlt : k < d.es.length
      · obtain ⟨b, o, cs, rfl, hbw, rfl, hc⟩ := (HR.out.new HB.out).at k hlt
        have c0 : wr.cell? ⟨b, o + k * 2, none⟩ = some (.int .i64 d.es[k].id) := hc 0 _ rfl
        have c1 : wr.cell? ⟨b, o + k * 2 + 1, none⟩ = some (.int .i64 d.es[k].state) := hc 1 _ rfl
        clear hc
        have x2 := HX.out.cell (j := 2) rfl
        have hlX := HX.out.lt
        have hlk := sum_take lv1 d.es k hlt
        have hll := live_le (d.es.take k)
        have hln := live_nn (d.es.take k)
        have hlk2 : (d.es.take k).length ≤ k := by rw [List.length_take]; omega
        have HLV : Hid (liveL (d.es.take (k + 1)) = liveL (d.es.take k) + lv1 d.es[k]) := hlk
        generalize liveL (d.es.take k) = q at *
        obtain ⟨e, he⟩ : ∃ e, d.es[k] = e := ⟨_, rfl⟩
        rw [he] at c0 c1
        have HE := hide he
        clear he hlk
        go_upto_region 8 with fail
        have hbe : Below wr.heap.size wr (wr.alloc (.cells #[.int .i64 e.id, .int .i64 e.state] 62)) := (Below.refl _ _).alloc (Nat.le_refl _) _
        have hre : RowIs (wr.alloc (.cells #[.int .i64 e.id, .int .i64 e.state] 62)) wr.heap.size 62 [.int .i64 e.id, .int .i64 e.state] := rowIs_new wr 62 [.int .i64 e.id, .int .i64 e.state]
        generalize wr.alloc (.cells #[.int .i64 e.id, .int .i64 e.state] 62) = X at *
        replace HX := hide (HX.out.new hbe)
        replace HB := hide (bchain HB.out hbe)
        have hre0 := hre.cell (j := 0) rfl
        have hre1 := hre.cell (j := 1) rfl
        have hlE := hre.lt
        have hx1 := HX.out.cell (j := 1) rfl
        have hx2 := HX.out.cell (j := 2) rfl
        have hlX2 := HX.out.lt
        generalize wr.heap.size = ge at *
        have qe0 : ∀ y : Later X, y.w.cell? ⟨ge, 0, none⟩ = some (.int .i64 e.id) := fun y => (y.b.cell (p := ⟨ge, 0, none⟩) hlE).trans hre0
        have qe1 : ∀ y : Later X, y.w.cell? ⟨ge, 1, none⟩ = some (.int .i64 e.state) := fun y => (y.b.cell (p := ⟨ge, 1, none⟩) hlE).trans hre1
        have qx1 : ∀ y : Later X, y.w.cell? ⟨w.heap.size, 1, none⟩ = some (.int .i64 d.top) := fun y => (y.b.cell (p := ⟨w.heap.size, 1, none⟩) hlX2).trans hx1
        have qx2 : ∀ y : Later X, y.w.cell? ⟨w.heap.size, 2, none⟩ = some (.slice (some ⟨b, o, none⟩) d.es.length cap) := fun y => (y.b.cell (p := ⟨w.heap.size, 2, none⟩) hlX2).trans hx2
        clear c0 c1 x2 hlX hbe hre hre0 hre1 hx1 hx2
        have hI := fun w => specId e.id w
        have hS := fun w => specIn e.state 1 4 w
        cases hi : idB e.id
        · rw [hi] at hI
          have HF : Hid (A = false) := by
            show A = false
            rw [← HA.out]
            refine ok_false fun c => ?_
            have hck := c.2.2.2.1 k hlt
            rw [HE.out] at hck
            have hek := entOk_iff.1 hck.1
            rw [hi] at hek; simp at hek
          have hne : Nonempty (Later X) := ⟨⟨X, Below.refl _ _⟩⟩; refine region_later (by kernel_rfl) (by kernel_rfl) ?_
          repeat (go_big_quiet_step (fail))
          go_big_quiet_want; go_big_quiet_op; refine ⟨.bool false, fun y => later_same (x := y) (hI y.w), ?_⟩; go_big_quiet_on
          repeat (go_big_quiet_step (fail))
          refine wpQuiet_nil ?_; intro _ hw'; obtain ⟨y, hw''⟩ := hw'; subst hw''; have hby := y.b
          go_wp2_with fail
          go_ret
          exact ⟨by rw [HF.out]; rfl, bchain HB.out hby⟩
        rw [hi] at hI
        by_cases htp : d.top < e.id
        · have HF : Hid (A = false) := by
            show A = false
            rw [← HA.out]
            refine ok_false fun c => ?_
            have hck := c.2.2.2.1 k hlt
            rw [HE.out] at hck
            have hek := entOk_iff.1 hck.1
            omega
          have hne : Nonempty (Later X) := ⟨⟨X, Below.refl _ _⟩⟩; refine region_later (by kernel_rfl) (by kernel_rfl) ?_
          repeat (go_big_quiet_step (fail))
          go_big_quiet_want; go_big_quiet_op; refine ⟨.bool true, fun y => later_same (x := y) (hI y.w), ?_⟩; go_big_quiet_on
          repeat (go_big_quiet_step (fail))
          refine wpQuiet_nil ?_; intro _ hw'; obtain ⟨y, hw''⟩ := hw'; subst hw''; have hby := y.b
          go_wp2_with fail
          go_ret
          exact ⟨by rw [HF.out]; rfl, bchain HB.out hby⟩
        cases hs : inB e.state 1 4
        · rw [hs] at hS
          have HF : Hid (A = false) := by
            show A = false
            rw [← HA.out]
            refine ok_false fun c => ?_
            have hck := c.2.2.2.1 k hlt
            rw [HE.out] at hck
            have hek := entOk_iff.1 hck.1
            exact inB_false hs hek.2.2
          have hne : Nonempty (Later X) := ⟨⟨X, Below.refl _ _⟩⟩; refine region_later (by kernel_rfl) (by kernel_rfl) ?_
          repeat (go_big_quiet_step (fail))
          go_big_quiet_want; go_big_quiet_op; refine ⟨.bool true, fun y => later_same (x := y) (hI y.w), ?_⟩; go_big_quiet_on
          repeat (go_big_quiet_step (fail))
          go_big_quiet_want; go_big_quiet_op; refine ⟨.bool false, fun y => later_same (x := y) (hS y.w), ?_⟩; go_big_quiet_on
          repeat (go_big_quiet_step (fail))
          refine wpQuiet_nil ?_; intro _ hw'; obtain ⟨y, hw''⟩ := hw'; subst hw''; have hby := y.b
          go_wp2_with fail
          go_ret
          exact ⟨by rw [HF.out]; rfl, bchain HB.out hby⟩
        rw [hs] at hS
        have HEK : Hid (entOk d.top d.es[k] = true) := by show _ = true; rw [HE.out]; exact entOk_iff.2 ⟨hi, by omega, inB_true hs⟩
        cases k with
        | zero =>
          have hk0 : decide ((0 : Int) < ((0 : Nat) : Int)) = false := rfl
          have hne : Nonempty (Later X) := ⟨⟨X, Below.refl _ _⟩⟩; refine region_later (by kernel_rfl) (by kernel_rfl) ?_
          repeat (go_big_quiet_step (fail))
          go_big_quiet_want; go_big_quiet_op; refine ⟨.bool true, fun y => later_same (x := y) (hI y.w), ?_⟩; go_big_quiet_on
          repeat (go_big_quiet_step (fail))
          go_big_quiet_want; go_big_quiet_op; refine ⟨.bool true, fun y => later_same (x := y) (hS y.w), ?_⟩; go_big_quiet_on
          repeat (go_big_quiet_step (fail))
          refine wpQuiet_nil ?_; intro _ hw'; obtain ⟨y, hw''⟩ := hw'; subst hw''; have hby := y.b
          have HC2 : Hid (∀ j (hj : j < d.es.length), j < 0 + 1 → entOk d.top d.es[j] = true ∧ (0 < j → (d.es[j - 1]'(by omega)).id < d.es[j].id)) := fun j hj hjk => by
            by_cases ej : j = 0
            · subst ej; exact ⟨HEK.out, fun h => absurd h (Nat.lt_irrefl _)⟩
            · exact HC.out j hj (by omega)
          have qq1 := qe1 y
          have HX2 := hide (HX.out.new hby)
          have HB2 := hide (bchain HB.out hby)
          have hlE2 := Nat.lt_of_lt_of_le hlE hby.size
          clear qe0 qe1 qx1 qx2 hne
          by_cases h4 : e.state = 4
          · have H4 : Hid (lv1 d.es[0] = 0) := by show lv1 _ = 0; unfold lv1; rw [HE.out, if_pos h4]
            have h4' : (e.state != 4) = false := by simp [h4]
            clear h4
            go_wp2_with fail
            go_roundw
            case rel => exact ⟨0 + 1, by go_num, by omega, int_eq (by have := HLV.out; have := H4.out; omega), HC2, HX2, HB2⟩
            case measure => simp [intOf]; omega
          · have H4 : Hid (lv1 d.es[0] = 1) := by show lv1 _ = 1; unfold lv1; rw [HE.out, if_neg h4]
            have h4' : (e.state != 4) = true := by simpa using h4
            clear h4
            go_wp2_with fail
            go_roundw
            case rel => exact ⟨0 + 1, by go_num, by omega, int_eq (by have := HLV.out; have := H4.out; omega), HC2, HX2, HB2⟩
            case measure => simp [intOf]; omega
        | succ k =>
          have hkp : decide ((0 : Int) < ((k + 1 : Nat) : Int)) = true := decide_eq_true (by omega)
          obtain ⟨b', o', cs', hbo, hbw', rfl, hc'⟩ := (HR.out.new HB.out).at k (by omega)
          simp only [Option.some.injEq, Addr.mk.injEq] at hbo
          obtain ⟨rfl, rfl, -⟩ := hbo
          have hp0 : X.cell? ⟨b, o + k * 2, none⟩ = some (.int .i64 (d.es[k]'(by omega)).id) := hc' 0 _ rfl
          clear hc'
          obtain ⟨pe, hpe⟩ : ∃ pe, (d.es[k]'(by omega)).id = pe := ⟨_, rfl⟩
          rw [hpe] at hp0
          have HPE := hide hpe
          clear hpe
          have qp0 : ∀ y : Later X, y.w.cell? ⟨b, o + k * 2, none⟩ = some (.int .i64 pe) := fun y => (y.b.cell (p := ⟨b, o + k * 2, none⟩) hbw').trans hp0
          clear hp0
          by_cases hpr : e.id ≤ pe
          · have HF : Hid (A = false) := by
              show A = false
              rw [← HA.out]
              refine ok_false fun c => ?_
              have hck := c.2.2.2.1 (k + 1) hlt
              rw [HE.out] at hck
              have hek := entOk_iff.1 hck.1
              have h3 := hck.2 (by omega)
              simp only [Nat.add_sub_cancel] at h3
              rw [HPE.out] at h3
              omega
            have hne : Nonempty (Later X) := ⟨⟨X, Below.refl _ _⟩⟩; refine region_later (by kernel_rfl) (by kernel_rfl) ?_
            repeat (go_big_quiet_step (fail))
            go_big_quiet_want; go_big_quiet_op; refine ⟨.bool true, fun y => later_same (x := y) (hI y.w), ?_⟩; go_big_quiet_on
            repeat (go_big_quiet_step (fail))
            go_big_quiet_want; go_big_quiet_op; refine ⟨.bool true, fun y => later_same (x := y) (hS y.w), ?_⟩; go_big_quiet_on
            repeat (go_big_quiet_step (fail))
            refine wpQuiet_nil ?_; intro _ hw'; obtain ⟨y, hw''⟩ := hw'; subst hw''; have hby := y.b
            go_wp2_with fail
            go_ret
            exact ⟨by rw [HF.out]; rfl, bchain HB.out hby⟩
          · have hne : Nonempty (Later X) := ⟨⟨X, Below.refl _ _⟩⟩; refine region_later (by kernel_rfl) (by kernel_rfl) ?_
            repeat (go_big_quiet_step (fail))
            go_big_quiet_want; go_big_quiet_op; refine ⟨.bool true, fun y => later_same (x := y) (hI y.w), ?_⟩; go_big_quiet_on
            repeat (go_big_quiet_step (fail))
            go_big_quiet_want; go_big_quiet_op; refine ⟨.bool true, fun y => later_same (x := y) (hS y.w), ?_⟩; go_big_quiet_on
            repeat (go_big_quiet_step (fail))
            refine wpQuiet_nil ?_; intro _ hw'; obtain ⟨y, hw''⟩ := hw'; subst hw''; have hby := y.b
            have HC2 : Hid (∀ j (hj : j < d.es.length), j < k + 1 + 1 → entOk d.top d.es[j] = true ∧ (0 < j → (d.es[j - 1]'(by omega)).id < d.es[j].id)) := fun j hj hjk => by
              by_cases ej : j = k + 1
              · subst ej; exact ⟨HEK.out, fun h => by have h3 := HPE.out; have h4 := HE.out; simp only [Nat.add_sub_cancel]; rw [h3, h4]; omega⟩
              · exact HC.out j hj (by omega)
            have qq1 := qe1 y
            have HX2 := hide (HX.out.new hby)
            have HB2 := hide (bchain HB.out hby)
            have hlE2 := Nat.lt_of_lt_of_le hlE hby.size
            clear qe0 qe1 qx1 qx2 qp0 hne
            by_cases h4 : e.state = 4
            · have H4 : Hid (lv1 d.es[k + 1] = 0) := by show lv1 _ = 0; unfold lv1; rw [HE.out, if_pos h4]
              have h4' : (e.state != 4) = false := by simp [h4]
              clear h4
              go_wp2_with fail
              go_roundw
              case rel => exact ⟨k + 1 + 1, by go_num, by omega, int_eq (by have := HLV.out; have := H4.out; omega), HC2, HX2, HB2⟩
              case measure => simp [intOf]; omega
            · have H4 : Hid (lv1 d.es[k + 1] = 1) := by show lv1 _ = 1; unfold lv1; rw [HE.out, if_neg h4]
              have h4' : (e.state != 4) = true := by simpa using h4
              clear h4
              go_wp2_with fail
              go_roundw
              case rel => exact ⟨k + 1 + 1, by go_num, by omega, int_eq (by have := HLV.out; have := H4.out; omega), HC2, HX2, HB2⟩
              case measure => simp [intOf]; omega
      · obtain rfl : k = d.es.length := by omega
        rw [List.take_length]
        have x0 := HX.out.cell (j := 0) rfl
        have x2 := HX.out.cell (j := 2) rfl
        have hlX := HX.out.lt
        have HOK : Hid (A = decide (liveL d.es ≤ d.lim)) := by
          show A = _
          rw [← HA.out]
          by_cases hl : liveL d.es ≤ d.lim
          · rw [decide_eq_true hl]; exact okRg_iff.2 ⟨HLIM.out, HTOP.out, by omega, fun j hj => HC.out j hj hj, hl⟩
          · rw [decide_eq_false hl]; exact ok_false fun c => hl c.2.2.2.2
        go_wp2_with fail
        go_ret
        exact ⟨by rw [HOK.out]; rfl, HB.out⟩
  · have HF : Hid (A = false) := by show A = false; rw [← HA.out]; exact ok_false fun c => c.2.1.elim (fun h => by simp [h] at ht1) (fun h => by rw [ht2] at h; cases h)
    rw [ht2] at hid
    go_enter Try.func17, Try.ntmps17; go_wp2_with fail; refine (specIn _ _ _ _).mono ?_; rw [hlim]; rintro e w1 ⟨rfl, hsame⟩; obtain rfl := hsame.symm; clear hsame; go_wp2_with fail
    refine (hid _).mono ?_; rintro e w2 ⟨rfl, hsame⟩; obtain rfl := hsame.symm; clear hsame
    go_wp2_with fail
    go_ret
    exact ⟨by rw [HF.out]; rfl, (by repeat' (first | (with_reducible exact Below.refl _ _) | (with_reducible refine Below.drew ?_) | (with_reducible refine bo_drewN _ ?_) | (with_reducible refine bo_alloc ?_ _) | (refine bchain ?_ (by with_reducible assumption)) | (with_reducible refine Below.setCell ?_ ?_ _) | go_size))⟩
  · rw [ht2] at hid
    go_enter Try.func17, Try.ntmps17; go_wp2_with fail; refine (specIn _ _ _ _).mono ?_; rw [hlim]; rintro e w1 ⟨rfl, hsame⟩; obtain rfl := hsame.symm; clear hsame; go_wp2_with fail
    refine (hid _).mono ?_; rintro e w2 ⟨rfl, hsame⟩; obtain rfl := hsame.symm; clear hsame
    by_cases h60 : (60 : Int) < d.es.length
    · have HF : Hid (A = false) := by show A = false; rw [← HA.out]; exact ok_false fun c => by have := c.2.2.1; omega
      go_wp2_with fail
      go_ret
      exact ⟨by rw [HF.out]; rfl, (by repeat' (first | (with_reducible exact Below.refl _ _) | (with_reducible refine Below.drew ?_) | (with_reducible refine bo_drewN _ ?_) | (with_reducible refine bo_alloc ?_ _) | (refine bchain ?_ (by with_reducible assumption)) | (with_reducible refine Below.setCell ?_ ?_ _) | go_size))⟩
    have HTOP : Hid (d.top = 0 ∨ idB d.top = true) := .inr ht2
    have HLIM := hide (inB_true hlim)
    clear hid
    have hbx : Below w.heap.size w (w.alloc (.cells #[.int .i64 d.lim, .int .i64 d.top, .slice ad d.es.length cap] 35)) := (Below.refl _ _).alloc (Nat.le_refl _) _
    have HX : Hid (RowIs (w.alloc (.cells #[.int .i64 d.lim, .int .i64 d.top, .slice ad d.es.length cap] 35)) w.heap.size 35 [.int .i64 d.lim, .int .i64 d.top, .slice ad d.es.length cap]) := rowIs_new w 35 [.int .i64 d.lim, .int .i64 d.top, .slice ad d.es.length cap]
    go_wp2_with fail
    go_loopw [3, 4] (fun n i wr => ∃ (k : Nat), i = .int .i64 k ∧ k ≤ d.es.length ∧ n = .int .i64 (liveL (d.es.take k)) ∧ Hid (∀ j (hj : j < d.es.length), j < k → entOk d.top d.es[j] = true ∧ (0 < j → (d.es[j - 1]'(by omega)).id < d.es[j].id)) ∧ Hid (RowIs wr w.heap.size 35 [.int .i64 d.lim, .int .i64 d.top, .slice ad d.es.length cap]) ∧ Hid (Below w.heap.size w wr)) (fun _ i _ => d.es.length - (intOf i).toNat)
    case atStart => exact ⟨0, rfl, Nat.zero_le _, rfl, fun j _ hj => absurd hj (Nat.not_lt_zero _), HX, hbx⟩
    case round =>
      clear HX hbx
      obtain ⟨k, rfl, hk, rfl, HC, HX, HB⟩ := hrel
      by_cases hlt : k < d.es.length
      · obtain ⟨b, o, cs, rfl, hbw, rfl, hc⟩ := (HR.out.new HB.out).at k hlt
        have c0 : wr.cell? ⟨b, o + k * 2, none⟩ = some (.int .i64 d.es[k].id) := hc 0 _ rfl
        have c1 : wr.cell? ⟨b, o + k * 2 + 1, none⟩ = some (.int .i64 d.es[k].state) := hc 1 _ rfl
        clear hc
        have x2 := HX.out.cell (j := 2) rfl
        have hlX := HX.out.lt
        have hlk := sum_take lv1 d.es k hlt
        have hll := live_le (d.es.take k)
        have hln := live_nn (d.es.take k)
        have hlk2 : (d.es.take k).length ≤ k := by rw [List.length_take]; omega
        have HLV : Hid (liveL (d.es.take (k + 1)) = liveL (d.es.take k) + lv1 d.es[k]) := hlk
        generalize liveL (d.es.take k) = q at *
        obtain ⟨e, he⟩ : ∃ e, d.es[k] = e := ⟨_, rfl⟩
        rw [he] at c0 c1
        have HE := hide he
        clear he hlk
        go_upto_region 8 with fail
        have hbe : Below wr.heap.size wr (wr.alloc (.cells #[.int .i64 e.id, .int .i64 e.state] 62)) := (Below.refl _ _).alloc (Nat.le_refl _) _
        have hre : RowIs (wr.alloc (.cells #[.int .i64 e.id, .int .i64 e.state] 62)) wr.heap.size 62 [.int .i64 e.id, .int .i64 e.state] := rowIs_new wr 62 [.int .i64 e.id, .int .i64 e.state]
        generalize wr.alloc (.cells #[.int .i64 e.id, .int .i64 e.state] 62) = X at *
        replace HX := hide (HX.out.new hbe)
        replace HB := hide (bchain HB.out hbe)
        have hre0 := hre.cell (j := 0) rfl
        have hre1 := hre.cell (j := 1) rfl
        have hlE := hre.lt
        have hx1 := HX.out.cell (j := 1) rfl
        have hx2 := HX.out.cell (j := 2) rfl
        have hlX2 := HX.out.lt
        generalize wr.heap.size = ge at *
        have qe0 : ∀ y : Later X, y.w.cell? ⟨ge, 0, none⟩ = some (.int .i64 e.id) := fun y => (y.b.cell (p := ⟨ge, 0, none⟩) hlE).trans hre0
        have qe1 : ∀ y : Later X, y.w.cell? ⟨ge, 1, none⟩ = some (.int .i64 e.state) := fun y => (y.b.cell (p := ⟨ge, 1, none⟩) hlE).trans hre1
        have qx1 : ∀ y : Later X, y.w.cell? ⟨w.heap.size, 1, none⟩ = some (.int .i64 d.top) := fun y => (y.b.cell (p := ⟨w.heap.size, 1, none⟩) hlX2).trans hx1
        have qx2 : ∀ y : Later X, y.w.cell? ⟨w.heap.size, 2, none⟩ = some (.slice (some ⟨b, o, none⟩) d.es.length cap) := fun y => (y.b.cell (p := ⟨w.heap.size, 2, none⟩) hlX2).trans hx2
        clear c0 c1 x2 hlX hbe hre hre0 hre1 hx1 hx2
        have hI := fun w => specId e.id w
        have hS := fun w => specIn e.state 1 4 w
        cases hi : idB e.id
        · rw [hi] at hI
          have HF : Hid (A = false) := by
            show A = false
            rw [← HA.out]
            refine ok_false fun c => ?_
            have hck := c.2.2.2.1 k hlt
            rw [HE.out] at hck
            have hek := entOk_iff.1 hck.1
            rw [hi] at hek; simp at hek
          have hne : Nonempty (Later X) := ⟨⟨X, Below.refl _ _⟩⟩; refine region_later (by kernel_rfl) (by kernel_rfl) ?_
          repeat (go_big_quiet_step (fail))
          go_big_quiet_want; go_big_quiet_op; refine ⟨.bool false, fun y => later_same (x := y) (hI y.w), ?_⟩; go_big_quiet_on
          repeat (go_big_quiet_step (fail))
          refine wpQuiet_nil ?_; intro _ hw'; obtain ⟨y, hw''⟩ := hw'; subst hw''; have hby := y.b
          go_wp2_with fail
          go_ret
          exact ⟨by rw [HF.out]; rfl, bchain HB.out hby⟩
        rw [hi] at hI
        by_cases htp : d.top < e.id
        · have HF : Hid (A = false) := by
            show A = false
            rw [← HA.out]
            refine ok_false fun c => ?_
            have hck := c.2.2.2.1 k hlt
            rw [HE.out] at hck
            have hek := entOk_iff.1 hck.1
            omega
          have hne : Nonempty (Later X) := ⟨⟨X, Below.refl _ _⟩⟩; refine region_later (by kernel_rfl) (by kernel_rfl) ?_
          repeat (go_big_quiet_step (fail))
          go_big_quiet_want; go_big_quiet_op; refine ⟨.bool true, fun y => later_same (x := y) (hI y.w), ?_⟩; go_big_quiet_on
          repeat (go_big_quiet_step (fail))
          refine wpQuiet_nil ?_; intro _ hw'; obtain ⟨y, hw''⟩ := hw'; subst hw''; have hby := y.b
          go_wp2_with fail
          go_ret
          exact ⟨by rw [HF.out]; rfl, bchain HB.out hby⟩
        cases hs : inB e.state 1 4
        · rw [hs] at hS
          have HF : Hid (A = false) := by
            show A = false
            rw [← HA.out]
            refine ok_false fun c => ?_
            have hck := c.2.2.2.1 k hlt
            rw [HE.out] at hck
            have hek := entOk_iff.1 hck.1
            exact inB_false hs hek.2.2
          have hne : Nonempty (Later X) := ⟨⟨X, Below.refl _ _⟩⟩; refine region_later (by kernel_rfl) (by kernel_rfl) ?_
          repeat (go_big_quiet_step (fail))
          go_big_quiet_want; go_big_quiet_op; refine ⟨.bool true, fun y => later_same (x := y) (hI y.w), ?_⟩; go_big_quiet_on
          repeat (go_big_quiet_step (fail))
          go_big_quiet_want; go_big_quiet_op; refine ⟨.bool false, fun y => later_same (x := y) (hS y.w), ?_⟩; go_big_quiet_on
          repeat (go_big_quiet_step (fail))
          refine wpQuiet_nil ?_; intro _ hw'; obtain ⟨y, hw''⟩ := hw'; subst hw''; have hby := y.b
          go_wp2_with fail
          go_ret
          exact ⟨by rw [HF.out]; rfl, bchain HB.out hby⟩
        rw [hs] at hS
        have HEK : Hid (entOk d.top d.es[k] = true) := by show _ = true; rw [HE.out]; exact entOk_iff.2 ⟨hi, by omega, inB_true hs⟩
        cases k with
        | zero =>
          have hk0 : decide ((0 : Int) < ((0 : Nat) : Int)) = false := rfl
          have hne : Nonempty (Later X) := ⟨⟨X, Below.refl _ _⟩⟩; refine region_later (by kernel_rfl) (by kernel_rfl) ?_
          repeat (go_big_quiet_step (fail))
          go_big_quiet_want; go_big_quiet_op; refine ⟨.bool true, fun y => later_same (x := y) (hI y.w), ?_⟩; go_big_quiet_on
          repeat (go_big_quiet_step (fail))
          go_big_quiet_want; go_big_quiet_op; refine ⟨.bool true, fun y => later_same (x := y) (hS y.w), ?_⟩; go_big_quiet_on
          repeat (go_big_quiet_step (fail))
          refine wpQuiet_nil ?_; intro _ hw'; obtain ⟨y, hw''⟩ := hw'; subst hw''; have hby := y.b
          have HC2 : Hid (∀ j (hj : j < d.es.length), j < 0 + 1 → entOk d.top d.es[j] = true ∧ (0 < j → (d.es[j - 1]'(by omega)).id < d.es[j].id)) := fun j hj hjk => by
            by_cases ej : j = 0
            · subst ej; exact ⟨HEK.out, fun h => absurd h (Nat.lt_irrefl _)⟩
            · exact HC.out j hj (by omega)
          have qq1 := qe1 y
          have HX2 := hide (HX.out.new hby)
          have HB2 := hide (bchain HB.out hby)
          have hlE2 := Nat.lt_of_lt_of_le hlE hby.size
          clear qe0 qe1 qx1 qx2 hne
          by_cases h4 : e.state = 4
          · have H4 : Hid (lv1 d.es[0] = 0) := by show lv1 _ = 0; unfold lv1; rw [HE.out, if_pos h4]
            have h4' : (e.state != 4) = false := by simp [h4]
            clear h4
            go_wp2_with fail
            go_roundw
            case rel => exact ⟨0 + 1, by go_num, by omega, int_eq (by have := HLV.out; have := H4.out; omega), HC2, HX2, HB2⟩
            case measure => simp [intOf]; omega
          · have H4 : Hid (lv1 d.es[0] = 1) := by show lv1 _ = 1; unfold lv1; rw [HE.out, if_neg h4]
            have h4' : (e.state != 4) = true := by simpa using h4
            clear h4
            go_wp2_with fail
            go_roundw
            case rel => exact ⟨0 + 1, by go_num, by omega, int_eq (by have := HLV.out; have := H4.out; omega), HC2, HX2, HB2⟩
            case measure => simp [intOf]; omega
        | succ k =>
          have hkp : decide ((0 : Int) < ((k + 1 : Nat) : Int)) = true := decide_eq_true (by omega)
          obtain ⟨b', o', cs', hbo, hbw', rfl, hc'⟩ := (HR.out.new HB.out).at k (by omega)
          simp only [Option.some.injEq, Addr.mk.injEq] at hbo
          obtain ⟨rfl, rfl, -⟩ := hbo
          have hp0 : X.cell? ⟨b, o + k * 2, none⟩ = some (.int .i64 (d.es[k]'(by omega)).id) := hc' 0 _ rfl
          clear hc'
          obtain ⟨pe, hpe⟩ : ∃ pe, (d.es[k]'(by omega)).id = pe := ⟨_, rfl⟩
          rw [hpe] at hp0
          have HPE := hide hpe
          clear hpe
          have qp0 : ∀ y : Later X, y.w.cell? ⟨b, o + k * 2, none⟩ = some (.int .i64 pe) := fun y => (y.b.cell (p := ⟨b, o + k * 2, none⟩) hbw').trans hp0
          clear hp0
          by_cases hpr : e.id ≤ pe
          · have HF : Hid (A = false) := by
              show A = false
              rw [← HA.out]
              refine ok_false fun c => ?_
              have hck := c.2.2.2.1 (k + 1) hlt
              rw [HE.out] at hck
              have hek := entOk_iff.1 hck.1
              have h3 := hck.2 (by omega)
              simp only [Nat.add_sub_cancel] at h3
              rw [HPE.out] at h3
              omega
            have hne : Nonempty (Later X) := ⟨⟨X, Below.refl _ _⟩⟩; refine region_later (by kernel_rfl) (by kernel_rfl) ?_
            repeat (go_big_quiet_step (fail))
            go_big_quiet_want; go_big_quiet_op; refine ⟨.bool true, fun y => later_same (x := y) (hI y.w), ?_⟩; go_big_quiet_on
            repeat (go_big_quiet_step (fail))
            go_big_quiet_want; go_big_quiet_op; refine ⟨.bool true, fun y => later_same (x := y) (hS y.w), ?_⟩; go_big_quiet_on
            repeat (go_big_quiet_step (fail))
            refine wpQuiet_nil ?_; intro _ hw'; obtain ⟨y, hw''⟩ := hw'; subst hw''; have hby := y.b
            go_wp2_with fail
            go_ret
            exact ⟨by rw [HF.out]; rfl, bchain HB.out hby⟩
          · have hne : Nonempty (Later X) := ⟨⟨X, Below.refl _ _⟩⟩; refine region_later (by kernel_rfl) (by kernel_rfl) ?_
            repeat (go_big_quiet_step (fail))
            go_big_quiet_want; go_big_quiet_op; refine ⟨.bool true, fun y => later_same (x := y) (hI y.w), ?_⟩; go_big_quiet_on
            repeat (go_big_quiet_step (fail))
            go_big_quiet_want; go_big_quiet_op; refine ⟨.bool true, fun y => later_same (x := y) (hS y.w), ?_⟩; go_big_quiet_on
            repeat (go_big_quiet_step (fail))
            refine wpQuiet_nil ?_; intro _ hw'; obtain ⟨y, hw''⟩ := hw'; subst hw''; have hby := y.b
            have HC2 : Hid (∀ j (hj : j < d.es.length), j < k + 1 + 1 → entOk d.top d.es[j] = true ∧ (0 < j → (d.es[j - 1]'(by omega)).id < d.es[j].id)) := fun j hj hjk => by
              by_cases ej : j = k + 1
              · subst ej; exact ⟨HEK.out, fun h => by have h3 := HPE.out; have h4 := HE.out; simp only [Nat.add_sub_cancel]; rw [h3, h4]; omega⟩
              · exact HC.out j hj (by omega)
            have qq1 := qe1 y
            have HX2 := hide (HX.out.new hby)
            have HB2 := hide (bchain HB.out hby)
            have hlE2 := Nat.lt_of_lt_of_le hlE hby.size
            clear qe0 qe1 qx1 qx2 qp0 hne
            by_cases h4 : e.state = 4
            · have H4 : Hid (lv1 d.es[k + 1] = 0) := by show lv1 _ = 0; unfold lv1; rw [HE.out, if_pos h4]
              have h4' : (e.state != 4) = false := by simp [h4]
              clear h4
              go_wp2_with fail
              go_roundw
              case rel => exact ⟨k + 1 + 1, by go_num, by omega, int_eq (by have := HLV.out; have := H4.out; omega), HC2, HX2, HB2⟩
              case measure => simp [intOf]; omega
            · have H4 : Hid (lv1 d.es[k + 1] = 1) := by show lv1 _ = 1; unfold lv1; rw [HE.out, if_neg h4]
              have h4' : (e.state != 4) = true := by simpa using h4
              clear h4
              go_wp2_with fail
              go_roundw
              case rel => exact ⟨k + 1 + 1, by go_num, by omega, int_eq (by have := HLV.out; have := H4.out; omega), HC2, HX2, HB2⟩
              case measure => simp [intOf]; omega
      · obtain rfl : k = d.es.length := by omega
        rw [List.take_length]
        have x0 := HX.out.cell (j := 0) rfl
        have x2 := HX.out.cell (j := 2) rfl
        have hlX := HX.out.lt
        have HOK : Hid (A = decide (liveL d.es ≤ d.lim)) := by
          show A = _
          rw [← HA.out]
          by_cases hl : liveL d.es ≤ d.lim
          · rw [decide_eq_true hl]; exact okRg_iff.2 ⟨HLIM.out, HTOP.out, by omega, fun j hj => HC.out j hj hj, hl⟩
          · rw [decide_eq_false hl]; exact ok_false fun c => hl c.2.2.2.2
        go_wp2_with fail
        go_ret
        exact ⟨by rw [HOK.out]; rfl, HB.out⟩
end Go.Proofs.Ytllaeakeaabiaaa
/- The model's Table: copied, shrunk, noted in. -/
namespace Go.Proofs.Ytllaeakeaabiaaa
open Go.RowKit
set_option maxRecDepth 100000
set_option linter.unusedSimpArgs false
set_option linter.unusedVariables false

theorem owns_none (w : World) (e : TypeId) : (w.alloc (.cells #[] e)).ownsRow w.heap.size e 2 (.slice (some ⟨w.heap.size, 0, none⟩) 0 0) 0 [] :=
  ⟨rfl, .inr ⟨w.heap.size, 0, #[], rfl, Nat.le_refl _, heap_alloc_last w _, Nat.le_refl _, Nat.zero_le _, rfl, rfl⟩⟩
theorem owns_two (w : World) (e : TypeId) (f : Fd) : (w.alloc (.cells #[.string f.n, .string f.v] e)).ownsRow w.heap.size e 2 (.slice (some ⟨w.heap.size, 0, none⟩) 1 1) 1 (fv [f]) :=
  ⟨rfl, .inr ⟨w.heap.size, 1, #[.string f.n, .string f.v], rfl, Nat.le_refl _, heap_alloc_last w _, Nat.le_refl _, by unfold maxLen; omega, rfl, rfl⟩⟩
theorem owns_short {w : World} {base : Nat} {e : TypeId} {size n k cap : Nat} {ad : Option Addr} {xs : List Value} (h : w.ownsRow base e size (.slice ad n cap) n xs) (hk : k ≤ n) (h0 : 0 < n) : w.ownsRow base e size (.slice ad k cap) k (xs.take (k * size)) := by
  have hm : k * size ≤ n * size := Nat.mul_le_mul_right _ hk
  refine ⟨by rw [List.length_take, h.1]; omega, ?_⟩
  rcases h.2 with ⟨_, rfl⟩ | ⟨g, cap', cur, e1, hb, hg, h1, h2, h3, h4⟩
  · omega
  · simp only [Value.slice.injEq] at e1
    obtain ⟨rfl, _, rfl⟩ := e1
    exact .inr ⟨g, cap, cur, rfl, hb, hg, by omega, h2, h3, by rw [← h4, List.take_take, Nat.min_eq_left hm]⟩

/-- A Table in block g whose rows are owned, in blocks apart from it. -/
structure TabAt (w : World) (g base : Nat) (room : Int) (L : List Fd) : Prop where
  ex : ∃ ad cap, RowIs w g 38 [.int .i64 room, .slice ad L.length cap] ∧ w.ownsRow base 85 2 (.slice ad L.length cap) L.length (fv L) ∧ (Value.slice ad L.length cap).ownBlock ≠ some g
/-- How many rows it tells that it has. -/
def lenOf (g : Nat) (w : World) : Nat := match w.cell? ⟨g, 1, none⟩ with | some (.slice _ n _) => n | _ => 0

end Go.Proofs.Ytllaeakeaabiaaa
