/- Chapter 13's model: Shares, Level, Even. -/
import Derived.Test.YtllignhfkkeinaaShareMath
import Derived.Test.YtllignhfkkeinaaInts
import Derived.Test.YtllignhfkkeinaaMinMax
import Derived.Test.YtllignhfkkeinaaRowIs
import Derived.Test.YtllignhfkkeinaaRowNew
import Derived.Test.YtllignhfkkeinaaLater
import Derived.Deep.RegionHeld3
import Derived.Laws.OwnMore



namespace Go.Proofs.Ytllignhfkkeinaa
open Go.RowKit
set_option maxRecDepth 100000
set_option linter.unusedSimpArgs false
set_option linter.unusedVariables false
theorem made_zeros (R : Nat) (h : R ≤ 1048576) (X : World) : (Instr.makeSlice 24 (.int .i64 (R : Int)) (.int .i64 (R : Int))).run Try.prog X = .ok (.slice (some ⟨X.heap.size, 0, none⟩) R R) (X.alloc (.cells (iv (List.replicate R 0)).toArray 2)) := by
  obtain ⟨i0, hi, hz0, hz1, hz2⟩ := info_parts (P := Try.prog) (e := 2) (z := .int .i64 0) (size := 1) (bytes := 8) (by kernel_rfl)
  have h := run_make (P := Try.prog) X 24 2 i0 (.int .i64 0) Try.underlying24 hi hz0 .i64 .i64 (R : Int) (R : Int) (by omega) (by omega) (by rw [hz2]; omega) (by omega)
  rw [hz1] at h
  have e : madeCells (Value.int .i64 0).cells (R * 1) = (iv (List.replicate R 0)).toArray := by
    apply Array.toList_inj.1
    rw [show (Value.int .i64 0).cells = #[.int .i64 0] from rfl, toList_madeCells_one, Nat.mul_one]
    simp [iv]
  rw [← e]
  simpa using h
theorem iv_set (L : List Int) (k : Nat) (x : Int) : iv (L.set k x) = (iv L).set k (.int .i64 x) := by simp [iv, List.map_set]
theorem cut_zero {L : List Int} (h : ∀ j (hj : j < L.length), 0 ≤ L[j]) : cut L 0 0 = List.replicate L.length 0 := by
  apply List.ext_getElem
  · simp [cut_len]
  · intro j h1 h2
    have hj : j < L.length := by rw [cut_len] at h1; exact h1
    rw [cut_get L 0 0 j hj h1, List.getElem_replicate]
    have := h j hj
    unfold lvl
    rw [if_neg (show ¬ j < 0 by omega)]
    split <;> omega
theorem wants_no {L : List Int} {k : Nat} (hk : k < L.length) (h : inB L[k] 0 100000 = false) : wantsB L = false := by
  cases e : wantsB L
  · rfl
  · have := wantsB_get e k hk
    rw [inB_of this.1 this.2] at h
    cases h
theorem wants_yes {L : List Int} (h : ∀ j (hj : j < L.length), inB L[j] 0 100000 = true) : wantsB L = decide (1 ≤ L.length ∧ L.length ≤ 10) := by
  unfold wantsB
  have : L.all (fun x => inB x 0 100000) = true := by
    rw [List.all_eq_true]
    intro x hx
    obtain ⟨j, hj, rfl⟩ := List.getElem_of_mem hx
    exact h j hj
  rw [this, Bool.true_and]
set_option maxHeartbeats 1000000 in
theorem specWants (L : List Int) (v : Value) (w : World) (hr0 : Reads w v L.length 1 (iv L)) : Calls Try.prog 26 #[v] w fun x w' => x = .returned (.bool (wantsB L)) ∧ w' = w := by
  obtain ⟨hl, ad, cap, rfl, h1, h2, h3⟩ := hr0
  have H3 := hide h3
  clear h3
  unfold maxLen at h2
  go_enter Try.func26, Try.ntmps26
  go_wp2_with fail
  go_loop [3] (fun i => ∃ k : Nat, i = .int .i64 k ∧ k ≤ L.length ∧ Hid (∀ j (hj : j < L.length), j < k → inB L[j] 0 100000 = true)) (fun i => L.length - (intOf i).toNat)
  case atStart => exact ⟨0, rfl, Nat.zero_le _, fun j hj h => absurd h (Nat.not_lt_zero _)⟩
  case round =>
    obtain ⟨k, rfl, hk, HI⟩ := hrel
    by_cases hlt : k < L.length
    · obtain ⟨b, o, rfl, hbw, hc⟩ := H3.out (by omega)
      have hck := hc k _ (iv_get L k hlt)
      clear hc
      obtain ⟨e, he⟩ : ∃ e, L[k] = e := ⟨_, rfl⟩
      rw [he] at hck
      cases hin : inB e 0 100000
      · have HW : Hid (wantsB L = false) := wants_no hlt (by rw [he]; exact hin)
        clear he
        go_wp2_with fail
        refine (specIn _ _ _ _).mono ?_; rw [hin]; rintro e w1 ⟨rfl, hsame⟩; obtain rfl := hsame.symm; clear hsame
        go_wp2_with fail
        go_ret
        exact ⟨by rw [HW.out]; rfl, rfl⟩
      · have HI2 : Hid (∀ j (hj : j < L.length), j < k + 1 → inB L[j] 0 100000 = true) := fun j hj h => by
          by_cases hjk : j = k
          · subst hjk; rw [he]; exact hin
          · exact HI.out j hj (by omega)
        clear he
        go_wp2_with fail
        refine (specIn _ _ _ _).mono ?_; rw [hin]; rintro e w1 ⟨rfl, hsame⟩; obtain rfl := hsame.symm; clear hsame
        go_wp2_with fail
        go_round
        case rel => exact ⟨k + 1, by go_num, by omega, HI2⟩
        case measure => simp [intOf]; omega
    · have HW : Hid (wantsB L = decide (1 ≤ L.length ∧ L.length ≤ 10)) := wants_yes (fun j hj => HI.out j hj (by omega))
      by_cases c1 : 1 ≤ L.length
      · by_cases c2 : L.length ≤ 10
        · have c1' : (1 : Int) ≤ L.length := by omega
          have c2' : (L.length : Int) ≤ 10 := by omega
          go_wp2_with fail
          go_ret
          exact ⟨by rw [HW.out, decide_eq_true ⟨c1, c2⟩]; rfl, rfl⟩
        · have c1' : (1 : Int) ≤ L.length := by omega
          have c2' : ¬ (L.length : Int) ≤ 10 := by omega
          go_wp2_with fail
          go_ret
          exact ⟨by rw [HW.out, decide_eq_false (fun h => c2 h.2)]; rfl, rfl⟩
      · have c1' : ¬ (1 : Int) ≤ L.length := by omega
        go_wp2_with fail
        go_ret
        exact ⟨by rw [HW.out, decide_eq_false (fun h => c1 h.1)]; rfl, rfl⟩
def boolN : Value → Nat
  | .bool true => 1
  | _ => 0
/-- What the inner loop tells the outer one. -/
theorem cut_next {L : List Int} {q rest R0 room : Int} {i : Nat} {ag : Bool} (hi : i ≤ L.length) (hq : 0 ≤ q) (hsum : rest = room - sumI (cut L q i)) (hend : i = L.length ∨ rest = 0) (hr : 0 ≤ rest) (hR : rest ≤ R0) (ha : ag = true → rest < R0) (hn : ag = false → ∀ j (hj : j < L.length), j < i → L[j] ≤ q) :
    ∃ q' i', 0 ≤ q' ∧ cut L q i = cut L q' i' ∧ rest = room - sumI (cut L q' i') ∧ (ag = true → 0 < rest → i' = 0) ∧ (ag = false → rest = 0 ∨ cut L q' i' = L) := by
  by_cases h0 : rest = 0
  · exact ⟨q, i, hq, rfl, hsum, fun _ c => by omega, fun _ => .inl h0⟩
  · have hi' : i = L.length := by rcases hend with h | h; exact h; exact absurd h h0
    subst hi'
    refine ⟨q + 1, 0, by omega, cut_wrap L q, by rw [← cut_wrap]; exact hsum, fun _ _ => rfl, fun c => .inr ?_⟩
    rw [← cut_wrap]
    exact cut_all (fun j hj => hn c j hj hj)
theorem cut_is {L : List Int} {q rest room : Int} {i : Nat} {ag : Bool} (hq : 0 ≤ q) (hsum : rest = room - sumI (cut L q i)) (hr : 0 ≤ rest) (hend : ag = false ∨ rest = 0) (hn : ag = false → rest = 0 ∨ cut L q i = L) : IsSh L room (cut L q i) := by
  refine ⟨q, i, hq, rfl, ?_⟩
  have hle := cut_sum_le L q i
  by_cases h0 : rest = 0
  · rw [if_pos (by omega)]; omega
  · have e : cut L q i = L := by
      rcases hend with h | h
      · rcases hn h with h | h
        · exact absurd h h0
        · exact h
      · exact absurd h h0
    rw [e] at hsum ⊢
    rw [if_neg (by omega)]
set_option maxHeartbeats 2000000 in
theorem specShares (L : List Int) (v : Value) (room : Int) (w : World) (hr0 : Reads w v L.length 1 (iv L)) : Calls Try.prog 12 #[v, .int .i64 room] w fun x w' => ∃ v' s, x = .returned v' ∧ ShR L room s ∧ w'.ownsRow w.heap.size 2 1 v' s.length (iv s) ∧ Below w.heap.size w w' := by
  have HRD := hide hr0
  obtain ⟨hl, ad, cap, rfl, h1, h2, h3⟩ := hr0
  have H3 := hide h3
  clear h3
  unfold maxLen at h2
  cases hW : wantsB L
  · have hno : ShR L room [] := by unfold ShR shOk; rw [hW]; rfl
    go_enter Try.func12, Try.ntmps12
    go_wp2_with fail
    refine (specWants L _ _ HRD.out).mono ?_; rw [hW]; rintro e w1 ⟨rfl, hsame⟩; obtain rfl := hsame.symm; clear hsame
    go_wp2_with fail
    go_ret
    exact ⟨_, [], rfl, hno, owns_lit _ 2 1 0 #[] rfl (by omega), (Below.refl _ _).alloc (Nat.le_refl _) _⟩
  cases hR : inB room 0 1000000
  · have hno : ShR L room [] := by unfold ShR shOk; rw [hW, hR]; rfl
    go_enter Try.func12, Try.ntmps12
    go_wp2_with fail
    refine (specWants L _ _ HRD.out).mono ?_; rw [hW]; rintro e w1 ⟨rfl, hsame⟩; obtain rfl := hsame.symm; clear hsame
    go_wp2_with fail
    refine (specIn _ _ _ _).mono ?_; rw [hR]; rintro e w1 ⟨rfl, hsame⟩; obtain rfl := hsame.symm; clear hsame
    go_wp2_with fail
    go_ret
    exact ⟨_, [], rfl, hno, owns_lit _ 2 1 0 #[] rfl (by omega), (Below.refl _ _).alloc (Nat.le_refl _) _⟩
  obtain ⟨n0, n1⟩ := wantsB_len hW
  obtain ⟨r0, r1⟩ := inB_true hR
  have HG := hide (wantsB_get hW)
  have hmk := made_zeros L.length (by omega)
  have HYES : Hid (∀ s, IsSh L room s → ShR L room s) := fun s h => by unfold ShR shOk; rw [hW, hR]; exact h
  have RZ := rowIs_new w 2 (iv (List.replicate L.length 0))
  rw [← cut_zero (fun j hj => (wantsB_get hW j hj).1)] at RZ hmk
  go_enter Try.func12, Try.ntmps12
  go_wp2_with fail
  refine (specWants L _ _ HRD.out).mono ?_; rw [hW]; rintro e w1 ⟨rfl, hsame⟩; obtain rfl := hsame.symm; clear hsame
  go_wp2_with fail
  refine (specIn _ _ _ _).mono ?_; rw [hR]; rintro e w1 ⟨rfl, hsame⟩; obtain rfl := hsame.symm; clear hsame
  go_wp2_with fail
  have hb0 : Below w.heap.size w (w.alloc (.cells (iv (cut L 0 0)).toArray 2)) := (Below.refl _ _).alloc (Nat.le_refl _) _
  clear hmk
  generalize w.alloc (.cells (iv (cut L 0 0)).toArray 2) = W0 at *
  have hgl := RZ.lt
  obtain ⟨g, hg⟩ : ∃ g, g = w.heap.size := ⟨_, rfl⟩
  rw [← hg] at RZ hgl ⊢
  have hgw : w.heap.size ≤ g := by omega
  have HGO : Hid (∀ b, b < w.heap.size → b ≠ g) := fun b hb => by omega
  have HZ : Hid (room = room - sumI (cut L 0 0)) := by
    have : ∀ n : Nat, sumI (List.replicate n 0) = 0 := fun n => by
      induction n with
      | zero => rfl
      | succ n ih => show 0 + sumI (List.replicate n 0) = 0; omega
    show _ = _
    rw [cut_zero (fun j hj => (wantsB_get hW j hj).1), this]
    omega
  have HRZ := hide RZ
  have HB := hide hb0
  clear hg RZ hb0
  go_loopw [1, 6] (fun rm a wr => ∃ (q rest : Int) (i : Nat) (ag : Bool), rm = .int .i64 rest ∧ a = .bool ag ∧ 0 ≤ rest ∧ rest ≤ 1000000 ∧ Hid (0 ≤ q) ∧ Hid (rest = room - sumI (cut L q i)) ∧ Hid (ag = true → 0 < rest → i = 0) ∧ Hid (ag = false → rest = 0 ∨ cut L q i = L) ∧ Hid (RowIs wr g 2 (iv (cut L q i))) ∧ Hid (Below w.heap.size w wr)) (fun rm a _ => (intOf rm).toNat + boolN a)
  case atStart => exact ⟨0, room, 0, true, rfl, rfl, r0, r1, hide (Int.le_refl _), HZ, fun _ _ => rfl, fun c => (by cases c), HRZ, HB⟩
  case round =>
    clear HRZ HB HZ
    obtain ⟨q, rest, i, ag, rfl, rfl, s0, s1, HQ, HS, HI, HN, HRZ, HB⟩ := hrel
    by_cases hgo : ag = true ∧ 0 < rest
    · obtain ⟨rfl, hpos⟩ := hgo
      obtain rfl : i = 0 := HI.out rfl hpos
      clear HI HN
      go_wp2_with fail
      go_loopw [1, 6, 7] (fun rm a iv' wq => ∃ (rest' : Int) (i : Nat) (ag : Bool), rm = .int .i64 rest' ∧ a = .bool ag ∧ iv' = .int .i64 i ∧ i ≤ L.length ∧ 0 ≤ rest' ∧ rest' ≤ rest ∧ Hid (rest' = room - sumI (cut L q i)) ∧ Hid (ag = true → rest' < rest) ∧ Hid (ag = false → ∀ j (hj : j < L.length), j < i → L[j] ≤ q) ∧ Hid (RowIs wq g 2 (iv (cut L q i))) ∧ Hid (Below w.heap.size w wq)) (fun _ _ i _ => L.length - (intOf i).toNat)
      case atStart => exact ⟨rest, 0, false, rfl, rfl, rfl, Nat.zero_le _, s0, Int.le_refl _, HS, fun c => (by cases c), fun _ j hj h => absurd h (Nat.not_lt_zero _), HRZ, HB⟩
      case round =>
        clear HS HRZ HB
        obtain ⟨rest', i, ag, rfl, rfl, rfl, hi, p0, p1, HS, HA, HN, HRZ, HB⟩ := hrel
        by_cases hin : i < L.length ∧ 0 < rest'
        · obtain ⟨hiL, hp⟩ := hin
          have hiI : (i : Int) < L.length := by omega
          obtain ⟨b, o, rfl, hbw, hc⟩ := H3.out (by omega)
          have hck0 := hc i _ (iv_get L i hiL)
          have hck := (HB.out.cell (p := ⟨b, o + i, none⟩) hbw).trans hck0
          have hcl : i < (cut L q i).length := by rw [cut_len]; exact hiL
          have hco := HRZ.out.cell (j := i) (iv_get (cut L q i) i hcl)
          have hfo := HRZ.out.frozen i
          have hlo := HRZ.out.lt
          clear hc hck0
          have hce : (cut L q i)[i] = if L[i] ≤ q then L[i] else q := by
            rw [cut_get L q i i hiL hcl]
            unfold lvl
            rw [if_neg (show ¬ i < i by omega)]
          have hw0 := HG.out i hiL
          have hstep := cut_step L q i hiL
          have hsset := sumI_set (cut L q i) i hcl (if L[i] ≤ q then L[i] else q + 1)
          rw [← hstep] at hsset
          have hrow := fun x => RowIs.set HRZ.out i (.int .i64 x)
          obtain ⟨e, he⟩ : ∃ e, L[i] = e := ⟨_, rfl⟩
          obtain ⟨c, hcc⟩ : ∃ c, (cut L q i)[i] = c := ⟨_, rfl⟩
          rw [hcc] at hco hce hsset
          rw [he] at hck hce hw0 hstep hsset
          obtain ⟨e0, e1⟩ := hw0
          by_cases hlt : c < e
          · have hq : ¬ e ≤ q := fun h => by rw [if_pos h] at hce; omega
            rw [if_neg hq] at hce hstep hsset
            subst hce
            have hq0 := HQ.out
            have HS2 : Hid (rest' - 1 = room - sumI (cut L c (i + 1))) := by show _ = _; have := HS.out; omega
            have HRW : Hid (RowIs (wr.setCell ⟨g, i, none⟩ (.int .i64 (c + 1))) g 2 (iv (cut L c (i + 1)))) := by show RowIs _ _ _ _; rw [hstep, iv_set]; exact hrow (c + 1)
            have HB2 : Hid (Below w.heap.size w (wr.setCell ⟨g, i, none⟩ (.int .i64 (c + 1)))) := HB.out.setCell (p := ⟨g, i, none⟩) hgw _
            clear hstep hsset hrow HRZ hq he hcc
            go_wp2_with fail
            refine wp_region_held_drew (S := (fun u => u.cell? ⟨g, i, none⟩ = some (.int .i64 c) ∧ u.cell? ⟨b, o + i, none⟩ = some (.int .i64 e))) (by kernel_rfl) (And.intro hco hck) (fun hS => ?_)
            refine wpAnyH_take (i := 0) (v := ?_) rfl (by kernel_rfl) (by kernel_rfl) (by kernel_rfl) (fun _ _ _ h => h) (Or.inl ⟨by rfl, ?_⟩) hS ?_; rotate_left; focus (intro w hw; clear hw; go_simp; try with_reducible rfl)
            refine wpAnyH_take (i := 1) (v := ?_) rfl (by kernel_rfl) (by kernel_rfl) (by kernel_rfl) (fun _ _ _ h => h) (Or.inl ⟨by rfl, ?_⟩) hS ?_; rotate_left; focus (intro w hw; clear hw; go_simp; try with_reducible rfl)
            refine wpAnyH_take (i := 2) (v := ?_) rfl (by kernel_rfl) (by kernel_rfl) (by kernel_rfl) (fun _ _ _ h => h) (Or.inl ⟨by rfl, ?_⟩) hS ?_; rotate_left; focus (intro w hw; clear hw; go_simp; try with_reducible rfl)
            refine wpAnyH_take (i := 3) (v := ?_) rfl (by kernel_rfl) (by kernel_rfl) (by kernel_rfl) (fun _ _ _ h => h) (Or.inl ⟨by rfl, ?_⟩) hS ?_; rotate_left; focus (intro w hw; obtain ⟨l0, l1⟩ := hw; go_simp; try with_reducible rfl)
            refine wpAnyH_take (i := 4) (v := ?_) rfl (by kernel_rfl) (by kernel_rfl) (by kernel_rfl) (fun _ _ _ h => h) (Or.inl ⟨by rfl, ?_⟩) hS ?_; rotate_left; focus (intro w hw; clear hw; go_simp; try with_reducible rfl)
            refine wpAnyH_take (i := 5) (v := ?_) rfl (by kernel_rfl) (by kernel_rfl) (by kernel_rfl) (fun _ _ _ h => h) (Or.inl ⟨by rfl, ?_⟩) hS ?_; rotate_left; focus (intro w hw; clear hw; go_simp; try with_reducible rfl)
            refine wpAnyH_take (i := 6) (v := ?_) rfl (by kernel_rfl) (by kernel_rfl) (by kernel_rfl) (fun _ _ _ h => h) (Or.inl ⟨by rfl, ?_⟩) hS ?_; rotate_left; focus (intro w hw; clear hw; go_simp; try with_reducible rfl)
            refine wpAnyH_take (i := 7) (v := ?_) rfl (by kernel_rfl) (by kernel_rfl) (by kernel_rfl) (fun _ _ _ h => h) (Or.inl ⟨by rfl, ?_⟩) hS ?_; rotate_left; focus (intro w hw; obtain ⟨l0, l1⟩ := hw; go_simp; try with_reducible rfl)
            refine wpAnyH_take (i := 8) (v := ?_) rfl (by kernel_rfl) (by kernel_rfl) (by kernel_rfl) (fun _ _ _ h => h) (Or.inl ⟨by rfl, ?_⟩) hS ?_; rotate_left; focus (intro w hw; clear hw; go_simp; try with_reducible rfl)
            refine wpAnyH_done (by kernel_rfl) ?_ _
            clear hS
            (try simp only [Act.put, List.getElem_toArray, List.getElem_cons_succ, List.getElem_cons_zero, List.setIfInBounds_toArray, List.set_cons_zero, List.set_cons_succ])
            go_wp2_with fail
            go_roundw
            case rel => exact ⟨rest' - 1, i + 1, true, rfl, rfl, by go_num, by omega, by omega, by omega, HS2, fun _ => (by omega), fun c => (by cases c), hide (show RowIs _ _ _ _ from HRW.out), hide ⟨HB2.out.os, HB2.out.tape, HB2.out.output, HB2.out.size, HB2.out.block⟩⟩
            case measure => simp [intOf]; omega
          · have hq : e ≤ q := Int.not_lt.1 fun h => by rw [if_neg (by omega)] at hce; omega
            rw [if_pos hq] at hce hstep hsset
            have heq : cut L q (i + 1) = cut L q i := by
              rw [hstep]
              apply List.ext_getElem (by simp)
              intro j h1 h2
              rw [List.getElem_set]
              split
              · rename_i hij; subst hij; rw [hcc]; exact hce.symm
              · rfl
            have HS2 : Hid (rest' = room - sumI (cut L q (i + 1))) := by show _ = _; rw [heq]; exact HS.out
            have HRW : Hid (RowIs wr g 2 (iv (cut L q (i + 1)))) := by show RowIs _ _ _ _; rw [heq]; exact HRZ.out
            have HN2 : Hid (ag = false → ∀ j (hj : j < L.length), j < i + 1 → L[j] ≤ q) := fun ha j hj hji => by
              by_cases hjk : j = i
              · subst hjk; rw [he]; exact hq
              · exact HN.out ha j hj (by omega)
            clear hstep hsset hrow HRZ heq he hcc hce
            go_wp2_with fail
            refine wp_region_held_drew (S := (fun u => u.cell? ⟨g, i, none⟩ = some (.int .i64 c) ∧ u.cell? ⟨b, o + i, none⟩ = some (.int .i64 e))) (by kernel_rfl) (And.intro hco hck) (fun hS => ?_)
            refine wpAnyH_take (i := 0) (v := ?_) rfl (by kernel_rfl) (by kernel_rfl) (by kernel_rfl) (fun _ _ _ h => h) (Or.inl ⟨by rfl, ?_⟩) hS ?_; rotate_left; focus (intro w hw; clear hw; go_simp; try with_reducible rfl)
            refine wpAnyH_take (i := 1) (v := ?_) rfl (by kernel_rfl) (by kernel_rfl) (by kernel_rfl) (fun _ _ _ h => h) (Or.inl ⟨by rfl, ?_⟩) hS ?_; rotate_left; focus (intro w hw; clear hw; go_simp; try with_reducible rfl)
            refine wpAnyH_take (i := 2) (v := ?_) rfl (by kernel_rfl) (by kernel_rfl) (by kernel_rfl) (fun _ _ _ h => h) (Or.inl ⟨by rfl, ?_⟩) hS ?_; rotate_left; focus (intro w hw; clear hw; go_simp; try with_reducible rfl)
            refine wpAnyH_take (i := 3) (v := ?_) rfl (by kernel_rfl) (by kernel_rfl) (by kernel_rfl) (fun _ _ _ h => h) (Or.inl ⟨by rfl, ?_⟩) hS ?_; rotate_left; focus (intro w hw; obtain ⟨l0, l1⟩ := hw; go_simp; try with_reducible rfl)
            refine wpAnyH_take (i := 4) (v := ?_) rfl (by kernel_rfl) (by kernel_rfl) (by kernel_rfl) (fun _ _ _ h => h) (Or.inl ⟨by rfl, ?_⟩) hS ?_; rotate_left; focus (intro w hw; clear hw; go_simp; try with_reducible rfl)
            refine wpAnyH_take (i := 5) (v := ?_) rfl (by kernel_rfl) (by kernel_rfl) (by kernel_rfl) (fun _ _ _ h => h) (Or.inl ⟨by rfl, ?_⟩) hS ?_; rotate_left; focus (intro w hw; clear hw; go_simp; try with_reducible rfl)
            refine wpAnyH_take (i := 6) (v := ?_) rfl (by kernel_rfl) (by kernel_rfl) (by kernel_rfl) (fun _ _ _ h => h) (Or.inl ⟨by rfl, ?_⟩) hS ?_; rotate_left; focus (intro w hw; clear hw; go_simp; try with_reducible rfl)
            refine wpAnyH_take (i := 7) (v := ?_) rfl (by kernel_rfl) (by kernel_rfl) (by kernel_rfl) (fun _ _ _ h => h) (Or.inl ⟨by rfl, ?_⟩) hS ?_; rotate_left; focus (intro w hw; obtain ⟨l0, l1⟩ := hw; go_simp; try with_reducible rfl)
            refine wpAnyH_take (i := 8) (v := ?_) rfl (by kernel_rfl) (by kernel_rfl) (by kernel_rfl) (fun _ _ _ h => h) (Or.inl ⟨by rfl, ?_⟩) hS ?_; rotate_left; focus (intro w hw; clear hw; go_simp; try with_reducible rfl)
            refine wpAnyH_done (by kernel_rfl) ?_ _
            clear hS
            (try simp only [Act.put, List.getElem_toArray, List.getElem_cons_succ, List.getElem_cons_zero, List.setIfInBounds_toArray, List.set_cons_zero, List.set_cons_succ])
            go_wp2_with fail
            go_roundw
            case rel => exact ⟨rest', i + 1, ag, rfl, rfl, by go_num, by omega, p0, p1, HS2, HA, HN2, hide (show RowIs _ _ _ _ from HRW.out), hide HB.out.drew⟩
            case measure => simp [intOf]; omega
        · obtain ⟨q', i', hq', hcq, hsum', hA', hN'⟩ := cut_next hi HQ.out HS.out (by omega) p0 p1 HA.out HN.out
          have HRW : Hid (RowIs wr g 2 (iv (cut L q' i'))) := by show RowIs _ _ _ _; rw [← hcq]; exact HRZ.out
          have HA' := hide hA'; have HN' := hide hN'; have HSS := hide hsum'; have HQ' := hide hq'
          have hme : rest'.toNat + boolN (.bool ag) < rest.toNat + 1 := by
            cases ag
            · show rest'.toNat + 0 < _; omega
            · have := HA.out rfl; show rest'.toNat + 1 < _; omega
          clear hcq hsum' hA' hN' hq' HRZ HS
          by_cases hiL : i < L.length
          · have hp : ¬ 0 < rest' := fun c => hin ⟨hiL, c⟩
            have hiI : (i : Int) < L.length := by omega
            go_wp2_with fail
            go_roundw
            case rel => exact ⟨q', rest', i', ag, rfl, rfl, p0, by omega, HQ', HSS, HA', HN', HRW, HB⟩
            case measure => simpa [intOf, boolN] using hme
          · have hiI : ¬ (i : Int) < L.length := by omega
            go_wp2_with fail
            go_roundw
            case rel => exact ⟨q', rest', i', ag, rfl, rfl, p0, by omega, HQ', HSS, HA', HN', HRW, HB⟩
            case measure => simpa [intOf, boolN] using hme
    · have HIS : Hid (IsSh L room (cut L q i)) := cut_is HQ.out HS.out s0 (by cases ag; exact .inl rfl; exact .inr (by have : ¬ 0 < rest := fun c => hgo ⟨rfl, c⟩; omega)) HN.out
      have HOW : Hid (wr.ownsRow w.heap.size 2 1 (.slice (some ⟨g, 0, none⟩) L.length L.length) (cut L q i).length (iv (cut L q i))) := ⟨by rw [iv_len, Nat.mul_one], .inr ⟨g, L.length, (iv (cut L q i)).toArray, by rw [cut_len], hgw, HRZ.out, by rw [cut_len]; exact Nat.le_refl _, by unfold maxLen; omega, by simp [iv_len, cut_len], by rw [List.take_of_length_le (by simp [iv_len])]⟩⟩
      cases ag
      · go_wp2_with fail
        go_ret
        exact ⟨_, rfl, cut L q i, HYES.out _ HIS.out, HOW.out, HB.out⟩
      · have hz : ¬ 0 < rest := fun c => hgo ⟨rfl, c⟩
        go_wp2_with fail
        go_ret
        exact ⟨_, rfl, cut L q i, HYES.out _ HIS.out, HOW.out, HB.out⟩
set_option maxHeartbeats 1000000 in
theorem specLevel (L : List Int) (v : Value) (room : Int) (w : World) (hr0 : Reads w v L.length 1 (iv L)) : Calls Try.prog 10 #[v, .int .i64 room] w fun x w' => ∃ s, x = .returned (.int .i64 (maxL s (-1))) ∧ ShR L room s ∧ Below w.heap.size w w' := by
  obtain ⟨_, ad, cap, hv, _⟩ := id hr0
  subst hv
  go_enter Try.func10, Try.ntmps10
  go_wp2_with fail
  refine (specShares L _ room _ hr0).mono ?_; rintro x w1 ⟨v', s, rfl, hsh, ho, hb1⟩
  obtain ⟨hl, ad1, cap1, rfl, h1, h2, h3⟩ := reads_of_owns ho
  have H3 := hide h3
  have HSH := hide hsh
  have HB := hide hb1
  clear h3 ho hsh hb1 hr0
  unfold maxLen at h2
  obtain ⟨A, hA⟩ : ∃ A, maxL s (-1) = A := ⟨_, rfl⟩
  have HA0 : Hid (maxL (s.drop 0) (-1) = A) := hA
  have HA1 := hide hA
  clear hA
  go_wp2_with fail
  go_loop [6, 7] (fun m i => ∃ (k : Nat) (n : Int), i = .int .i64 k ∧ m = .int .i64 n ∧ k ≤ s.length ∧ Hid (maxL (s.drop k) n = A)) (fun _ i => s.length - (intOf i).toNat)
  case atStart => exact ⟨0, -1, rfl, rfl, Nat.zero_le _, HA0⟩
  case round =>
    obtain ⟨k, n, rfl, rfl, hk, HA⟩ := hrel
    by_cases hlt : k < s.length
    · obtain ⟨b, o, rfl, hbw, hc⟩ := H3.out (by omega)
      have hck := hc k _ (iv_get s k hlt)
      clear hc
      have HE := HA.out
      rw [maxL_drop hlt] at HE
      obtain ⟨e, he⟩ : ∃ e, s[k] = e := ⟨_, rfl⟩
      rw [he] at hck HE
      replace HE := hide HE
      clear he
      go_wp2_with fail
      refine (specMax _ _ _).mono ?_; rintro e w2 ⟨rfl, hsame⟩; obtain rfl := hsame.symm; clear hsame
      generalize (if n > e then n else e) = n' at *
      go_wp2_with fail
      go_round
      case rel => exact ⟨k + 1, n', by go_num, rfl, by omega, HE⟩
      case measure => simp [intOf]; omega
    · have HE : Hid (n = A) := by have := HA.out; rw [maxL_end (by omega)] at this; exact this
      go_wp2_with fail
      go_ret
      exact ⟨s, by rw [HA1.out, ← HE.out]; rfl, HSH.out, HB.out⟩
end Go.Proofs.Ytllignhfkkeinaa
