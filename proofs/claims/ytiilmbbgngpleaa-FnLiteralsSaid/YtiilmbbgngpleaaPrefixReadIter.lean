/- Chapter 3's iterator over what each byte adds: whoever ranges over it gets just these parts, in their order. -/
import Derived.Test.YtiilmbbgngpleaaPrefixReadMath
import Derived.Test.YtiilmbbgngpleaaPrefixHigh
import Derived.Test.YtiilmbbgngpleaaPrefixMade
namespace Go.Proofs.Ytiilmbbgngpleaa
open Go.RowKit Go.Shelf
attribute [local go_sem] Oper.semAt_some
set_option linter.unusedSimpArgs false
set_option linter.unusedVariables false

abbrev encP (x : Int × Bool) : Array Value := #[.int .i64 x.1, .bool x.2]

set_option maxRecDepth 100000 in
set_option maxHeartbeats 4000000 in
theorem parts1_in (m : Nat) (hm : 1 ≤ m) (l Bs Bb : Nat) (s : ByteArray) (b : Int) (hs : s.size ≤ maxLen) (h1 : 1 ≤ b) (h8 : b ≤ 8) (J Jx : List (Int × Bool) → World → Prop)
    (hY : ∀ pre x W, J pre W → pre.length < (ptV s b).length → YieldAt Fence.wide (m - 1) Try.prog l (encP x) W fun e W' =>
      (e = .returned (.bool true) ∧ J (pre ++ [x]) W' ∧ Kept2 Bs Bb W W') ∨ (e = .returned (.bool false) ∧ Jx (pre ++ [x]) W'))
    (W : World) (hBs : Boxed W Bs 9 (.string s)) (hBb : Boxed W Bb 2 (.int .i64 b)) (h0 : J [] W) :
    CallsIn Fence.wide m Try.prog 50 #[.func (.yield l) #[] #[], .pointer (some ⟨Bs, 0, none⟩), .pointer (some ⟨Bb, 0, none⟩)] W fun e W' => (∃ v, e = .returned v) ∧
      ((∃ ys, ys = ptV s b ∧ J ys W') ∨ (∃ pre, True ∧ Jx pre W')) := by
  unfold maxLen at hs
  obtain ⟨hp1, hp2⟩ := pw_lo h1 h8
  have cs := hBs.cell
  have cb := hBb.cell
  by_cases hz : s.size = 0
  · have hv := ptV_empty (b := b) hz
    obtain rfl := size0 hz
    refine callsIn_of_wp Try.func50 rfl trivial ?_ rfl
    simp only [Try.ntmps50, List.size_toArray, List.length_cons, List.length_nil, Nat.reduceAdd, Nat.reduceSub, Array.replicate_succ, Array.replicate_zero, List.push_toArray, List.append_toArray, List.nil_append, List.cons_append]
    gi_wp2
    refine bodyPost_ret (results_none rfl _ _ _) rfl ?_
    exact ⟨⟨_, rfl⟩, .inl ⟨[], hv.symm, h0⟩⟩
  have hp : 0 < s.size := by omega
  have hne := list_ne hp
  have hne' := list_isEmpty hp
  have hx : (s[0].toNat : Int) ≤ 255 := by have := s[0].toNat_lt; omega
  have hx0 : 0 ≤ (s[0].toNat : Int) := by omega
  have hand := and_pw hx0 hx h1 h8
  have hm' := Int.emod_lt_of_pos (s[0].toNat : Int) (show (0 : Int) < pw b by omega)
  have hm0 := Int.emod_nonneg (s[0].toNat : Int) (show pw b ≠ 0 by omega)
  by_cases hsm : (s[0].toNat : Int) % pw b < pw b - 1
  · have HV : Hid (ptV s b = [((s[0].toNat : Int) % pw b, true)]) := ptV_small hp hsm
    obtain ⟨fn, tmps, assign, body, hy, hR⟩ := hY [] ((s[0].toNat : Int) % pw b, true) W h0 (by rw [HV.out]; simp)
    dsimp only [encP] at hy
    refine callsIn_of_wp Try.func50 rfl trivial ?_ rfl
    simp only [Try.ntmps50, List.size_toArray, List.length_cons, List.length_nil, Nat.reduceAdd, Nat.reduceSub, Array.replicate_succ, Array.replicate_zero, List.push_toArray, List.append_toArray, List.nil_append, List.cons_append]
    gi_wp2_with (refine ⟨trivial, ?_⟩; gi_at_call 39; refine (callsIn_wide.2 (implLowest b _ h1 h8)).mono ?_; rintro e w' ⟨rfl, rfl⟩)
    refine hR.mono ?_
    rintro e W3 (⟨rfl, hJ3, hk3⟩ | ⟨rfl, hJx3⟩)
    · gi_wp2
      refine bodyPost_ret (results_none rfl _ _ _) rfl ?_
      exact ⟨⟨_, rfl⟩, .inl ⟨_, HV.out.symm, hJ3⟩⟩
    · gi_wp2
      refine bodyPost_ret (results_none rfl _ _ _) rfl ?_
      exact ⟨⟨_, rfl⟩, .inr ⟨_, trivial, hJx3⟩⟩
  · have hd : decide ((s[0].toNat : Int) % pw b < pw b - 1) = false := decide_eq_false hsm
    have HV : Hid (ptV s b = [((s[0].toNat : Int) % pw b, false)] ++ ptF 5 1 ((bys s).drop 1)) := ptV_more hp hsm
    obtain ⟨fn, tmps, assign, body, hy, hR⟩ := hY [] ((s[0].toNat : Int) % pw b, false) W h0 (by rw [HV.out]; simp)
    dsimp only [encP] at hy
    refine callsIn_of_wp Try.func50 rfl trivial ?_ rfl
    simp only [Try.ntmps50, List.size_toArray, List.length_cons, List.length_nil, Nat.reduceAdd, Nat.reduceSub, Array.replicate_succ, Array.replicate_zero, List.push_toArray, List.append_toArray, List.nil_append, List.cons_append]
    gi_wp2_with (refine ⟨trivial, ?_⟩; gi_at_call 39; refine (callsIn_wide.2 (implLowest b _ h1 h8)).mono ?_; rintro e w' ⟨rfl, rfl⟩)
    refine hR.mono ?_
    rintro e W3 (⟨rfl, hJ3, hk3⟩ | ⟨rfl, hJx3⟩)
    · have bs3 := hk3.boxed1 hBs
      gi_wp2
      gi_loopw [6, 7] (fun u t wr => ∃ (i : Nat) (p : Int) (pre : List (Int × Bool)), 1 ≤ i ∧ i ≤ 6 ∧ i ≤ s.size ∧ t = .int .i64 i ∧ u = .int .i64 p ∧ Plc i p ∧ Hid (ptV s b = pre ++ ptF (6 - i) p ((bys s).drop i)) ∧ Boxed wr Bs 9 (.string s) ∧ J pre wr) (fun _ t _ => 6 - (intOf t).toNat)
      case atStart => exact ⟨1, 1, _, by omega, by omega, by omega, rfl, rfl, .inl ⟨rfl, rfl⟩, HV, bs3, hJ3⟩
      case round =>
        obtain ⟨i, p, pre, hi1, hi6, his, rfl, rfl, hplc, HP, bs, hJs⟩ := hrel
        have cs4 := bs.cell
        obtain ⟨-, -, hpl1, hpl2, hpl3⟩ := hplc.lo
        by_cases hlt : i < s.size
        · by_cases h6 : i < 6
          · have hp28 : p ≤ 268435456 := hpl3.1 (by omega)
            have hc1 : (s[i].toNat : Int) ≤ 255 := by have := s[i].toNat_lt; omega
            have hc0 : 0 ≤ (s[i].toNat : Int) := by omega
            have hq0 : 0 ≤ (s[i].toNat : Int) % 128 * p := Int.mul_nonneg (by omega) (by omega)
            have hq1 : (s[i].toNat : Int) % 128 * p ≤ 127 * p := Int.mul_le_mul_of_nonneg_right (by omega) (by omega)
            have h6i : 6 - i = (5 - i) + 1 := by omega
            have hPP := HP.out
            rw [bys_drop s i hlt, h6i] at hPP
            clear HP h6i
            by_cases hc : (s[i].toNat : Int) < 128
            · rw [ptF_last hc] at hPP
              have HPP : Hid (ptV s b = pre ++ [((s[i].toNat : Int) % 128 * p, true)]) := hPP
              clear hPP
              obtain ⟨fn4, tmps4, assign4, body4, hy4, hR4⟩ := hY pre ((s[i].toNat : Int) % 128 * p, true) wr hJs (by rw [HPP.out]; simp)
              dsimp only [encP] at hy4
              gi_wp2
              refine hR4.mono ?_
              rintro e W4 (⟨rfl, hJ4, hk4⟩ | ⟨rfl, hJx4⟩)
              · gi_wp2
                refine bodyPost_ret (results_none rfl _ _ _) rfl ?_
                exact ⟨⟨_, rfl⟩, .inl ⟨_, HPP.out.symm, hJ4⟩⟩
              · gi_wp2
                refine bodyPost_ret (results_none rfl _ _ _) rfl ?_
                exact ⟨⟨_, rfl⟩, .inr ⟨_, trivial, hJx4⟩⟩
            · have hdc : decide ((s[i].toNat : Int) < 128) = false := decide_eq_false hc
              rw [ptF_more (by omega)] at hPP
              have HPP : Hid (ptV s b = (pre ++ [((s[i].toNat : Int) % 128 * p, false)]) ++ ptF (6 - (i + 1)) (p * 128) ((bys s).drop (i + 1))) := by
                show _ = _
                rw [hPP, show 6 - (i + 1) = 5 - i by omega]; simp
              have HPl := hplc.next (by omega)
              clear hPP hplc
              obtain ⟨fn4, tmps4, assign4, body4, hy4, hR4⟩ := hY pre ((s[i].toNat : Int) % 128 * p, false) wr hJs (by rw [HPP.out]; simp)
              dsimp only [encP] at hy4
              gi_wp2
              refine hR4.mono ?_
              rintro e W4 (⟨rfl, hJ4, hk4⟩ | ⟨rfl, hJx4⟩)
              · gi_wp2
                go_roundw
                case rel => exact ⟨i + 1, _, _, by omega, by omega, by omega, by go_num, rfl, HPl, HPP, hk4.boxed1 bs, hJ4⟩
                case measure => simp [intOf]; omega
              · gi_wp2
                refine bodyPost_ret (results_none rfl _ _ _) rfl ?_
                exact ⟨⟨_, rfl⟩, .inr ⟨_, trivial, hJx4⟩⟩
          · have hi : i = 6 := by omega
            have hp34 : ¬ p ≤ 268435456 := fun h => h6 (by have := hpl3.2 h; omega)
            have HPP : Hid (ptV s b = pre) := by show _ = _; rw [HP.out, hi]; simp [ptF]
            clear HP
            gi_wp2
            go_end0
            first | exact ⟨⟨_, rfl⟩, .inl ⟨_, HPP.out.symm, hJs⟩⟩ | exact ⟨⟨_, rfl⟩, .inl (by rw [HPP.out]; exact hJs)⟩
        · have HPP : Hid (ptV s b = pre) := by show _ = _; rw [HP.out, bys_end s i (by omega), ptF_nil]; simp
          clear HP
          gi_wp2
          go_end0
          exact ⟨⟨_, rfl⟩, .inl ⟨_, HPP.out.symm, hJs⟩⟩
    · gi_wp2
      refine bodyPost_ret (results_none rfl _ _ _) rfl ?_
      exact ⟨⟨_, rfl⟩, .inr ⟨_, trivial, hJx3⟩⟩

set_option maxHeartbeats 1000000 in
/-- The closure's maker: both arguments are boxed. -/
theorem prefixParts_in (m : Nat) (s : ByteArray) (b : Int) (w : World) :
    CallsIn Fence.wide m Try.prog 44 #[.string s, .int .i64 b] w fun e w' => e = .returned (.func (.func 50) #[] #[.pointer (some ⟨w.heap.size, 0, none⟩), .pointer (some ⟨w.heap.size + 1, 0, none⟩)])
      ∧ w' = (w.alloc (.cells #[.string s] 9)).alloc (.cells #[.int .i64 b] 2) := by
  refine callsIn_of_wp Try.func44 rfl trivial ?_ rfl
  simp only [Try.ntmps44, List.size_toArray, List.length_cons, List.length_nil, Nat.reduceAdd, Nat.reduceSub, Array.replicate_succ, Array.replicate_zero, List.push_toArray, List.append_toArray, List.nil_append, List.cons_append]
  gi_wp2
  go_ret
  exact ⟨rfl, rfl⟩

theorem parts_stops (m : Nat) (hm : 1 ≤ m) (Bs Bb : Nat) (s : ByteArray) (b : Int) (hs : s.size ≤ maxLen) (h1 : 1 ≤ b) (h8 : b ≤ 8) (w : World) (hBs : Boxed w Bs 9 (.string s)) (hBb : Boxed w Bb 2 (.int .i64 b)) :
    SeqStopsK Fence.wide m Try.prog 50 #[.pointer (some ⟨Bs, 0, none⟩), .pointer (some ⟨Bb, 0, none⟩)] encP (Kept2 Bs Bb) (fun ys => ys = ptV s b) (fun _ => True) (ptV s b).length w :=
  fun l J Jx W hW _ _ hY h0 => parts1_in m hm l Bs Bb s b hs h1 h8 J Jx hY W ((hW.block Bs hBs.lt).trans hBs) ((hW.block Bb hBb.lt).trans hBb) h0
end Go.Proofs.Ytiilmbbgngpleaa
