/- Chapter 3's iterator over a number's bytes: whoever ranges over it gets just these bytes, in their order. -/
import Derived.Test.YtiilmbbgngpleaaPrefixMath
import Derived.RangeFuncNested
import Derived.RangeFuncBound
import Derived.RangeFuncCalls
import Derived.RangeFuncLeaves
import Derived.Shelf.Abstract
import Derived.Shelf.RegionOpen
import Derived.WalkKit
import Derived.OwnWalkIn
import Derived.TacticsInMore
import Derived.LoopNIn
import Derived.LoopIn
import Derived.Maps.AppendAt
import Derived.Handy
namespace Go.Proofs.Ytiilmbbgngpleaa
open Go.RowKit Go.Shelf
attribute [local go_sem] Oper.semAt_some
set_option linter.unusedSimpArgs false
set_option linter.unusedVariables false

/-- Two blocks lie as they lay. -/
def Kept2 (a b : Nat) (W W' : World) : Prop := W'.heap[a]? = W.heap[a]? ∧ W'.heap[b]? = W.heap[b]?
theorem kept2_t {a b : Nat} {A B C : World} (h : Kept2 a b A B) (k : Kept2 a b B C) : Kept2 a b A C := ⟨k.1.trans h.1, k.2.trans h.2⟩
theorem kept2_b {a b : Nat} {w : World} (ha : a < w.heap.size) (hb : b < w.heap.size) (W : World) (l : Nat) (o o' : Obj) (hl : w.heap.size ≤ l) (h : W.heap[l]? = some o) (_ : o.isCells = false) (_ : o.isWalk = false) : Kept2 a b W (W.putObj l o') :=
  ⟨World.putObj_heap_other (by omega), World.putObj_heap_other (by omega)⟩
theorem Kept2.boxed1 {a b : Nat} {W W' : World} (h : Kept2 a b W W') {t : TypeId} {v : Value} (hb : Boxed W a t v) : Boxed W' a t v := h.1.trans hb
theorem Kept2.boxed2 {a b : Nat} {W W' : World} (h : Kept2 a b W W') {t : TypeId} {v : Value} (hb : Boxed W b t v) : Boxed W' b t v := h.2.trans hb

set_option maxRecDepth 100000 in
set_option maxHeartbeats 2000000 in
theorem bytes1_in (m : Nat) (hm : 1 ≤ m) (l Bn Bb : Nat) (n b : Int) (hn0 : 0 ≤ n) (hn : n ≤ 268435456) (h1 : 1 ≤ b) (h8 : b ≤ 8) (J Jx : List Int → World → Prop)
    (hY : ∀ pre x W, J pre W → pre.length < (bytesOf n (pw b - 1)).length → YieldAt Fence.wide (m - 1) Try.prog l #[.int .u8 x] W fun e W' =>
      (e = .returned (.bool true) ∧ J (pre ++ [x]) W' ∧ Kept2 Bn Bb W W') ∨ (e = .returned (.bool false) ∧ Jx (pre ++ [x]) W'))
    (W : World) (hBn : Boxed W Bn 2 (.int .i64 n)) (hBb : Boxed W Bb 2 (.int .i64 b)) (h0 : J [] W) :
    CallsIn Fence.wide m Try.prog 48 #[.func (.yield l) #[] #[], .pointer (some ⟨Bb, 0, none⟩), .pointer (some ⟨Bn, 0, none⟩)] W fun e W' => (∃ v, e = .returned v) ∧
      ((∃ ys, ys = bytesOf n (pw b - 1) ∧ J ys W') ∨ (∃ pre, True ∧ Jx pre W')) := by
  obtain ⟨hp1, hp2⟩ := pw_lo h1 h8
  have cn := hBn.cell
  have cb := hBb.cell
  have hB1 := (bytesOf_len n (pw b - 1)).1
  by_cases hlt : n < pw b - 1
  · have hbo : bytesOf n (pw b - 1) = [n] := by simp [bytesOf, hlt]
    obtain ⟨fn, tmps, assign, body, hy, hR⟩ := hY [] n W h0 hB1
    refine callsIn_of_wp Try.func48 rfl trivial ?_ rfl
    simp only [Try.ntmps48, List.size_toArray, List.length_cons, List.length_nil, Nat.reduceAdd, Nat.reduceSub, Array.replicate_succ, Array.replicate_zero, List.push_toArray, List.append_toArray, List.nil_append, List.cons_append]
    gi_wp2_with (refine ⟨trivial, ?_⟩; gi_at_call 39; refine (callsIn_wide.2 (implLowest b _ h1 h8)).mono ?_; rintro e w' ⟨rfl, rfl⟩)
    refine hR.mono ?_
    rintro e W3 (⟨rfl, hJ3, hk3⟩ | ⟨rfl, hJx3⟩)
    · gi_wp2
      refine bodyPost_ret (results_none rfl _ _ _) rfl ?_
      exact ⟨⟨_, rfl⟩, .inl ⟨[n], hbo.symm, hJ3⟩⟩
    · gi_wp2
      refine bodyPost_ret (results_none rfl _ _ _) rfl ?_
      exact ⟨⟨_, rfl⟩, .inr ⟨_, trivial, hJx3⟩⟩
  · have hbo : bytesOf n (pw b - 1) = (pw b - 1) :: restF 4 (n - (pw b - 1)) := by simp only [bytesOf]; rw [if_neg hlt]
    obtain ⟨fn, tmps, assign, body, hy, hR⟩ := hY [] (pw b - 1) W h0 hB1
    refine callsIn_of_wp Try.func48 rfl trivial ?_ rfl
    simp only [Try.ntmps48, List.size_toArray, List.length_cons, List.length_nil, Nat.reduceAdd, Nat.reduceSub, Array.replicate_succ, Array.replicate_zero, List.push_toArray, List.append_toArray, List.nil_append, List.cons_append]
    gi_wp2_with (refine ⟨trivial, ?_⟩; gi_at_call 39; refine (callsIn_wide.2 (implLowest b _ h1 h8)).mono ?_; rintro e w' ⟨rfl, rfl⟩)
    refine hR.mono ?_
    rintro e W3 (⟨rfl, hJ3, hk3⟩ | ⟨rfl, hJx3⟩)
    · have cn3 := (hk3.boxed1 hBn).cell
      gi_wp2
      gi_loopw [5] (fun r wr => ∃ (k : Nat) (z : Int) (pre : List Int), r = .int .i64 z ∧ 0 ≤ z ∧ z < 128 ^ (k + 1) ∧ z ≤ 268435456 ∧ bytesOf n (pw b - 1) = pre ++ restF k z ∧ J pre wr) (fun r _ => (intOf r).toNat)
      case atStart => exact ⟨4, n - (pw b - 1), [pw b - 1], rfl, by omega, by simp; omega, by omega, hbo, hJ3⟩
      case round =>
        obtain ⟨k, z, pre, rfl, hz0, hz1, hz2, hpre, hJs⟩ := hrel
        have hpl : pre.length < (bytesOf n (pw b - 1)).length := by rw [hpre, List.length_append]; have := restF_ne k z; omega
        by_cases hz : z < 128
        · have hbe : bytesOf n (pw b - 1) = pre ++ [z] := by rw [hpre, restF_small hz]
          obtain ⟨fn4, tmps4, assign4, body4, hy4, hR4⟩ := hY pre z wr hJs hpl
          gi_wp2
          refine hR4.mono ?_
          rintro e W4 (⟨rfl, hJ4, hk4⟩ | ⟨rfl, hJx4⟩)
          · gi_wp2
            go_end0
            exact ⟨⟨_, rfl⟩, .inl ⟨_, hbe.symm, hJ4⟩⟩
          · gi_wp2
            go_end0
            exact ⟨⟨_, rfl⟩, .inr ⟨_, trivial, hJx4⟩⟩
        · obtain ⟨k', rfl⟩ : ∃ k', k = k' + 1 := ⟨k - 1, by cases k with | zero => simp at hz1; omega | succ k => rfl⟩
          obtain ⟨fn4, tmps4, assign4, body4, hy4, hR4⟩ := hY pre (z % 128 + 128) wr hJs hpl
          have HB : Hid (bytesOf n (pw b - 1) = (pre ++ [z % 128 + 128]) ++ restF k' (z / 128)) := by show _ = _; rw [hpre, restF_big (by omega)]; simp
          have HZ : Hid (z / 128 < 128 ^ (k' + 1)) := by show _ < _; rw [Int.pow_succ] at hz1; omega
          clear hz1 hpre
          gi_wp2
          refine hR4.mono ?_
          rintro e W4 (⟨rfl, hJ4, hk4⟩ | ⟨rfl, hJx4⟩)
          · gi_wp2
            go_roundw
            case rel => exact ⟨k', z / 128, _, by go_num, by omega, HZ.out, by omega, HB.out, hJ4⟩
            case measure => simp [intOf]; omega
          · gi_wp2
            refine bodyPost_ret (results_none rfl _ _ _) rfl ?_
            exact ⟨⟨_, rfl⟩, .inr ⟨_, trivial, hJx4⟩⟩
    · gi_wp2
      refine bodyPost_ret (results_none rfl _ _ _) rfl ?_
      exact ⟨⟨_, rfl⟩, .inr ⟨_, trivial, hJx3⟩⟩

set_option maxHeartbeats 1000000 in
/-- The closure's maker: both arguments are boxed. -/
theorem prefixBytes_in (m : Nat) (n b : Int) (w : World) :
    CallsIn Fence.wide m Try.prog 37 #[.int .i64 n, .int .i64 b] w fun e w' => e = .returned (.func (.func 48) #[] #[.pointer (some ⟨w.heap.size + 1, 0, none⟩), .pointer (some ⟨w.heap.size, 0, none⟩)])
      ∧ w' = (w.alloc (.cells #[.int .i64 n] 2)).alloc (.cells #[.int .i64 b] 2) := by
  refine callsIn_of_wp Try.func37 rfl trivial ?_ rfl
  simp only [Try.ntmps37, List.size_toArray, List.length_cons, List.length_nil, Nat.reduceAdd, Nat.reduceSub, Array.replicate_succ, Array.replicate_zero, List.push_toArray, List.append_toArray, List.nil_append, List.cons_append]
  gi_wp2
  go_ret
  exact ⟨rfl, rfl⟩

theorem bytes_stops (m : Nat) (hm : 1 ≤ m) (Bn Bb : Nat) (n b : Int) (hn0 : 0 ≤ n) (hn : n ≤ 268435456) (h1 : 1 ≤ b) (h8 : b ≤ 8) (w : World) (hBn : Boxed w Bn 2 (.int .i64 n)) (hBb : Boxed w Bb 2 (.int .i64 b)) :
    SeqStopsK Fence.wide m Try.prog 48 #[.pointer (some ⟨Bb, 0, none⟩), .pointer (some ⟨Bn, 0, none⟩)] (fun x : Int => #[Value.int .u8 x]) (Kept2 Bn Bb) (fun ys => ys = bytesOf n (pw b - 1)) (fun _ => True) (bytesOf n (pw b - 1)).length w :=
  fun l J Jx W hW _ _ hY h0 => bytes1_in m hm l Bn Bb n b hn0 hn h1 h8 J Jx hY W ((hW.block Bn hBn.lt).trans hBn) ((hW.block Bb hBb.lt).trans hBb) h0
end Go.Proofs.Ytiilmbbgngpleaa
