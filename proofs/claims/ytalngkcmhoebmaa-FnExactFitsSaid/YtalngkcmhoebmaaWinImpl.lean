/- Chapter 8's program: Granted, Used, Moved, Fits; what a window becomes is handed on as a method expression. -/
import Derived.Test.YtalngkcmhoebmaaWinMath
import Derived.Test.YtalngkcmhoebmaaMinMax
import Derived.Laws.Cover1

namespace Go.Proofs.Ytalngkcmhoebmaa
open Go.RowKit
set_option maxRecDepth 100000
set_option linter.unusedSimpArgs false
set_option linter.unusedVariables false
theorem implWin (x : Int) (w : World) : Calls Try.prog 30 #[.int .i64 x] w fun e w' => e = .returned (.bool (winB x)) ∧ w' = w := by
  go_enter Try.func30, Try.ntmps30
  go_wp2_with fail
  refine (implWithin _ _ _ _).mono ?_; rintro e w1 ⟨rfl, hsame⟩; obtain rfl := hsame.symm; clear hsame
  go_wp2_with fail
  go_ret
  exact ⟨rfl, rfl⟩
/-- What a change leaves: the window behind it, where both are windows. -/
def chV (x y : Int) : Int × Bool := if winB x = true ∧ winB y = true then (y, true) else (x, false)
theorem implMore (x n : Int) (w : World) (h1 : -16777215 ≤ x) (h2 : x ≤ 16777215) (h3 : -16777215 ≤ n) (h4 : n ≤ 16777215) : Calls Try.prog 26 #[.int .i64 x, .int .i64 n] w fun e w' => e = .returned (.int .i64 (x + n)) ∧ w' = w := by
  go_enter Try.func26, Try.ntmps26
  go_wp2_with fail
  go_ret
  exact ⟨rfl, rfl⟩
theorem implMoreCh (x n : Int) (w : World) (h3 : -16777215 ≤ n) (h4 : n ≤ 16777215) : Calls Try.prog 25 #[.int .i64 x, .int .i64 n, .func (.func 26) #[] #[]] w fun e w' => e = .returned (.tuple #[.int .i64 (chV x (x + n)).1, .bool (chV x (x + n)).2]) ∧ w' = w := by
  cases hx : winB x
  · have hv : chV x (x + n) = (x, false) := by unfold chV; rw [if_neg (by rw [hx]; simp)]
    rw [hv]
    go_enter Try.func25, Try.ntmps25
    go_wp2_with fail
    refine (implWin _ _).mono ?_; rw [hx]; rintro e w1 ⟨rfl, hsame⟩; obtain rfl := hsame.symm; clear hsame
    go_wp2_with fail
    go_ret2
    exact ⟨rfl, rfl⟩
  obtain ⟨x0, x1⟩ := winB_true hx
  cases hy : winB (x + n)
  · have hv : chV x (x + n) = (x, false) := by unfold chV; rw [if_neg (by rw [hy]; simp)]
    rw [hv]
    go_enter Try.func25, Try.ntmps25
    go_wp2_with fail
    refine (implWin _ _).mono ?_; rw [hx]; rintro e w1 ⟨rfl, hsame⟩; obtain rfl := hsame.symm; clear hsame
    go_wp2_with fail
    refine (implMore _ _ _ x0 x1 h3 h4).mono ?_; rintro e w1 ⟨rfl, hsame⟩; obtain rfl := hsame.symm; clear hsame
    go_wp2_with fail
    refine (implWin _ _).mono ?_; rw [hy]; rintro e w1 ⟨rfl, hsame⟩; obtain rfl := hsame.symm; clear hsame
    go_wp2_with fail
    go_ret2
    exact ⟨rfl, rfl⟩
  · have hv : chV x (x + n) = (x + n, true) := by unfold chV; rw [if_pos ⟨hx, hy⟩]
    rw [hv]
    go_enter Try.func25, Try.ntmps25
    go_wp2_with fail
    refine (implWin _ _).mono ?_; rw [hx]; rintro e w1 ⟨rfl, hsame⟩; obtain rfl := hsame.symm; clear hsame
    go_wp2_with fail
    refine (implMore _ _ _ x0 x1 h3 h4).mono ?_; rintro e w1 ⟨rfl, hsame⟩; obtain rfl := hsame.symm; clear hsame
    go_wp2_with fail
    refine (implWin _ _).mono ?_; rw [hy]; rintro e w1 ⟨rfl, hsame⟩; obtain rfl := hsame.symm; clear hsame
    go_wp2_with fail
    go_ret2
    exact ⟨rfl, rfl⟩
theorem implLess (x n : Int) (w : World) (h1 : -16777215 ≤ x) (h2 : x ≤ 16777215) (h3 : 0 ≤ n) (h4 : n ≤ x) : Calls Try.prog 27 #[.int .i64 x, .int .i64 n] w fun e w' => e = .returned (.int .i64 (x - n)) ∧ w' = w := by
  go_enter Try.func27, Try.ntmps27
  go_wp2_with fail
  go_ret
  exact ⟨rfl, rfl⟩
theorem implLessCh (x n : Int) (w : World) (h3 : 0 ≤ n) (h4 : n ≤ x) : Calls Try.prog 25 #[.int .i64 x, .int .i64 n, .func (.func 27) #[] #[]] w fun e w' => e = .returned (.tuple #[.int .i64 (chV x (x - n)).1, .bool (chV x (x - n)).2]) ∧ w' = w := by
  cases hx : winB x
  · have hv : chV x (x - n) = (x, false) := by unfold chV; rw [if_neg (by rw [hx]; simp)]
    rw [hv]
    go_enter Try.func25, Try.ntmps25
    go_wp2_with fail
    refine (implWin _ _).mono ?_; rw [hx]; rintro e w1 ⟨rfl, hsame⟩; obtain rfl := hsame.symm; clear hsame
    go_wp2_with fail
    go_ret2
    exact ⟨rfl, rfl⟩
  obtain ⟨x0, x1⟩ := winB_true hx
  cases hy : winB (x - n)
  · have hv : chV x (x - n) = (x, false) := by unfold chV; rw [if_neg (by rw [hy]; simp)]
    rw [hv]
    go_enter Try.func25, Try.ntmps25
    go_wp2_with fail
    refine (implWin _ _).mono ?_; rw [hx]; rintro e w1 ⟨rfl, hsame⟩; obtain rfl := hsame.symm; clear hsame
    go_wp2_with fail
    refine (implLess _ _ _ x0 x1 h3 h4).mono ?_; rintro e w1 ⟨rfl, hsame⟩; obtain rfl := hsame.symm; clear hsame
    go_wp2_with fail
    refine (implWin _ _).mono ?_; rw [hy]; rintro e w1 ⟨rfl, hsame⟩; obtain rfl := hsame.symm; clear hsame
    go_wp2_with fail
    go_ret2
    exact ⟨rfl, rfl⟩
  · have hv : chV x (x - n) = (x - n, true) := by unfold chV; rw [if_pos ⟨hx, hy⟩]
    rw [hv]
    go_enter Try.func25, Try.ntmps25
    go_wp2_with fail
    refine (implWin _ _).mono ?_; rw [hx]; rintro e w1 ⟨rfl, hsame⟩; obtain rfl := hsame.symm; clear hsame
    go_wp2_with fail
    refine (implLess _ _ _ x0 x1 h3 h4).mono ?_; rintro e w1 ⟨rfl, hsame⟩; obtain rfl := hsame.symm; clear hsame
    go_wp2_with fail
    refine (implWin _ _).mono ?_; rw [hy]; rintro e w1 ⟨rfl, hsame⟩; obtain rfl := hsame.symm; clear hsame
    go_wp2_with fail
    go_ret2
    exact ⟨rfl, rfl⟩
theorem implGranted (x n : Int) (w : World) : Calls Try.prog 11 #[.int .i64 x, .int .i64 n] w fun e w' => e = .returned (.tuple #[.int .i64 (grV x n).1, .bool (grV x n).2]) ∧ Below w.heap.size w w' := by
  cases hn : inB n 1 16777215
  · have hv : grV x n = (x, false) := by unfold grV; rw [if_neg (by rw [hn]; simp)]
    rw [hv]
    go_enter Try.func11, Try.ntmps11
    go_wp2_with fail
    refine (implWithin _ _ _ _).mono ?_; rw [hn]; rintro e w1 ⟨rfl, hsame⟩; obtain rfl := hsame.symm; clear hsame
    go_wp2_with fail
    go_ret2
    exact ⟨rfl, Below.refl _ _⟩
  obtain ⟨n0, n1⟩ := inB_true hn
  have hv : grV x n = chV x (x + n) := by
    unfold grV chV
    cases hx : winB x
    · rw [if_neg (by simp), if_neg (by simp)]
    · obtain ⟨x0, x1⟩ := winB_true hx
      by_cases hs : x + n ≤ 16777215
      · rw [if_pos ⟨rfl, hn, hs⟩, if_pos ⟨rfl, winB_of (by omega) hs⟩]
      · rw [if_neg (fun c => hs c.2.2), if_neg (fun c => hs (winB_true c.2).2)]
  rw [hv]
  clear hv
  go_enter Try.func11, Try.ntmps11
  go_wp2_with fail
  refine (implWithin _ _ _ _).mono ?_; rw [hn]; rintro e w1 ⟨rfl, hsame⟩; obtain rfl := hsame.symm; clear hsame
  go_wp2_with fail
  refine (implMoreCh _ _ _ (by omega) (by omega)).mono ?_; rintro e w1 ⟨rfl, hsame⟩; obtain rfl := hsame.symm; clear hsame
  go_wp2_with fail
  go_ret2
  exact ⟨rfl, Below.refl _ _⟩
theorem implUsed (x n : Int) (w : World) : Calls Try.prog 13 #[.int .i64 x, .int .i64 n] w fun e w' => e = .returned (.tuple #[.int .i64 (usV x n).1, .bool (usV x n).2]) ∧ Below w.heap.size w w' := by
  cases hn : inB n 0 x
  · have hv : usV x n = (x, false) := by unfold usV; rw [if_neg (fun c => inB_false hn c.2)]
    rw [hv]
    go_enter Try.func13, Try.ntmps13
    go_wp2_with fail
    refine (implWithin _ _ _ _).mono ?_; rw [hn]; rintro e w1 ⟨rfl, hsame⟩; obtain rfl := hsame.symm; clear hsame
    go_wp2_with fail
    go_ret2
    exact ⟨rfl, Below.refl _ _⟩
  obtain ⟨n0, n1⟩ := inB_true hn
  have hv : usV x n = chV x (x - n) := by
    unfold usV chV
    cases hx : winB x
    · rw [if_neg (by simp), if_neg (by simp)]
    · obtain ⟨x0, x1⟩ := winB_true hx
      rw [if_pos ⟨rfl, n0, n1⟩, if_pos ⟨rfl, winB_of (by omega) (by omega)⟩]
  rw [hv]
  clear hv
  go_enter Try.func13, Try.ntmps13
  go_wp2_with fail
  refine (implWithin _ _ _ _).mono ?_; rw [hn]; rintro e w1 ⟨rfl, hsame⟩; obtain rfl := hsame.symm; clear hsame
  go_wp2_with fail
  refine (implLessCh _ _ _ n0 n1).mono ?_; rintro e w1 ⟨rfl, hsame⟩; obtain rfl := hsame.symm; clear hsame
  go_wp2_with fail
  go_ret2
  exact ⟨rfl, Below.refl _ _⟩
theorem implMoved (x o f : Int) (w : World) : Calls Try.prog 15 #[.int .i64 x, .int .i64 o, .int .i64 f] w fun e w' => e = .returned (.tuple #[.int .i64 (mvV x o f).1, .bool (mvV x o f).2]) ∧ Below w.heap.size w w' := by
  cases ho : inB o 0 16777215
  · have hv : mvV x o f = (x, false) := by unfold mvV; rw [if_neg (by rw [ho]; simp)]
    rw [hv]
    go_enter Try.func15, Try.ntmps15
    go_wp2_with fail
    refine (implWithin _ _ _ _).mono ?_; rw [ho]; rintro e w1 ⟨rfl, hsame⟩; obtain rfl := hsame.symm; clear hsame
    go_wp2_with fail
    go_ret2
    exact ⟨rfl, Below.refl _ _⟩
  obtain ⟨o0, o1⟩ := inB_true ho
  cases hf : inB f 0 16777215
  · have hv : mvV x o f = (x, false) := by unfold mvV; rw [if_neg (by rw [hf]; simp)]
    rw [hv]
    go_enter Try.func15, Try.ntmps15
    go_wp2_with fail
    refine (implWithin _ _ _ _).mono ?_; rw [ho]; rintro e w1 ⟨rfl, hsame⟩; obtain rfl := hsame.symm; clear hsame
    go_wp2_with fail
    refine (implWithin _ _ _ _).mono ?_; rw [hf]; rintro e w1 ⟨rfl, hsame⟩; obtain rfl := hsame.symm; clear hsame
    go_wp2_with fail
    go_ret2
    exact ⟨rfl, Below.refl _ _⟩
  obtain ⟨f0, f1⟩ := inB_true hf
  have hv : mvV x o f = chV x (x + (f - o)) := by
    unfold mvV chV
    have e : x + (f - o) = x + f - o := by omega
    rw [e, ho, hf]
    simp
  rw [hv]
  clear hv
  go_enter Try.func15, Try.ntmps15
  go_wp2_with fail
  refine (implWithin _ _ _ _).mono ?_; rw [ho]; rintro e w1 ⟨rfl, hsame⟩; obtain rfl := hsame.symm; clear hsame
  go_wp2_with fail
  refine (implWithin _ _ _ _).mono ?_; rw [hf]; rintro e w1 ⟨rfl, hsame⟩; obtain rfl := hsame.symm; clear hsame
  go_wp2_with fail
  refine (implMoreCh _ _ _ (by omega) (by omega)).mono ?_; rintro e w1 ⟨rfl, hsame⟩; obtain rfl := hsame.symm; clear hsame
  go_wp2_with fail
  go_ret2
  exact ⟨rfl, Below.refl _ _⟩
theorem implFits (c s n : Int) (w : World) : Calls Try.prog 20 #[.int .i64 c, .int .i64 s, .int .i64 n] w fun e w' => e = .returned (.int .i64 (ftV c s n)) ∧ Below w.heap.size w w' := by
  cases hc : winB c
  · have hv : ftV c s n = 0 := by unfold ftV; rw [if_neg (by rw [hc]; simp)]
    rw [hv]
    go_enter Try.func20, Try.ntmps20
    go_wp2_with fail
    refine (implWin _ _).mono ?_; rw [hc]; rintro e w1 ⟨rfl, hsame⟩; obtain rfl := hsame.symm; clear hsame
    go_wp2_with fail
    go_ret
    exact ⟨rfl, Below.refl _ _⟩
  cases hs : winB s
  · have hv : ftV c s n = 0 := by unfold ftV; rw [if_neg (by rw [hs]; simp)]
    rw [hv]
    go_enter Try.func20, Try.ntmps20
    go_wp2_with fail
    refine (implWin _ _).mono ?_; rw [hc]; rintro e w1 ⟨rfl, hsame⟩; obtain rfl := hsame.symm; clear hsame
    go_wp2_with fail
    refine (implWin _ _).mono ?_; rw [hs]; rintro e w1 ⟨rfl, hsame⟩; obtain rfl := hsame.symm; clear hsame
    go_wp2_with fail
    go_ret
    exact ⟨rfl, Below.refl _ _⟩
  have hv : ftV c s n = mxV 0 (mnV n (mnV c s)) := by
    unfold ftV
    by_cases hn : 0 ≤ n
    · rw [if_pos ⟨hc, hs, hn⟩]
    · rw [if_neg (by omega)]; unfold mxV mnV; repeat' split <;> omega
  rw [hv]
  clear hv
  have e2 : (if s < (if c < n then c else n) then s else (if c < n then c else n)) = mnV n (mnV c s) := by unfold mnV; repeat' split <;> omega
  have e3 : (if mnV n (mnV c s) > 0 then mnV n (mnV c s) else 0) = mxV 0 (mnV n (mnV c s)) := by unfold mxV; repeat' split <;> omega
  generalize mxV 0 (mnV n (mnV c s)) = R at *
  generalize mnV n (mnV c s) = P at *
  have m1 : ∀ w, (Builtin.min_ #[2, 2, 2] 2 #[.int .i64 n, .int .i64 c, .int .i64 s]).run Try.prog w = .ok (.int .i64 P) w := fun w => by rw [run_min_int3, e2]
  have m2 : ∀ w, (Builtin.max_ #[2, 2] 2 #[.int .i64 0, .int .i64 P]).run Try.prog w = .ok (.int .i64 R) w := fun w => by rw [run_max_int2, e3]
  clear e2 e3
  go_enter Try.func20, Try.ntmps20
  go_wp2_with fail
  refine (implWin _ _).mono ?_; rw [hc]; rintro e w1 ⟨rfl, hsame⟩; obtain rfl := hsame.symm; clear hsame
  go_wp2_with fail
  refine (implWin _ _).mono ?_; rw [hs]; rintro e w1 ⟨rfl, hsame⟩; obtain rfl := hsame.symm; clear hsame
  go_wp2_with fail
  go_ret
  exact ⟨rfl, Below.refl _ _⟩
end Go.Proofs.Ytalngkcmhoebmaa
