/- Chapter 8's model: Granted, Used, Moved, Fits. -/
import Derived.Test.YtalngkcmhoebmaaWinMath
import Derived.Test.YtalngkcmhoebmaaMinMax

namespace Go.Proofs.Ytalngkcmhoebmaa
open Go.RowKit
set_option maxRecDepth 100000
set_option linter.unusedSimpArgs false
set_option linter.unusedVariables false
theorem specWin (x : Int) (w : World) : Calls Try.prog 28 #[.int .i64 x] w fun e w' => e = .returned (.bool (winB x)) ∧ w' = w := by
  go_enter Try.func28, Try.ntmps28
  go_wp2_with fail
  refine (specIn _ _ _ _).mono ?_; rintro e w1 ⟨rfl, hsame⟩; obtain rfl := hsame.symm; clear hsame
  go_wp2_with fail
  go_ret
  exact ⟨rfl, rfl⟩
theorem specGranted (x n : Int) (w : World) : Calls Try.prog 16 #[.int .i64 x, .int .i64 n] w fun e w' => e = .returned (.tuple #[.int .i64 (grV x n).1, .bool (grV x n).2]) ∧ w' = w := by
  cases hx : winB x
  · have hv : grV x n = (x, false) := by unfold grV; rw [if_neg (by rw [hx]; simp)]
    rw [hv]
    go_enter Try.func16, Try.ntmps16
    go_wp2_with fail
    refine (specWin _ _).mono ?_; rw [hx]; rintro e w1 ⟨rfl, hsame⟩; obtain rfl := hsame.symm; clear hsame
    go_wp2_with fail
    go_ret2
    exact ⟨rfl, rfl⟩
  obtain ⟨x0, x1⟩ := winB_true hx
  cases hn : inB n 1 16777215
  · have hv : grV x n = (x, false) := by unfold grV; rw [if_neg (by rw [hn]; simp)]
    rw [hv]
    go_enter Try.func16, Try.ntmps16
    go_wp2_with fail
    refine (specWin _ _).mono ?_; rw [hx]; rintro e w1 ⟨rfl, hsame⟩; obtain rfl := hsame.symm; clear hsame
    go_wp2_with fail
    refine (specIn _ _ _ _).mono ?_; rw [hn]; rintro e w1 ⟨rfl, hsame⟩; obtain rfl := hsame.symm; clear hsame
    go_wp2_with fail
    go_ret2
    exact ⟨rfl, rfl⟩
  obtain ⟨n0, n1⟩ := inB_true hn
  by_cases hs : x + n ≤ 16777215
  · have hv : grV x n = (x + n, true) := by unfold grV; rw [if_pos ⟨hx, hn, hs⟩]
    rw [hv]
    go_enter Try.func16, Try.ntmps16
    go_wp2_with fail
    refine (specWin _ _).mono ?_; rw [hx]; rintro e w1 ⟨rfl, hsame⟩; obtain rfl := hsame.symm; clear hsame
    go_wp2_with fail
    refine (specIn _ _ _ _).mono ?_; rw [hn]; rintro e w1 ⟨rfl, hsame⟩; obtain rfl := hsame.symm; clear hsame
    go_wp2_with fail
    go_ret2
    exact ⟨rfl, rfl⟩
  · have hv : grV x n = (x, false) := by unfold grV; rw [if_neg (fun c => hs c.2.2)]
    rw [hv]
    go_enter Try.func16, Try.ntmps16
    go_wp2_with fail
    refine (specWin _ _).mono ?_; rw [hx]; rintro e w1 ⟨rfl, hsame⟩; obtain rfl := hsame.symm; clear hsame
    go_wp2_with fail
    refine (specIn _ _ _ _).mono ?_; rw [hn]; rintro e w1 ⟨rfl, hsame⟩; obtain rfl := hsame.symm; clear hsame
    go_wp2_with fail
    go_ret2
    exact ⟨rfl, rfl⟩
theorem specUsed (x n : Int) (w : World) : Calls Try.prog 17 #[.int .i64 x, .int .i64 n] w fun e w' => e = .returned (.tuple #[.int .i64 (usV x n).1, .bool (usV x n).2]) ∧ w' = w := by
  cases hx : winB x
  · have hv : usV x n = (x, false) := by unfold usV; rw [if_neg (by rw [hx]; simp)]
    rw [hv]
    go_enter Try.func17, Try.ntmps17
    go_wp2_with fail
    refine (specWin _ _).mono ?_; rw [hx]; rintro e w1 ⟨rfl, hsame⟩; obtain rfl := hsame.symm; clear hsame
    go_wp2_with fail
    go_ret2
    exact ⟨rfl, rfl⟩
  obtain ⟨x0, x1⟩ := winB_true hx
  by_cases hs : 0 ≤ n ∧ n ≤ x
  · have hv : usV x n = (x - n, true) := by unfold usV; rw [if_pos ⟨hx, hs.1, hs.2⟩]
    obtain ⟨s0, s1⟩ := hs
    rw [hv]
    go_enter Try.func17, Try.ntmps17
    go_wp2_with fail
    refine (specWin _ _).mono ?_; rw [hx]; rintro e w1 ⟨rfl, hsame⟩; obtain rfl := hsame.symm; clear hsame
    go_wp2_with fail
    go_ret2
    exact ⟨rfl, rfl⟩
  · have hv : usV x n = (x, false) := by unfold usV; rw [if_neg (fun c => hs c.2)]
    rw [hv]
    by_cases hn : n < 0
    · clear hs
      go_enter Try.func17, Try.ntmps17
      go_wp2_with fail
      refine (specWin _ _).mono ?_; rw [hx]; rintro e w1 ⟨rfl, hsame⟩; obtain rfl := hsame.symm; clear hsame
      go_wp2_with fail
      go_ret2
      exact ⟨rfl, rfl⟩
    · have hs2 : ¬ n ≤ x := fun c => hs ⟨by omega, c⟩
      clear hs
      go_enter Try.func17, Try.ntmps17
      go_wp2_with fail
      refine (specWin _ _).mono ?_; rw [hx]; rintro e w1 ⟨rfl, hsame⟩; obtain rfl := hsame.symm; clear hsame
      go_wp2_with fail
      go_ret2
      exact ⟨rfl, rfl⟩
theorem specMoved (x o f : Int) (w : World) : Calls Try.prog 18 #[.int .i64 x, .int .i64 o, .int .i64 f] w fun e w' => e = .returned (.tuple #[.int .i64 (mvV x o f).1, .bool (mvV x o f).2]) ∧ w' = w := by
  cases hx : winB x
  · have hv : mvV x o f = (x, false) := by unfold mvV; rw [if_neg (by rw [hx]; simp)]
    rw [hv]
    go_enter Try.func18, Try.ntmps18
    go_wp2_with fail
    refine (specWin _ _).mono ?_; rw [hx]; rintro e w1 ⟨rfl, hsame⟩; obtain rfl := hsame.symm; clear hsame
    go_wp2_with fail
    go_ret2
    exact ⟨rfl, rfl⟩
  obtain ⟨x0, x1⟩ := winB_true hx
  cases ho : inB o 0 16777215
  · have hv : mvV x o f = (x, false) := by unfold mvV; rw [if_neg (by rw [ho]; simp)]
    rw [hv]
    go_enter Try.func18, Try.ntmps18
    go_wp2_with fail
    refine (specWin _ _).mono ?_; rw [hx]; rintro e w1 ⟨rfl, hsame⟩; obtain rfl := hsame.symm; clear hsame
    go_wp2_with fail
    refine (specIn _ _ _ _).mono ?_; rw [ho]; rintro e w1 ⟨rfl, hsame⟩; obtain rfl := hsame.symm; clear hsame
    go_wp2_with fail
    go_ret2
    exact ⟨rfl, rfl⟩
  obtain ⟨o0, o1⟩ := inB_true ho
  cases hf : inB f 0 16777215
  · have hv : mvV x o f = (x, false) := by unfold mvV; rw [if_neg (by rw [hf]; simp)]
    rw [hv]
    go_enter Try.func18, Try.ntmps18
    go_wp2_with fail
    refine (specWin _ _).mono ?_; rw [hx]; rintro e w1 ⟨rfl, hsame⟩; obtain rfl := hsame.symm; clear hsame
    go_wp2_with fail
    refine (specIn _ _ _ _).mono ?_; rw [ho]; rintro e w1 ⟨rfl, hsame⟩; obtain rfl := hsame.symm; clear hsame
    go_wp2_with fail
    refine (specIn _ _ _ _).mono ?_; rw [hf]; rintro e w1 ⟨rfl, hsame⟩; obtain rfl := hsame.symm; clear hsame
    go_wp2_with fail
    go_ret2
    exact ⟨rfl, rfl⟩
  obtain ⟨f0, f1⟩ := inB_true hf
  cases hm : winB (x + f - o)
  · have hv : mvV x o f = (x, false) := by unfold mvV; rw [if_neg (by rw [hm]; simp)]
    rw [hv]
    go_enter Try.func18, Try.ntmps18
    go_wp2_with fail
    refine (specWin _ _).mono ?_; rw [hx]; rintro e w1 ⟨rfl, hsame⟩; obtain rfl := hsame.symm; clear hsame
    go_wp2_with fail
    refine (specIn _ _ _ _).mono ?_; rw [ho]; rintro e w1 ⟨rfl, hsame⟩; obtain rfl := hsame.symm; clear hsame
    go_wp2_with fail
    refine (specIn _ _ _ _).mono ?_; rw [hf]; rintro e w1 ⟨rfl, hsame⟩; obtain rfl := hsame.symm; clear hsame
    go_wp2_with fail
    refine (specWin _ _).mono ?_; rw [hm]; rintro e w1 ⟨rfl, hsame⟩; obtain rfl := hsame.symm; clear hsame
    go_wp2_with fail
    go_ret2
    exact ⟨rfl, rfl⟩
  · have hv : mvV x o f = (x + f - o, true) := by unfold mvV; rw [if_pos ⟨hx, ho, hf, hm⟩]
    rw [hv]
    go_enter Try.func18, Try.ntmps18
    go_wp2_with fail
    refine (specWin _ _).mono ?_; rw [hx]; rintro e w1 ⟨rfl, hsame⟩; obtain rfl := hsame.symm; clear hsame
    go_wp2_with fail
    refine (specIn _ _ _ _).mono ?_; rw [ho]; rintro e w1 ⟨rfl, hsame⟩; obtain rfl := hsame.symm; clear hsame
    go_wp2_with fail
    refine (specIn _ _ _ _).mono ?_; rw [hf]; rintro e w1 ⟨rfl, hsame⟩; obtain rfl := hsame.symm; clear hsame
    go_wp2_with fail
    refine (specWin _ _).mono ?_; rw [hm]; rintro e w1 ⟨rfl, hsame⟩; obtain rfl := hsame.symm; clear hsame
    go_wp2_with fail
    go_ret2
    exact ⟨rfl, rfl⟩
theorem specFits (c s n : Int) (w : World) : Calls Try.prog 21 #[.int .i64 c, .int .i64 s, .int .i64 n] w fun e w' => e = .returned (.int .i64 (ftV c s n)) ∧ w' = w := by
  cases hc : winB c
  · have hv : ftV c s n = 0 := by unfold ftV; rw [if_neg (by rw [hc]; simp)]
    rw [hv]
    go_enter Try.func21, Try.ntmps21
    go_wp2_with fail
    refine (specWin _ _).mono ?_; rw [hc]; rintro e w1 ⟨rfl, hsame⟩; obtain rfl := hsame.symm; clear hsame
    go_wp2_with fail
    go_ret
    exact ⟨rfl, rfl⟩
  cases hs : winB s
  · have hv : ftV c s n = 0 := by unfold ftV; rw [if_neg (by rw [hs]; simp)]
    rw [hv]
    go_enter Try.func21, Try.ntmps21
    go_wp2_with fail
    refine (specWin _ _).mono ?_; rw [hc]; rintro e w1 ⟨rfl, hsame⟩; obtain rfl := hsame.symm; clear hsame
    go_wp2_with fail
    refine (specWin _ _).mono ?_; rw [hs]; rintro e w1 ⟨rfl, hsame⟩; obtain rfl := hsame.symm; clear hsame
    go_wp2_with fail
    go_ret
    exact ⟨rfl, rfl⟩
  by_cases hn : n < 0
  · have hv : ftV c s n = 0 := by unfold ftV; rw [if_neg (by omega)]
    rw [hv]
    go_enter Try.func21, Try.ntmps21
    go_wp2_with fail
    refine (specWin _ _).mono ?_; rw [hc]; rintro e w1 ⟨rfl, hsame⟩; obtain rfl := hsame.symm; clear hsame
    go_wp2_with fail
    refine (specWin _ _).mono ?_; rw [hs]; rintro e w1 ⟨rfl, hsame⟩; obtain rfl := hsame.symm; clear hsame
    go_wp2_with fail
    go_ret
    exact ⟨rfl, rfl⟩
  · have hv : ftV c s n = mxV 0 (mnV n (mnV c s)) := by unfold ftV; rw [if_pos ⟨hc, hs, by omega⟩]
    rw [hv]
    have m1 := fun w => specMin c s w
    have m2 := fun w => specMin n (mnV c s) w
    have m3 := fun w => specMax 0 (mnV n (mnV c s)) w
    have e1 : (if c < s then c else s) = mnV c s := rfl
    have e2 : (if n < mnV c s then n else mnV c s) = mnV n (mnV c s) := rfl
    have e3 : (if (0 : Int) > mnV n (mnV c s) then 0 else mnV n (mnV c s)) = mxV 0 (mnV n (mnV c s)) := rfl
    rw [e1] at m1
    rw [e2] at m2
    rw [e3] at m3
    clear e1 e2 e3
    generalize mxV 0 (mnV n (mnV c s)) = R at *
    generalize mnV n (mnV c s) = P at *
    generalize mnV c s = Q at *
    go_enter Try.func21, Try.ntmps21
    go_wp2_with fail
    refine (specWin _ _).mono ?_; rw [hc]; rintro e w1 ⟨rfl, hsame⟩; obtain rfl := hsame.symm; clear hsame
    go_wp2_with fail
    refine (specWin _ _).mono ?_; rw [hs]; rintro e w1 ⟨rfl, hsame⟩; obtain rfl := hsame.symm; clear hsame
    go_wp2_with fail
    refine (m1 _).mono ?_; rintro e w1 ⟨rfl, hsame⟩; obtain rfl := hsame.symm; clear hsame
    go_wp2_with fail
    refine (m2 _).mono ?_; rintro e w1 ⟨rfl, hsame⟩; obtain rfl := hsame.symm; clear hsame
    go_wp2_with fail
    refine (m3 _).mono ?_; rintro e w1 ⟨rfl, hsame⟩; obtain rfl := hsame.symm; clear hsame
    go_wp2_with fail
    go_ret
    exact ⟨rfl, rfl⟩
end Go.Proofs.Ytalngkcmhoebmaa
