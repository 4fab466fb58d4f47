/- Chapter 9's model: Next, MaySend, MayGet, After. -/
import Derived.Test.YtgodopiejiajjaaStateMath
import Derived.Test.YtgodopiejiajjaaInts

namespace Go.Proofs.Ytgodopiejiajjaa
open Go.RowKit
set_option maxRecDepth 100000
set_option linter.unusedSimpArgs false
set_option linter.unusedVariables false
set_option maxHeartbeats 4000000 in
theorem specNext (s e : Int) (w : World) : Calls Try.prog 66 #[.int .i64 s, .int .i64 e] w fun x w' => x = .returned (.tuple #[.int .i64 (nxV s e).1, .bool (nxV s e).2]) ∧ w' = w := by
  rcases st_cases s with rfl | rfl | rfl | rfl | rfl | hs
  rotate_left 5
  · rw [nx_bad hs]
    obtain ⟨h0, h1, h2, h3, h4⟩ := hs
    rcases ev_cases e with rfl | rfl | rfl | rfl | rfl | rfl | rfl | ⟨e1, e2, e3, e4, e5, e6, e7⟩
    all_goals (
      go_enter Try.func66, Try.ntmps66
      go_wp2_with fail
      go_ret2
      exact ⟨rfl, rfl⟩)
  all_goals (
    rcases ev_cases e with rfl | rfl | rfl | rfl | rfl | rfl | rfl | he
    rotate_left 7
    · rw [nx_none he]
      obtain ⟨e1, e2, e3, e4, e5, e6, e7⟩ := he
      have q1 : (e == 1) = false := (by simpa using e1); have q2 : (e == 2) = false := (by simpa using e2); have q3 : (e == 3) = false := (by simpa using e3); have q4 : (e == 4) = false := (by simpa using e4); have q5 : (e == 5) = false := (by simpa using e5); have q6 : (e == 6) = false := (by simpa using e6); have q7 : (e == 7) = false := (by simpa using e7)
      clear e1 e2 e3 e4 e5 e6 e7
      go_enter Try.func66, Try.ntmps66
      go_wp2_with fail
      go_ret2
      exact ⟨rfl, rfl⟩
    all_goals (
      go_enter Try.func66, Try.ntmps66
      go_wp2_with fail
      go_ret2
      exact ⟨rfl, rfl⟩))
end Go.Proofs.Ytgodopiejiajjaa
