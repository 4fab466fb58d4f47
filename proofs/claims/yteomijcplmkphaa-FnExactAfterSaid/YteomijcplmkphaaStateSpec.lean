/- Chapter 9's model: Next, MaySend, MayGet, After. -/
import Derived.Test.YteomijcplmkphaaStateMath
import Derived.Test.YteomijcplmkphaaInts

namespace Go.Proofs.Yteomijcplmkphaa
open Go.RowKit
set_option maxRecDepth 100000
set_option linter.unusedSimpArgs false
set_option linter.unusedVariables false
set_option maxHeartbeats 4000000 in
theorem specNext (s e : Int) (w : World) : Calls Try.prog 15 #[.int .i64 s, .int .i64 e] w fun x w' => x = .returned (.tuple #[.int .i64 (nxV s e).1, .bool (nxV s e).2]) ∧ w' = w := by
  rcases st_cases s with rfl | rfl | rfl | rfl | rfl | hs
  rotate_left 5
  · rw [nx_bad hs]
    obtain ⟨h0, h1, h2, h3, h4⟩ := hs
    rcases ev_cases e with rfl | rfl | rfl | rfl | rfl | rfl | rfl | ⟨e1, e2, e3, e4, e5, e6, e7⟩
    all_goals (
      go_enter Try.func15, Try.ntmps15
      go_wp2_with fail
      go_ret2
      exact ⟨rfl, rfl⟩)
  all_goals (
    rcases ev_cases e with rfl | rfl | rfl | rfl | rfl | rfl | rfl | he
    rotate_left 7
    · rw [nx_none he]
      obtain ⟨e1, e2, e3, e4, e5, e6, e7⟩ := he
      have q1 : (e == 1) = false := (by simpa using e1); have q2 : (e == 2) = false := (by simpa using e2); have q3 : (e == 3) = false := (by simpa using e3); have q4 : (e == 4) = false := (by simpa using e4); have q5 : (e == 5) = false := (by simpa using e5); have q6 : (e == 6) = false := (by simpa using e6); have q7 : (e == 7) = false := (by simpa using e7)
      clear e1 e2 e3 e4 e5 e6 e7
      go_enter Try.func15, Try.ntmps15
      go_wp2_with fail
      go_ret2
      exact ⟨rfl, rfl⟩
    all_goals (
      go_enter Try.func15, Try.ntmps15
      go_wp2_with fail
      go_ret2
      exact ⟨rfl, rfl⟩))
theorem specMaySend (s : Int) (w : World) : Calls Try.prog 17 #[.int .i64 s] w fun x w' => x = .returned (.bool (msV s)) ∧ w' = w := by
  rcases st_cases s with rfl | rfl | rfl | rfl | rfl | ⟨h0, h1, h2, h3, h4⟩
  rotate_left 5
  · have hv : msV s = false := by simp [msV, h1, h2]
    rw [hv]
    have q1 : (s == 1) = false := (by simpa using h1); have q2 : (s == 2) = false := (by simpa using h2); have q3 : (s == 3) = false := (by simpa using h3)
    go_enter Try.func17, Try.ntmps17
    go_wp2_with fail
    go_ret
    exact ⟨rfl, rfl⟩
  all_goals (
    go_enter Try.func17, Try.ntmps17
    go_wp2_with fail
    go_ret
    exact ⟨rfl, rfl⟩)
theorem specMayGet (s : Int) (w : World) : Calls Try.prog 19 #[.int .i64 s] w fun x w' => x = .returned (.bool (mgV s)) ∧ w' = w := by
  rcases st_cases s with rfl | rfl | rfl | rfl | rfl | ⟨h0, h1, h2, h3, h4⟩
  rotate_left 5
  · have hv : mgV s = false := by simp [mgV, h1, h3]
    rw [hv]
    have q1 : (s == 1) = false := (by simpa using h1); have q2 : (s == 2) = false := (by simpa using h2); have q3 : (s == 3) = false := (by simpa using h3)
    go_enter Try.func19, Try.ntmps19
    go_wp2_with fail
    go_ret
    exact ⟨rfl, rfl⟩
  all_goals (
    go_enter Try.func19, Try.ntmps19
    go_wp2_with fail
    go_ret
    exact ⟨rfl, rfl⟩)
set_option maxHeartbeats 1000000 in
theorem specAfter (L : List Int) (v : Value) (w : World) (hr0 : Reads w v L.length 1 (iv L)) : Calls Try.prog 20 #[v] w fun x w' => x = .returned (.tuple #[.int .i64 (afV 0 L).1, .bool (afV 0 L).2]) ∧ w' = w := by
  obtain ⟨hl, ad, cap, rfl, h1, h2, h3⟩ := hr0
  have H3 := hide h3
  clear h3
  unfold maxLen at h2
  obtain ⟨A, hA⟩ : ∃ A, afV 0 L = A := ⟨_, rfl⟩
  have HA0 : Hid (afV 0 (L.drop 0) = A) := hA
  rw [hA]
  clear hA
  go_enter Try.func20, Try.ntmps20
  go_wp2_with fail
  go_loop [4, 5] (fun s i => ∃ (k : Nat) (z : Int), i = .int .i64 k ∧ s = .int .i64 z ∧ k ≤ L.length ∧ Hid (afV z (L.drop k) = A)) (fun _ i => L.length - (intOf i).toNat)
  case atStart => exact ⟨0, 0, rfl, rfl, Nat.zero_le _, HA0⟩
  case round =>
    obtain ⟨k, z, rfl, rfl, hk, HA⟩ := hrel
    by_cases hlt : k < L.length
    · obtain ⟨b, o, rfl, hbw, hc⟩ := H3.out (by omega)
      have hck := hc k _ (iv_get L k hlt)
      clear hc
      obtain ⟨ev, hev⟩ : ∃ ev, L[k] = ev := ⟨_, rfl⟩
      rw [hev] at hck
      obtain ⟨⟨n, is⟩, hn⟩ : ∃ y, nxV z ev = y := ⟨_, rfl⟩
      have hN := fun w => specNext z ev w
      rw [hn] at hN
      dsimp only at hN
      cases is
      · have HE : Hid (A = (z, false)) := by rw [← HA.out]; exact af_step_no hlt (by rw [hev]; exact hn)
        clear hn hev
        go_wp2_with fail
        refine (hN _).mono ?_; rintro e w1 ⟨rfl, hsame⟩; obtain rfl := hsame.symm; clear hsame
        go_wp2_with fail
        go_ret2
        exact ⟨by rw [HE.out]; rfl, rfl⟩
      · have HE : Hid (afV n (L.drop (k + 1)) = A) := by rw [← HA.out]; exact (af_step_yes hlt (by rw [hev]; exact hn)).symm
        clear hn hev
        go_wp2_with fail
        refine (hN _).mono ?_; rintro e w1 ⟨rfl, hsame⟩; obtain rfl := hsame.symm; clear hsame
        go_wp2_with fail
        go_round
        case rel => exact ⟨k + 1, n, by go_num, rfl, by omega, HE⟩
        case measure => simp [intOf]; omega
    · have HE : Hid (A = (z, true)) := by rw [← HA.out]; exact af_end (by omega)
      go_wp2_with fail
      go_ret2
      exact ⟨by rw [HE.out]; rfl, rfl⟩
end Go.Proofs.Yteomijcplmkphaa
