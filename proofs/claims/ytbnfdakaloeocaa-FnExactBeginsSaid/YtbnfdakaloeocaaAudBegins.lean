/- Chapter 19, the program: impl.Begins by strings.HasPrefix. -/
import Derived.Test.YtbnfdakaloeocaaAudSpec
import Derived.WalkMore

namespace Go.Proofs.Ytbnfdakaloeocaa
open Go.RowKit
set_option maxRecDepth 100000
set_option linter.unusedSimpArgs false
set_option linter.unusedVariables false
set_option maxHeartbeats 4000000 in
theorem liteHasPrefix (s t : ByteArray) (w : World) (hs : s.size ≤ maxLen) (ht : t.size ≤ maxLen) : Calls Try.prog 7 #[.string t, .string s] w fun x w' => x = .returned (.bool (begV s t)) ∧ Below w.heap.size w w' := by
  unfold maxLen at hs ht
  by_cases h : s.size ≤ t.size
  · have hV : begV s t = ((t.extract 0 s.size).toList == s.toList) := by unfold begV; simp [h]
    have hsl1 : ∀ w, (Instr.slice 9 (.string t) none (some (.int .i64 (s.size : Int))) none).run Try.prog w = .ok (.string (t.extract 0 s.size)) w := fun w => by
      rw [run_slice_string_to_if (P := Try.prog) w 9 t .i64 (s.size : Int) Try.underlying9, if_pos (by omega)]; congr 3
    rw [hV]
    generalize t.extract 0 s.size = Y at *
    clear hV
    have hi : (s.size : Int) ≤ t.size := by omega
    go_enter Try.func7, Try.ntmps7
    go_wp2_with fail
    go_ret
    exact ⟨rfl, (by repeat' (first | (with_reducible exact Below.refl _ _) | (with_reducible refine Below.drew ?_) | (with_reducible refine bo_drewN _ ?_) | (with_reducible refine bo_alloc ?_ _) | (refine bchain ?_ (by with_reducible assumption)) | (with_reducible refine Below.setCell ?_ ?_ _) | go_size))⟩
  · have hV : begV s t = false := by unfold begV; simp [h]
    rw [hV]
    have hi : ¬ (s.size : Int) ≤ t.size := by omega
    go_enter Try.func7, Try.ntmps7
    go_wp2_with fail
    go_ret
    exact ⟨rfl, (by repeat' (first | (with_reducible exact Below.refl _ _) | (with_reducible refine Below.drew ?_) | (with_reducible refine bo_drewN _ ?_) | (with_reducible refine bo_alloc ?_ _) | (refine bchain ?_ (by with_reducible assumption)) | (with_reducible refine Below.setCell ?_ ?_ _) | go_size))⟩
set_option maxHeartbeats 4000000 in
theorem strsHasPrefix (s t : ByteArray) (w : World) (hs : s.size ≤ maxLen) (ht : t.size ≤ maxLen) : Calls Try.prog 6 #[.string t, .string s] w fun x w' => x = .returned (.bool (begV s t)) ∧ Below w.heap.size w w' := by
  have hsp := fun w => liteHasPrefix s t w hs ht
  go_enter Try.func6, Try.ntmps6
  go_wp2_with fail
  refine (hsp _).mono ?_; rintro x w1 ⟨rfl, hb1⟩
  go_wp2_with fail
  go_ret
  exact ⟨rfl, hb1⟩
set_option maxHeartbeats 4000000 in
theorem implBegins (s t : ByteArray) (w : World) (hs : s.size ≤ maxLen) (ht : t.size ≤ maxLen) : Calls Try.prog 5 #[.string s, .string t] w fun x w' => x = .returned (.bool (begV s t)) ∧ Below w.heap.size w w' := by
  have hsp := fun w => strsHasPrefix s t w hs ht
  go_enter Try.func5, Try.ntmps5
  go_wp2_with fail
  refine (hsp _).mono ?_; rintro x w1 ⟨rfl, hb1⟩
  go_wp2_with fail
  go_ret
  exact ⟨rfl, hb1⟩
end Go.Proofs.Ytbnfdakaloeocaa
