/- Chapter 19's model: Owed, Grants, Begins. -/
import Derived.Test.YtbnfdakaloeocaaAudMath
import Derived.Test.YtbnfdakaloeocaaFrSpec

namespace Go.Proofs.Ytbnfdakaloeocaa
open Go.RowKit
set_option maxRecDepth 100000
set_option linter.unusedSimpArgs false
set_option linter.unusedVariables false
/-- Does t begin with s? -/
def begV (s t : ByteArray) : Bool := decide (s.size ≤ t.size) && ((t.extract 0 s.size).toList == s.toList)
set_option maxHeartbeats 1000000 in
theorem specBegins (s t : ByteArray) (w : World) (hs : s.size ≤ maxLen) (ht : t.size ≤ maxLen) : Calls Try.prog 4 #[.string s, .string t] w fun x w' => x = .returned (.bool (begV s t)) ∧ Below w.heap.size w w' := by
  unfold maxLen at hs ht
  by_cases h : s.size ≤ t.size
  · have hV : begV s t = ((t.extract 0 s.size).toList == s.toList) := by unfold begV; simp [h]
    have hsl1 : ∀ w, (Instr.slice 9 (.string t) none (some (.int .i64 (s.size : Int))) none).run Try.prog w = .ok (.string (t.extract 0 s.size)) w := fun w => by
      rw [run_slice_string_to_if (P := Try.prog) w 9 t .i64 (s.size : Int) Try.underlying9, if_pos (by omega)]; congr 3
    rw [hV]
    generalize t.extract 0 s.size = Y at *
    clear hV
    have hi : (s.size : Int) ≤ t.size := by omega
    go_enter Try.func4, Try.ntmps4
    go_wp2_with fail
    go_ret
    exact ⟨rfl, (by repeat' (first | (with_reducible exact Below.refl _ _) | (with_reducible refine Below.drew ?_) | (with_reducible refine bo_drewN _ ?_) | (with_reducible refine bo_alloc ?_ _) | (refine bchain ?_ (by with_reducible assumption)) | (with_reducible refine Below.setCell ?_ ?_ _) | go_size))⟩
  · have hV : begV s t = false := by unfold begV; simp [h]
    rw [hV]
    have hi : ¬ (s.size : Int) ≤ t.size := by omega
    go_enter Try.func4, Try.ntmps4
    go_wp2_with fail
    go_ret
    exact ⟨rfl, (by repeat' (first | (with_reducible exact Below.refl _ _) | (with_reducible refine Below.drew ?_) | (with_reducible refine bo_drewN _ ?_) | (with_reducible refine bo_alloc ?_ _) | (refine bchain ?_ (by with_reducible assumption)) | (with_reducible refine Below.setCell ?_ ?_ _) | go_size))⟩
end Go.Proofs.Ytbnfdakaloeocaa
