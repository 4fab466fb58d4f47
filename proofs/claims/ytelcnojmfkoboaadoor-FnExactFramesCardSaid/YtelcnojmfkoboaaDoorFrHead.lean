/- Chapter 7's heads: may a frame begin so? The program's words for it and the model's. -/
import Derived.Test.YtelcnojmfkoboaaDoorFrNum

namespace Go.Proofs.YtelcnojmfkoboaaDoor
open Go.RowKit
set_option maxRecDepth 100000
set_option linter.unusedSimpArgs false
set_option linter.unusedVariables false
def padB (k fl : Int) : Bool := decide (k = 1) && decide (2 ≤ fl)

set_option maxHeartbeats 1000000 in
theorem implPadded (k fl st : Int) (b : ByteArray) (w : World) (h0 : 0 ≤ fl) (h3 : fl ≤ 3) : Calls Tryd.prog 43 #[.agg #[.int .i64 k, .int .i64 fl, .int .i64 st, .string b]] w fun e w' => e = .returned (.bool (padB k fl)) ∧ Below w.heap.size w w' := by
  by_cases hk : k = 1
  · subst hk
    have : fl = 0 ∨ fl = 1 ∨ fl = 2 ∨ fl = 3 := by omega
    rcases this with rfl | rfl | rfl | rfl
    all_goals
      go_enter Tryd.func43, Tryd.ntmps43
      go_wp2_with fail
      go_ret
      exact ⟨by first | rfl | decide, (by repeat' (first | (with_reducible exact Below.refl _ _) | (with_reducible refine Below.drew ?_) | (with_reducible refine bo_drewN _ ?_) | (with_reducible refine bo_alloc ?_ _) | (refine bchain ?_ (by with_reducible assumption)) | (with_reducible refine Below.setCell ?_ ?_ _) | go_size))⟩
  · have hv : padB k fl = false := by simp [padB, hk]
    rw [hv]
    go_enter Tryd.func43, Tryd.ntmps43
    go_wp2_with fail
    go_ret
    exact ⟨rfl, (by repeat' (first | (with_reducible exact Below.refl _ _) | (with_reducible refine Below.drew ?_) | (with_reducible refine bo_drewN _ ?_) | (with_reducible refine bo_alloc ?_ _) | (refine bchain ?_ (by with_reducible assumption)) | (with_reducible refine Below.setCell ?_ ?_ _) | go_size))⟩
set_option maxHeartbeats 4000000 in
theorem implHead (k fl st n : Int) (b : ByteArray) (w : World) : Calls Tryd.prog 41 #[.agg #[.int .i64 k, .int .i64 fl, .int .i64 st, .string b], .int .i64 n] w fun e w' => e = .returned (.bool (hdOk k fl st n)) ∧ Below w.heap.size w w' := by
  obtain ⟨R, hR⟩ : ∃ R, hdOk k fl st n = R := ⟨_, rfl⟩
  rw [hR]
  have HR := hide hR
  clear hR
  cases h1 : inB fl 0 3
  · go_enter Tryd.func41, Tryd.ntmps41
    go_wp2_with fail
    refine (implWithin _ _ _ _).mono ?_; rw [h1]; rintro e w1 ⟨rfl, rfl⟩
    go_wp2_with fail
    go_ret
    exact ⟨by rw [← HR.out]; simp [hdOk, h1], (by repeat' (first | (with_reducible exact Below.refl _ _) | (with_reducible refine Below.drew ?_) | (with_reducible refine bo_drewN _ ?_) | (with_reducible refine bo_alloc ?_ _) | (refine bchain ?_ (by with_reducible assumption)) | (with_reducible refine Below.setCell ?_ ?_ _) | go_size))⟩
  obtain ⟨f0, f3⟩ := inB_true h1
  cases h2 : inB st 0 100000
  · go_enter Tryd.func41, Tryd.ntmps41
    go_wp2_with fail
    refine (implWithin _ _ _ _).mono ?_; rw [h1]; rintro e w1 ⟨rfl, rfl⟩
    go_wp2_with fail
    refine (implWithin _ _ _ _).mono ?_; rw [h2]; rintro e w1 ⟨rfl, rfl⟩
    go_wp2_with fail
    go_ret
    exact ⟨by rw [← HR.out]; simp [hdOk, h2], (by repeat' (first | (with_reducible exact Below.refl _ _) | (with_reducible refine Below.drew ?_) | (with_reducible refine bo_drewN _ ?_) | (with_reducible refine bo_alloc ?_ _) | (refine bchain ?_ (by with_reducible assumption)) | (with_reducible refine Below.setCell ?_ ?_ _) | go_size))⟩
  obtain ⟨s0, s1⟩ := inB_true h2
  cases h3 : inB n 0 1000
  · go_enter Tryd.func41, Tryd.ntmps41
    go_wp2_with fail
    refine (implWithin _ _ _ _).mono ?_; rw [h1]; rintro e w1 ⟨rfl, rfl⟩
    go_wp2_with fail
    refine (implWithin _ _ _ _).mono ?_; rw [h2]; rintro e w1 ⟨rfl, rfl⟩
    go_wp2_with fail
    refine (implWithin _ _ _ _).mono ?_; rw [h3]; rintro e w1 ⟨rfl, rfl⟩
    go_wp2_with fail
    go_ret
    exact ⟨by rw [← HR.out]; simp [hdOk, h3], (by repeat' (first | (with_reducible exact Below.refl _ _) | (with_reducible refine Below.drew ?_) | (with_reducible refine bo_drewN _ ?_) | (with_reducible refine bo_alloc ?_ _) | (refine bchain ?_ (by with_reducible assumption)) | (with_reducible refine Below.setCell ?_ ?_ _) | go_size))⟩
  obtain ⟨n0, n1⟩ := inB_true h3
  have e0 : hdOk k fl st n = R := HR.out
  simp only [hdOk, h1, h2, h3, Bool.true_eq_false, or_self, if_false] at e0
  have HE := hide e0
  clear e0 HR
  have hk : k = 1 ∨ k = 2 ∨ k = 3 ∨ k = 4 ∨ k = 5 ∨ k = 6 ∨ k = 7 ∨ ¬ (1 ≤ k ∧ k ≤ 7) := by omega
  rcases hk with rfl | rfl | rfl | rfl | rfl | rfl | rfl | hk
  case inr.inr.inr.inr.inr.inr.inr =>
    have q1 : ¬ k = 1 := by omega
    have q2 : ¬ k = 2 := by omega
    have q3 : ¬ k = 3 := by omega
    have q4 : ¬ k = 4 := by omega
    have q5 : ¬ k = 5 := by omega
    have q6 : ¬ k = 6 := by omega
    have q7 : ¬ k = 7 := by omega
    have HF : Hid (R = false) := by show _ = _; rw [← HE.out]; simp [q1, q2, q3, q4, q5, q6, q7]
    clear HE
    go_enter Tryd.func41, Tryd.ntmps41; go_wp2_with fail; refine (implWithin _ _ _ _).mono ?_; rw [h1]; rintro e w1 ⟨rfl, rfl⟩; go_wp2_with fail; refine (implWithin _ _ _ _).mono ?_; rw [h2]; rintro e w1 ⟨rfl, rfl⟩; go_wp2_with fail; refine (implWithin _ _ _ _).mono ?_; rw [h3]; rintro e w1 ⟨rfl, rfl⟩; go_wp2_with fail; go_quiet (fail)
    go_wp2_with fail
    go_ret
    exact ⟨by rw [HF.out]; rfl, (by repeat' (first | (with_reducible exact Below.refl _ _) | (with_reducible refine Below.drew ?_) | (with_reducible refine bo_drewN _ ?_) | (with_reducible refine bo_alloc ?_ _) | (refine bchain ?_ (by with_reducible assumption)) | (with_reducible refine Below.setCell ?_ ?_ _) | go_size))⟩
  case inl =>
    have hp := implPadded 1 fl st b
    cases hq : padB 1 fl
    all_goals
      rw [hq] at hp
      have hq' := hide hq
      clear hq
      go_enter Tryd.func41, Tryd.ntmps41; go_wp2_with fail; refine (implWithin _ _ _ _).mono ?_; rw [h1]; rintro e w1 ⟨rfl, rfl⟩; go_wp2_with fail; refine (implWithin _ _ _ _).mono ?_; rw [h2]; rintro e w1 ⟨rfl, rfl⟩; go_wp2_with fail; refine (implWithin _ _ _ _).mono ?_; rw [h3]; rintro e w1 ⟨rfl, rfl⟩; go_wp2_with fail; go_quiet (fail)
      go_wp2_with (go_at_call 43; refine (hp _ f0 f3).mono ?_; rintro e w1 ⟨rfl, hb1⟩)
      all_goals go_ret
      all_goals exact ⟨by have := hq'.out; (refine congrArg (fun b => Ending.returned (Value.bool b)) ?_; rw [← HE.out, Bool.eq_iff_iff]; simp [padB] at *; omega), (by repeat' (first | (with_reducible exact Below.refl _ _) | (with_reducible refine Below.drew ?_) | (with_reducible refine bo_drewN _ ?_) | (with_reducible refine bo_alloc ?_ _) | (refine bchain ?_ (by with_reducible assumption)) | (with_reducible refine Below.setCell ?_ ?_ _) | go_size))⟩
  all_goals
    go_enter Tryd.func41, Tryd.ntmps41; go_wp2_with fail; refine (implWithin _ _ _ _).mono ?_; rw [h1]; rintro e w1 ⟨rfl, rfl⟩; go_wp2_with fail; refine (implWithin _ _ _ _).mono ?_; rw [h2]; rintro e w1 ⟨rfl, rfl⟩; go_wp2_with fail; refine (implWithin _ _ _ _).mono ?_; rw [h3]; rintro e w1 ⟨rfl, rfl⟩; go_wp2_with fail; go_quiet (fail)
    go_wp2_with fail
    all_goals go_ret
    all_goals exact ⟨by (refine congrArg (fun b => Ending.returned (Value.bool b)) ?_; rw [← HE.out, Bool.eq_iff_iff]; simp [padB] at *; omega), (by repeat' (first | (with_reducible exact Below.refl _ _) | (with_reducible refine Below.drew ?_) | (with_reducible refine bo_drewN _ ?_) | (with_reducible refine bo_alloc ?_ _) | (refine bchain ?_ (by with_reducible assumption)) | (with_reducible refine Below.setCell ?_ ?_ _) | go_size))⟩
end Go.Proofs.YtelcnojmfkoboaaDoor
