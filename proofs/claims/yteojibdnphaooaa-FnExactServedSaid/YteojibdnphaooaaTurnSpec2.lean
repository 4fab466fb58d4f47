/- Chapter 11's model: Waiting. -/
import Derived.Test.YteojibdnphaooaaTurnSpec1

namespace Go.Proofs.Yteojibdnphaooaa
open Go.RowKit
set_option maxRecDepth 100000
set_option linter.unusedSimpArgs false
set_option linter.unusedVariables false
set_option maxHeartbeats 1000000 in
theorem specWaiting (d : RoundD) (v : Value) (w : World) (hr : RdR lineS w v d.ls) : Calls Try.prog 22 #[.agg #[.int .i64 d.turn, .bool d.given, v]] w fun x w' => x = .returned (.int .i64 (waitingD d)) ∧ Below w.heap.size w w' := by
  obtain ⟨ad, cap, rfl, h1, h2⟩ := hr.form
  have hbx : Below w.heap.size w (w.alloc (.cells #[.int .i64 d.turn, .bool d.given, .slice ad d.ls.length cap] 26)) := (Below.refl _ _).alloc (Nat.le_refl _) _
  have HR := hide (hr.new hbx)
  have RB := hide (rowIs_new w 26 [.int .i64 d.turn, .bool d.given, .slice ad d.ls.length cap])
  clear hr
  cases hok : okRn d
  · have hv : waitingD d = -1 := by unfold waitingD; rw [if_neg (by rw [hok]; decide)]
    rw [hv]
    clear hv
    go_enter Try.func22, Try.ntmps22
    go_wp2_with fail
    refine (specRoundOk d _ _ HR.out).mono ?_; rw [hok]; rintro x w1 ⟨rfl, hb1⟩
    go_wp2_with fail
    go_ret
    exact ⟨rfl, bchain hbx hb1⟩
  · have hv : waitingD d = waitLs d.ls := by unfold waitingD; rw [if_pos hok]
    rw [hv]
    clear hv
    obtain ⟨z, hz⟩ : ∃ z, waitLs d.ls = z := ⟨_, rfl⟩
    have hcl := fun v u h => waiting1 d v u h hok
    rw [hz] at hcl ⊢
    clear hz
    go_enter Try.func22, Try.ntmps22
    go_wp2_with fail
    refine (specRoundOk d _ _ HR.out).mono ?_; rw [hok]; rintro x w1 ⟨rfl, hb1⟩
    have R1 := RB.out.new hb1
    have k0 := RowIs.cell (j := 0) R1 rfl
    have k1 := RowIs.cell (j := 1) R1 rfl
    have k2 := RowIs.cell (j := 2) R1 rfl
    have kl := R1.lt
    have HB1 := hide hb1
    clear R1 hb1
    go_wp2_with fail
    refine (hcl _ _ (HR.out.new HB1.out)).mono ?_; rintro x w2 ⟨rfl, hb2⟩
    go_wp2_with fail
    go_ret
    exact ⟨rfl, bchain (bchain hbx HB1.out) hb2⟩
end Go.Proofs.Yteojibdnphaooaa
