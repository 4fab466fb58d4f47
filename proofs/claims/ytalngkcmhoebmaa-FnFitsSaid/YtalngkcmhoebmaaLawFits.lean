/- The law FnFits returns true at every argument and leaves it as it was. No condition. -/
import Derived.Test.YtalngkcmhoebmaaWinSpec
import Derived.Test.YtalngkcmhoebmaaWinImpl
import Derived.Test.YtalngkcmhoebmaaWinDraw
import Derived.WalkKit
import Derived.ProofKit
import Derived.OpenShut
import Derived.ShutString
import Derived.ChangeOld
import Derived.Below
import Derived.Lib.SmallJoins

namespace Go.Proofs.Ytalngkcmhoebmaa
open Go.RowKit
set_option maxRecDepth 100000
set_option linter.unusedSimpArgs false
set_option linter.unusedVariables false
namespace lawFits
set_option maxHeartbeats 4000000 in
set_option maxRecDepth 100000 in
theorem walk (a : Option Addr) (len cap : Nat) (w : World) (hl : len ≤ maxLen) (hcode : CodeAt w a len w.heap.size) :
    Calls Try.prog 4 #[.slice a len cap] w fun x w' => x = .returned (.bool true) ∧ Below w.heap.size w w' := by
  unfold maxLen at hl
  by_cases hbig : (4096 : Int) < len
  · go_enter Try.func4, Try.ntmps4
    go_wp2_with fail
    refine (big1 a len cap _).mono ?_; rw [decide_eq_true hbig]; rintro x w1 ⟨rfl, rfl⟩
    go_wp2_with fail
    go_ret
    exact ⟨rfl, Below.refl _ _⟩
  have hl' : len ≤ 4096 := by omega
  have HCODE := hide hcode
  clear hcode
  go_enter Try.func4, Try.ntmps4
  go_wp2_with fail
  refine (big1 a len cap _).mono ?_; rw [decide_eq_false (by omega)]; rintro x w0 ⟨rfl, rfl⟩
  have HBW := hide (Below.refl w0.heap.size w0)
  go_wp2_with fail
  refine (drawFits a len cap _ hl' (HCODE.out.behind HBW.out)).mono ?_; rintro e w1 ⟨c, s, n, rfl, hb⟩
  replace HBW := hide (bchain HBW.out hb)
  clear hb
  obtain ⟨k, hk⟩ : ∃ x, ftV c s n = x := ⟨_, rfl⟩
  have iF := fun w => implFits c s n w
  have sF := fun w => specFits c s n w
  have k0 := ft_pos c s n
  have k9 := ft_le c s n
  rw [hk] at iF sF k0 k9
  have HK := hide hk
  clear hk
  go_wp2_with fail
  refine (iF _).mono ?_; rintro e w2 ⟨rfl, hb⟩
  replace HBW := hide (bchain HBW.out hb)
  clear hb
  go_wp2_with fail
  refine (sF _).mono ?_; rintro e w3 ⟨rfl, hsame⟩; obtain rfl := hsame.symm; clear hsame
  by_cases hz : k = 0
  · subst hz
    go_wp2_with fail
    go_ret
    exact ⟨rfl, HBW.out⟩
  · obtain ⟨h1, h2, h3, h4, h5, h6, h7⟩ := law_fits HK.out hz
    have e1 := us_fits h1 (by omega) h4
    have e2 := us_fits h2 (by omega) h5
    have i1 := fun w => implUsed c k w
    have i2 := fun w => implUsed s k w
    rw [e1] at i1
    rw [e2] at i2
    dsimp only at i1 i2
    obtain ⟨⟨v3, b3⟩, hv3⟩ : ∃ x, usV c (k + 1) = x := ⟨_, rfl⟩
    obtain ⟨⟨v4, b4⟩, hv4⟩ : ∃ x, usV s (k + 1) = x := ⟨_, rfl⟩
    have i3 := fun w => implUsed c (k + 1) w
    have i4 := fun w => implUsed s (k + 1) w
    rw [hv3] at i3
    rw [hv4] at i4
    dsimp only at i3 i4
    have HEND : Hid (k = n ∨ b3 = false ∨ b4 = false) := by
      show _ ∨ _
      rcases h7 with e | e | e
      · exact .inl e
      · have := us_more (w := c) (k := k + 1) (by omega)
        rw [hv3] at this
        exact .inr (.inl (Prod.mk.inj this).2)
      · have := us_more (w := s) (k := k + 1) (by omega)
        rw [hv4] at this
        exact .inr (.inr (Prod.mk.inj this).2)
    clear e1 e2 hv3 hv4 h7
    go_wp2_with fail
    refine (i1 _).mono ?_; rintro e w4 ⟨rfl, hb⟩
    replace HBW := hide (bchain HBW.out hb)
    clear hb
    go_wp2_with fail
    refine (i2 _).mono ?_; rintro e w5 ⟨rfl, hb⟩
    replace HBW := hide (bchain HBW.out hb)
    clear hb
    go_wp2_with fail
    refine (i3 _).mono ?_; rintro e w6 ⟨rfl, hb⟩
    replace HBW := hide (bchain HBW.out hb)
    clear hb
    go_wp2_with fail
    refine (i4 _).mono ?_; rintro e w7 ⟨rfl, hb⟩
    replace HBW := hide (bchain HBW.out hb)
    clear hb
    rcases HEND.out with e | e | e
    · subst e
      go_wp2_with fail
      all_goals go_ret
      all_goals exact ⟨by first | rfl | simp | (simp; omega), HBW.out⟩
    · subst e
      go_wp2_with fail
      all_goals go_ret
      all_goals exact ⟨by first | rfl | simp | (simp; omega), HBW.out⟩
    · subst e
      go_wp2_with fail
      all_goals go_ret
      all_goals exact ⟨by first | rfl | simp | (simp; omega), HBW.out⟩

open Go.ChangeShapes Go.WideShapes Go.ChangeAt Go.Joins
open Go.ChangeMaps (open_string shut_string)


theorem own : ownKnob Try.prog.godebug = none := by kernel_rfl
theorem laidOut : laidOutB Try.prog = true := by kernel_rfl

set_option maxRecDepth 100000 in
theorem lifted (os : Os) (started : os.Started) (H : Type) (enc : TypeId × Value → H) :
    ReturnsInHanded {} Try.checked os 4 .any (Rows.fnFitsSpec.pre6 enc Try.prog Try.f4 Rows.fnFitsRow.domain false) (Rows.fnFitsSpec.post enc Try.prog Try.f4 false true false false) := by
  refine returnsInHanded_of_change (C := Try.checked) own started (by kernel_rfl) Try.func4
    (ChangeSpec.witness6 (enc := enc) (C := Try.checked) false ⟨#[], #[.slice none 0 0], []⟩ 8 (by kernel_rfl) (by kernel_rfl) (by kernel_rfl) (by kernel_rfl)) ?_
  intro W base args ds gs before hval0 hW hcnd _
  have hval : ∀ (j : Nat) t v, Try.f4.params[j]? = some t → args[j]? = some v → Value.okWide Try.prog W .any base t v := hval0
  have hW' := hW
  obtain ⟨p, q, hA0, hV, rfl, hfz, hnd⟩ := hW
  have hA : DataW.TrodAll enc Try.prog W 0 (fun _ => true) true Try.f4.params.toList args.toList ds p := hA0
  rw [Try.params4] at hA hval
  obtain ⟨v0, vs0, d0, ds0, p0, q0, hargs, rfl, rfl, h0, r0⟩ := trodAll_cons hA
  obtain ⟨rfl, rfl, rfl⟩ := trodAll_nil r0
  obtain rfl : args = #[v0] := by cases args; simp_all
  obtain ⟨rfl, rfl⟩ := trodVars_none hV
  have k0 := h0
  have lt0 : ∀ x ∈ p0, x.block < W.heap.size := by obtain ⟨m, hm⟩ := k0; exact DataW.trod_lt m _ _ _ hm
  obtain ⟨a0, len0, cap0, rfl⟩ := okWide_slice Try.underlying22 (hval 0 22 v0 rfl rfl); obtain ⟨hl0, hc0⟩ := open_code h0
  clear hA0 hval0
  refine (walk a0 len0 cap0 W hl0 hc0).mono fun e W' ⟨he, bel⟩ => ?_
  subst he
  exact ⟨_, rfl, _, _, _, [], _, [], hW', trodAll_mk1 (shut_bool Try.underlying4 _), (trodAll_cons_mk (Below.trod laidOut (by kernel_rfl) (of_decide_eq_true (by kernel_rfl)) k0 bel lt0) trodAll_mk0), rfl, bel.frame _, fun h => by cases h⟩

theorem over : Rows.fnFitsRow.holds Try.pinned (OpenSpec.ofChange Rows.fnFitsSpec) :=
  OpenClaim.holds_of_wide 4 Try.f4 rfl rfl rfl rfl rfl rfl rfl ⟨rfl, rfl, rfl, rfl, rfl⟩ rfl rfl rfl rfl rfl (by kernel_rfl) Try.func4 (by kernel_rfl)
    (of_decide_eq_true (by kernel_rfl)) (by unfold Func.isWrapper; first | (rw [if_pos (by decide +kernel)]; kernel_rfl) | (rw [if_neg (by decide +kernel)]; exact ⟨rfl, rfl⟩))
    (fun os started H enc _ => lifted os started H enc)

end lawFits

theorem lawFits_proved : Rows.FnFitsSaid := lawFits.over
#print axioms lawFits_proved
end Go.Proofs.Ytalngkcmhoebmaa
