/- The law FnExactTenantsOk returns true at every argument and leaves it as it was: impl.TenantsOk answers as its model. No condition. -/
import Derived.Test.YtbikmedbmnfdbaaTenSpec3
import Derived.Test.YtbikmedbmnfdbaaTenImpl
import Derived.WalkKit
import Derived.ProofKit
import Derived.OpenShut
import Derived.ShutString
import Derived.ChangeOld
import Derived.Below
import Derived.Lib.SmallJoins

namespace Go.Proofs.Ytbikmedbmnfdbaa
open Go.RowKit
set_option maxRecDepth 100000
namespace exactTenantsOk
open Go.ChangeShapes Go.WideShapes Go.ChangeAt Go.RowKit Go.Joins
open Go.ChangeMaps (open_string shut_string)
set_option linter.unusedVariables false
set_option linter.unusedSimpArgs false

set_option maxHeartbeats 2000000 in
theorem walk (L : List TenantD) (v : Value) (w : World) (hr : RdR tenantS w v L) : Calls Try.prog 3 #[v] w fun x w' => x = .returned (.bool true) ∧ Below w.heap.size w w' := by
  obtain ⟨ad, cap, rfl, h1, h2⟩ := hr.form
  have HR := hide hr
  clear hr
  go_enter Try.func3, Try.ntmps3
  go_wp2_with fail
  refine (szTenantS1 L _ 1048576 _ HR.out (by omega) (by omega)).mono ?_
  rintro x w1 ⟨rfl | ⟨rfl, hp⟩, hb1⟩
  · go_wp2_with fail
    go_ret
    exact ⟨rfl, hb1⟩
  have hz : szTenantS L ≤ 1048576 := by omega
  have hlL : L.length ≤ 1048576 := by have := szTenantS_len L; omega
  have hp' : ¬ (1048576 - szTenantS L < 0) := by omega
  have HB := hide hb1
  clear hb1
  generalize hX : 1048576 - szTenantS L = X at *
  clear hX
  go_wp2_with fail
  refine (toTenantS L _ _ (HR.out.new HB.out) hz).mono ?_
  rintro x w2 ⟨v2, rfl, ho2, hb2⟩
  obtain ⟨a2, p2, rfl, _⟩ := ho2.form
  have HO2 := hide ho2
  have HB2 := hide (bchain HB.out hb2)
  clear ho2 hb2
  go_wp2_with fail
  refine (specTenantsOk L _ _ HO2.out.rd).mono ?_
  rintro x w3 ⟨rfl, hb3⟩
  have HB3 := hide (bchain HB2.out hb3)
  clear hb3
  obtain ⟨A, hA⟩ : ∃ A, okTs L = A := ⟨_, rfl⟩
  rw [hA]
  go_wp2_with fail
  refine (toTenantS L _ _ (HR.out.new HB3.out) hz).mono ?_
  rintro x w4 ⟨v4, rfl, ho4, hb4⟩
  obtain ⟨a4, p4, rfl, _⟩ := ho4.form
  have HO4 := hide ho4
  have HB4 := hide (bchain HB3.out hb4)
  clear ho4 hb4
  go_wp2_with fail
  refine (implTenantsOk L _ _ HO4.out.rd).mono ?_
  rw [hA]
  rintro x w5 ⟨rfl, hb5⟩
  have HB5 := hide (bchain HB4.out hb5)
  have HO5 := hide (HO4.out.new hb5)
  clear hb5 HO4 hA
  cases A
  all_goals
    go_wp2_with fail
    refine (toTenantS L _ _ (HR.out.new HB5.out) hz).mono ?_
    rintro x w6 ⟨v6, rfl, ho6, hb6⟩
    obtain ⟨a6, p6, rfl, _⟩ := ho6.form
    have HO6 := hide ho6
    have HB6 := hide (bchain HB5.out hb6)
    have HO7 := hide (HO5.out.new hb6)
    clear ho6 hb6
    go_wp2_with fail
    refine (eqTenantS L _ _ _ HO7.out.rd HO6.out.rd).mono ?_
    rintro x w7 ⟨rfl, hb7⟩
    go_wp2_with fail
    go_ret
    exact ⟨rfl, bchain HB6.out hb7⟩

theorem own : ownKnob Try.prog.godebug = none := by kernel_rfl
theorem laidOut : laidOutB Try.prog = true := by kernel_rfl

set_option maxRecDepth 100000 in
theorem lifted (os : Os) (started : os.Started) (H : Type) (enc : TypeId × Value → H) :
    ReturnsInHanded {} Try.checked os 3 .any (Rows.fnExactTenantsOkSpec.pre6 enc Try.prog Try.f3 Rows.fnExactTenantsOkRow.domain false) (Rows.fnExactTenantsOkSpec.post enc Try.prog Try.f3 false true false false) := by
  refine returnsInHanded_of_change (C := Try.checked) own started (by kernel_rfl) Try.func3
    (ChangeSpec.witness6 (enc := enc) (C := Try.checked) false ⟨#[], #[.slice none 0 0], []⟩ 8 (by kernel_rfl) (by kernel_rfl) (by kernel_rfl) (by kernel_rfl)) ?_
  intro W base args ds gs before hval0 hW hcnd _
  have hval : ∀ (j : Nat) t v, Try.f3.params[j]? = some t → args[j]? = some v → Value.okWide Try.prog W .any base t v := hval0
  have hW' := hW
  obtain ⟨p, q, hA0, hV, rfl, hfz, hnd⟩ := hW
  have hA : DataW.TrodAll enc Try.prog W 0 (fun _ => true) true Try.f3.params.toList args.toList ds p := hA0
  rw [Try.params3] at hA hval
  obtain ⟨v0, vs0, d0, ds0, p0, q0, hargs, rfl, rfl, h0, r0⟩ := trodAll_cons hA
  obtain ⟨rfl, rfl, rfl⟩ := trodAll_nil r0
  obtain rfl : args = #[v0] := by cases args; simp_all
  obtain ⟨rfl, rfl⟩ := trodVars_none hV
  have k0 := h0
  have lt0 : ∀ x ∈ p0, x.block < W.heap.size := by obtain ⟨m, hm⟩ := k0; exact DataW.trod_lt m _ _ _ hm
  obtain ⟨sa0, sl0, sc0, rfl⟩ := okWide_slice Try.underlying22 (hval 0 22 v0 rfl rfl); obtain ⟨n0, hn0⟩ := h0; obtain ⟨L, hpL⟩ := open_shape (E := tenantS) ⟨⟨#[]⟩, ⟨#[]⟩, [], 0⟩ Try.underlying22 (by kernel_rfl) (fun cs n y hy => open_cellsTenant hy) (v := .slice sa0 sl0 sc0) (by simpa [Value.cells] using hn0); clear hn0
  clear hA0 hval0
  refine (walk L _  W hpL).mono fun e W' ⟨he, bel⟩ => ?_
  subst he
  exact ⟨_, rfl, _, _, _, [], _, [], hW', trodAll_mk1 (shut_bool Try.underlying4 _), (trodAll_cons_mk (Below.trod laidOut (by kernel_rfl) (of_decide_eq_true (by kernel_rfl)) k0 bel lt0) trodAll_mk0), rfl, bel.frame _, fun h => by cases h⟩

theorem over : Rows.fnExactTenantsOkRow.holds Try.pinned (OpenSpec.ofChange Rows.fnExactTenantsOkSpec) :=
  OpenClaim.holds_of_wide 3 Try.f3 rfl rfl rfl rfl rfl rfl rfl ⟨rfl, rfl, rfl, rfl, rfl⟩ rfl rfl rfl rfl rfl (by kernel_rfl) Try.func3 (by kernel_rfl)
    (of_decide_eq_true (by kernel_rfl)) (by unfold Func.isWrapper; first | (rw [if_pos (by decide +kernel)]; kernel_rfl) | (rw [if_neg (by decide +kernel)]; exact ⟨rfl, rfl⟩))
    (fun os started H enc _ => lifted os started H enc)

end exactTenantsOk

theorem exactTenantsOk_proved : Rows.FnExactTenantsOkSaid := exactTenantsOk.over
#print axioms exactTenantsOk_proved
end Go.Proofs.Ytbikmedbmnfdbaa
