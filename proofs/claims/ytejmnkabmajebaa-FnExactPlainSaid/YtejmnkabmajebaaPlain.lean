/- The law FnExactPlain returns true at every argument and leaves it as it was: impl.Plain answers as its model. No condition. -/
import Derived.Test.YtejmnkabmajebaaPlainOf
import Derived.WalkKit
import Derived.ProofKit
import Derived.OpenShut
import Derived.ShutString
import Derived.ChangeOld
import Derived.Below
import Derived.Lib.SmallJoins

namespace Go.Proofs.Ytejmnkabmajebaa
open Go.RowKit
set_option maxRecDepth 100000
namespace exactPlain
open Go.ChangeShapes Go.WideShapes Go.ChangeAt Go.RowKit Go.Joins
set_option linter.unusedVariables false
set_option linter.unusedSimpArgs false

set_option maxHeartbeats 1000000 in
theorem walk (L : List Fd) (v : Value) (w : World) (hr0 : Reads w v L.length 2 (fv L)) (hf : ∀ f ∈ L, f.fine) :
    Calls Try.prog 7 #[v] w fun x w' => x = .returned (.bool true) ∧ Below w.heap.size w w' := by
  have HR := hide hr0; have HF := hide hf
  obtain ⟨ad, cap, rfl, _⟩ := hr0.2
  clear hr0 hf
  by_cases h : (1048576 : Int) - L.length - szL L < 0
  · go_enter Try.func7, Try.ntmps7
    go_wp2_with fail
    refine (szFields L _ _ _ HR.out HF.out (by omega) (by omega)).mono ?_; rw [if_pos (by omega)]; rintro x w1 ⟨rfl, hb1⟩
    go_wp2_with fail
    go_ret
    exact ⟨rfl, hb1⟩
  · have hlen : L.length ≤ 1048576 := by have := szL_pos L; omega
    go_enter Try.func7, Try.ntmps7
    go_wp2_with fail
    refine (szFields L _ _ _ HR.out HF.out (by omega) (by omega)).mono ?_; rw [if_neg (by omega)]; rintro x w1 ⟨rfl, hb1⟩
    go_wp2_with fail
    refine (toFields L _ _ (HR.out.new hb1) hlen).mono ?_; rintro x w2 ⟨v2, rfl, ho2, hb2⟩
    replace hb2 := bchain hb1 hb2
    have HO2 := hide ho2
    clear ho2 hb1
    go_wp2_with fail
    refine (specPlain L _ _ (reads_of_owns HO2.out) HF.out hlen).mono ?_; rintro x w3 ⟨rfl, hb3⟩
    replace hb3 := bchain hb2 hb3
    clear hb2 HO2
    go_wp2_with fail
    refine (toFields L _ _ (HR.out.new hb3) hlen).mono ?_; rintro x w4 ⟨v4, rfl, ho4, hb4⟩
    replace hb4 := bchain hb3 hb4
    have HO4 := hide ho4
    clear ho4 hb3
    go_wp2_with fail
    refine (implPlain L _ _ (reads_of_owns HO4.out) HF.out hlen).mono ?_; rintro x w5 ⟨rfl, hb5⟩
    replace HO4 := hide (owns_new HO4.out hb5)
    replace hb5 := bchain hb4 hb5
    clear hb4
    go_wp2_with fail
    refine (toFields L _ _ (HR.out.new hb5) hlen).mono ?_; rintro x w6 ⟨v6, rfl, ho6, hb6⟩
    replace HO4 := hide (owns_new HO4.out hb6)
    replace hb6 := bchain hb5 hb6
    have HO6 := hide ho6
    clear ho6 hb5
    go_wp2_with fail
    refine (eqFields L _ _ _ (reads_of_owns HO4.out) (reads_of_owns HO6.out)).mono ?_; rintro x w7 ⟨rfl, hb7⟩
    replace hb7 := bchain hb6 hb7
    go_wp2_with fail
    go_ret
    exact ⟨rfl, hb7⟩


theorem own : ownKnob Try.prog.godebug = none := by kernel_rfl
theorem laidOut : laidOutB Try.prog = true := by kernel_rfl

set_option maxRecDepth 100000 in
theorem lifted (os : Os) (started : os.Started) (H : Type) (enc : TypeId × Value → H) :
    ReturnsInHanded {} Try.checked os 7 .any (Rows.fnExactPlainSpec.pre6 enc Try.prog Try.f7 Rows.fnExactPlainRow.domain false) (Rows.fnExactPlainSpec.post enc Try.prog Try.f7 false true false false) := by
  refine returnsInHanded_of_change (C := Try.checked) own started (by kernel_rfl) Try.func7
    (ChangeSpec.witness6 (enc := enc) (C := Try.checked) false ⟨#[], #[.slice none 0 0], []⟩ 8 (by kernel_rfl) (by kernel_rfl) (by kernel_rfl) (by kernel_rfl)) ?_
  intro W base args ds gs before hval0 hW hcnd _
  have hval : ∀ (j : Nat) t v, Try.f7.params[j]? = some t → args[j]? = some v → Value.okWide Try.prog W .any base t v := hval0
  have hW' := hW
  obtain ⟨p, q, hA0, hV, rfl, hfz, hnd⟩ := hW
  have hA : DataW.TrodAll enc Try.prog W 0 (fun _ => true) true Try.f7.params.toList args.toList ds p := hA0
  rw [Try.params7] at hA hval
  obtain ⟨v0, vs0, d0, ds0, p0, q0, hargs, rfl, rfl, h0, r0⟩ := trodAll_cons hA
  obtain ⟨rfl, rfl, rfl⟩ := trodAll_nil r0
  obtain rfl : args = #[v0] := by cases args; simp_all
  obtain ⟨rfl, rfl⟩ := trodVars_none hV
  have k0 := h0
  have lt0 : ∀ x ∈ p0, x.block < W.heap.size := by obtain ⟨m, hm⟩ := k0; exact DataW.trod_lt m _ _ _ hm
  obtain ⟨L, hL, hF⟩ := open_FieldS (hval 0 47 v0 rfl rfl) h0
  clear hA0 hval0
  refine (walk L v0 W hL hF).mono fun e W' ⟨he, bel⟩ => ?_
  subst he
  exact ⟨_, rfl, _, _, _, [], _, [], hW', trodAll_mk1 (shut_bool Try.underlying4 _), (trodAll_cons_mk (Below.trod laidOut (by kernel_rfl) (of_decide_eq_true (by kernel_rfl)) k0 bel lt0) trodAll_mk0), rfl, bel.frame _, fun h => by cases h⟩

theorem over : Rows.fnExactPlainRow.holds Try.pinned (OpenSpec.ofChange Rows.fnExactPlainSpec) :=
  OpenClaim.holds_of_wide 7 Try.f7 rfl rfl rfl rfl rfl rfl rfl ⟨rfl, rfl, rfl, rfl, rfl⟩ rfl rfl rfl rfl rfl (by kernel_rfl) Try.func7 (by kernel_rfl)
    (of_decide_eq_true (by kernel_rfl)) (by unfold Func.isWrapper; first | (rw [if_pos (by decide +kernel)]; kernel_rfl) | (rw [if_neg (by decide +kernel)]; exact ⟨rfl, rfl⟩))
    (fun os started H enc _ => lifted os started H enc)

end exactPlain

theorem exactPlain_proved : Rows.FnExactPlainSaid := exactPlain.over
#print axioms exactPlain_proved
end Go.Proofs.Ytejmnkabmajebaa
