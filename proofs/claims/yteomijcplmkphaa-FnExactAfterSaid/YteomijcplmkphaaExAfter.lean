/- The law FnExactAfter returns true at every argument and leaves it as it was: impl.After answers as its model. No condition. -/
import Derived.Test.YteomijcplmkphaaStateSpec
import Derived.Test.YteomijcplmkphaaStateImpl
import Derived.Test.YteomijcplmkphaaOpenInts
import Derived.WalkKit
import Derived.ProofKit
import Derived.OpenShut
import Derived.ShutString
import Derived.ChangeOld
import Derived.Below
import Derived.Lib.SmallJoins

namespace Go.Proofs.Yteomijcplmkphaa
open Go.RowKit
set_option maxRecDepth 100000
namespace exactAfter
open Go.ChangeShapes Go.WideShapes Go.ChangeAt Go.RowKit Go.Joins
open Go.ChangeMaps (open_string shut_string)
set_option linter.unusedVariables false
set_option linter.unusedSimpArgs false

set_option maxHeartbeats 1000000 in
theorem walk (L : List Int) (v : Value) (w : World) (hp : Reads w v L.length 1 (iv L)) :
    Calls Try.prog 7 #[v] w fun x w' => x = .returned (.bool true) ∧ Below w.heap.size w w' := by
  obtain ⟨ad, cap, hv, hp1, hp2, _⟩ := hp.2
  subst hv
  have HP := hide hp
  unfold maxLen at hp2
  clear hp
  by_cases hbig : (1048576 : Int) < L.length
  · go_enter Try.func7, Try.ntmps7
    go_wp2_with fail
    go_ret
    exact ⟨rfl, Below.refl _ _⟩
  have hLl : L.length ≤ 1048576 := by omega
  obtain ⟨⟨z, is⟩, hA⟩ : ∃ A, afV 0 L = A := ⟨_, rfl⟩
  have hsp := fun v w h => specAfter L v w h
  have him := fun v w h => implAfter L v w h
  rw [hA] at hsp him
  dsimp only at hsp him
  clear hA
  go_enter Try.func7, Try.ntmps7
  go_wp2_with fail
  refine (toInts L _ _ HP.out hLl).mono ?_; rintro e w1 ⟨v1, rfl, ho1, hb1⟩
  obtain ⟨ad1, cap1, rfl, _, _⟩ := owns_form ho1
  have HB := hide hb1
  go_wp2_with fail
  refine (hsp _ _ (reads_of_owns ho1)).mono ?_; rintro e w2 ⟨rfl, hsame⟩; obtain rfl := hsame.symm; clear hsame
  clear ho1 hb1
  go_wp2_with fail
  refine (toInts L _ _ (HP.out.new HB.out) hLl).mono ?_; rintro e w3 ⟨v3, rfl, ho3, hb3⟩
  obtain ⟨ad3, cap3, rfl, _, _⟩ := owns_form ho3
  replace HB := hide (bchain HB.out hb3)
  have HO := hide ho3
  clear ho3 hb3
  go_wp2_with fail
  refine (him _ _ (reads_of_owns HO.out)).mono ?_; rintro e w4 ⟨rfl, hb4⟩
  replace HO := hide (owns_new HO.out hb4)
  replace HB := hide (bchain HB.out hb4)
  clear hb4
  go_wp2_with fail
  refine (toInts L _ _ (HP.out.new HB.out) hLl).mono ?_; rintro e w5 ⟨v5, rfl, ho5, hb5⟩
  obtain ⟨ad5, cap5, rfl, _, _⟩ := owns_form ho5
  replace HO := hide (owns_new HO.out hb5)
  replace HB := hide (bchain HB.out hb5)
  have HO5 := hide ho5
  clear ho5 hb5
  go_wp2_with fail
  refine (eqInts L _ _ _ (reads_of_owns HO.out) (reads_of_owns HO5.out)).mono ?_; rintro e w6 ⟨rfl, hb6⟩
  replace HB := hide (bchain HB.out hb6)
  clear hb6
  go_wp2_with fail
  go_ret
  exact ⟨rfl, HB.out⟩


theorem own : ownKnob Try.prog.godebug = none := by kernel_rfl
theorem laidOut : laidOutB Try.prog = true := by kernel_rfl

set_option maxRecDepth 100000 in
theorem lifted (os : Os) (started : os.Started) (H : Type) (enc : TypeId × Value → H) :
    ReturnsInHanded {} Try.checked os 7 .any (Rows.fnExactAfterSpec.pre6 enc Try.prog Try.f7 Rows.fnExactAfterRow.domain false) (Rows.fnExactAfterSpec.post enc Try.prog Try.f7 false true false false) := by
  refine returnsInHanded_of_change (C := Try.checked) own started (by kernel_rfl) Try.func7
    (ChangeSpec.witness6 (enc := enc) (C := Try.checked) false ⟨#[], #[.slice none 0 0], []⟩ 8 (by kernel_rfl) (by kernel_rfl) (by kernel_rfl) (by kernel_rfl)) ?_
  intro W base args ds gs before hval0 hW hcnd _
  have hval : ∀ (j : Nat) t v, Try.f7.params[j]? = some t → args[j]? = some v → Value.okWide Try.prog W .any base t v := hval0
  have hW' := hW
  obtain ⟨p, q, hA0, hV, rfl, hfz, hnd⟩ := hW
  have hA : DataW.TrodAll enc Try.prog W 0 (fun _ => true) true Try.f7.params.toList args.toList ds p := hA0
  rw [Try.params7] at hA hval
  obtain ⟨v0, vs0, d0, ds0, p0, q0, hargs, rfl, rfl, h0, r0⟩ := trodAll_cons hA
  obtain ⟨rfl, rfl, rfl⟩ := trodAll_nil r0
  obtain rfl : args = #[v0] := by cases args; simp_all
  obtain ⟨rfl, rfl⟩ := trodVars_none hV
  have k0 := h0
  have lt0 : ∀ x ∈ p0, x.block < W.heap.size := by obtain ⟨m, hm⟩ := k0; exact DataW.trod_lt m _ _ _ hm
  obtain ⟨sa, sl, sc, rfl⟩ := okWide_slice Try.underlying28 (hval 0 28 v0 rfl rfl); obtain ⟨n1, hn1⟩ := h0; obtain ⟨L, hL⟩ := open_int64s (v := .slice sa sl sc) (by simpa [Value.cells] using hn1); clear hn1
  clear hA0 hval0
  refine (walk L (.slice sa sl sc) W hL).mono fun e W' ⟨he, bel⟩ => ?_
  subst he
  exact ⟨_, rfl, _, _, _, [], _, [], hW', trodAll_mk1 (shut_bool Try.underlying4 _), (trodAll_cons_mk (Below.trod laidOut (by kernel_rfl) (of_decide_eq_true (by kernel_rfl)) k0 bel lt0) trodAll_mk0), rfl, bel.frame _, fun h => by cases h⟩

theorem over : Rows.fnExactAfterRow.holds Try.pinned (OpenSpec.ofChange Rows.fnExactAfterSpec) :=
  OpenClaim.holds_of_wide 7 Try.f7 rfl rfl rfl rfl rfl rfl rfl ⟨rfl, rfl, rfl, rfl, rfl⟩ rfl rfl rfl rfl rfl (by kernel_rfl) Try.func7 (by kernel_rfl)
    (of_decide_eq_true (by kernel_rfl)) (by unfold Func.isWrapper; first | (rw [if_pos (by decide +kernel)]; kernel_rfl) | (rw [if_neg (by decide +kernel)]; exact ⟨rfl, rfl⟩))
    (fun os started H enc _ => lifted os started H enc)

end exactAfter

theorem exactAfter_proved : Rows.FnExactAfterSaid := exactAfter.over
#print axioms exactAfter_proved
end Go.Proofs.Yteomijcplmkphaa
