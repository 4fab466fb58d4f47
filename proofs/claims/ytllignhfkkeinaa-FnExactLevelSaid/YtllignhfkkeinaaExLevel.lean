/- The law FnExactLevel returns true at every argument and leaves it as it was: impl.Level answers as its model. No condition. -/
import Derived.Test.YtllignhfkkeinaaShareSpec
import Derived.Test.YtllignhfkkeinaaShareImpl
import Derived.Test.YtllignhfkkeinaaOwnsGrown
import Derived.Test.YtllignhfkkeinaaOpenInts
import Derived.WalkKit
import Derived.ProofKit
import Derived.OpenShut
import Derived.ShutString
import Derived.ChangeOld
import Derived.Below
import Derived.Lib.SmallJoins

namespace Go.Proofs.Ytllignhfkkeinaa
open Go.RowKit
set_option maxRecDepth 100000
namespace exactLevel
open Go.ChangeShapes Go.WideShapes Go.ChangeAt Go.RowKit Go.Joins
open Go.ChangeMaps (open_string shut_string)
set_option linter.unusedVariables false
set_option linter.unusedSimpArgs false

set_option maxHeartbeats 2000000 in
theorem walk (L : List Int) (v : Value) (room : Int) (w : World) (hpL : Reads w v L.length 1 (iv L)) :
    Calls Try.prog 5 #[v, .int .i64 room] w fun x w' => x = .returned (.bool true) ∧ Below w.heap.size w w' := by
  obtain ⟨adL, capL, hvL, hpL1, hpL2, _⟩ := hpL.2
  subst hvL
  have HPL := hide hpL
  unfold maxLen at hpL2
  clear hpL
  by_cases hbigL : (1048576 : Int) < L.length
  · go_enter Try.func5, Try.ntmps5
    go_wp2_with fail
    go_ret
    exact ⟨rfl, Below.refl _ _⟩
  have hLL : L.length ≤ 1048576 := by omega
  have HB := hide (Below.refl w.heap.size w)
  go_enter Try.func5, Try.ntmps5
  go_wp2_with fail
  refine (toInts L _ _ (HPL.out.new HB.out) hLL).mono ?_; rintro e w1 ⟨vA, rfl, ho, hb⟩
  obtain ⟨aA, pA, rfl, _, hmA⟩ := owns_form ho
  unfold maxLen at hmA
  have BA : Hid (∀ q, (Value.slice aA L.length pA).ownBlock = some q → _ ∧ _) := fun q hq => ho.lt q hq
  have HA := hide ho
  clear ho
  replace HB := hide (bchain HB.out hb)
  have z1 := hb.size
  clear hb
  go_wp2_with fail
  refine (specLevel L _ room _ (reads_of_owns HA.out)).mono ?_; rintro e wA ⟨s, rfl, hsh, hb⟩
  have HSH := hide hsh
  clear hsh
  replace HA := hide (owns_new HA.out hb)
  replace HB := hide (bchain HB.out hb)
  have z50 := hb.size
  clear hb
  clear HA BA
  go_wp2_with fail
  refine (toInts L _ _ (HPL.out.new HB.out) hLL).mono ?_; rintro e w51 ⟨vX, rfl, ho, hb⟩
  obtain ⟨aX, pX, rfl, _, hmX⟩ := owns_form ho
  unfold maxLen at hmX
  have BX : Hid (∀ q, (Value.slice aX L.length pX).ownBlock = some q → _ ∧ _) := fun q hq => ho.lt q hq
  have HX := hide ho
  clear ho
  replace HB := hide (bchain HB.out hb)
  have z51 := hb.size
  clear hb
  go_wp2_with fail
  refine (implLevel L _ room _ (reads_of_owns HX.out)).mono ?_; rintro e wB ⟨s2, rfl, hsh, hb⟩
  obtain rfl := HSH.out.one hsh
  clear hsh
  replace HX := hide (owns_new HX.out hb)
  replace HB := hide (bchain HB.out hb)
  have z60 := hb.size
  clear hb
  generalize maxL s (-1) = mx
  go_wp2_with fail
  refine (toInts L _ _ (HPL.out.new HB.out) hLL).mono ?_; rintro e w61 ⟨vT, rfl, ho, hb⟩
  obtain ⟨aT, pT, rfl, _, hmT⟩ := owns_form ho
  unfold maxLen at hmT
  have BT : Hid (∀ q, (Value.slice aT L.length pT).ownBlock = some q → _ ∧ _) := fun q hq => ho.lt q hq
  have HT := hide ho
  clear ho
  replace HX := hide (owns_new HX.out hb)
  replace HB := hide (bchain HB.out hb)
  have z61 := hb.size
  clear hb
  go_wp2_with fail
  refine (eqInts L _ _ _ (reads_of_owns HX.out) (reads_of_owns HT.out)).mono ?_; rintro e w62 ⟨rfl, hb⟩
  replace HX := hide (owns_new HX.out hb)
  replace HT := hide (owns_new HT.out hb)
  replace HB := hide (bchain HB.out hb)
  have z62 := hb.size
  clear hb
  go_wp2_with fail
  go_ret
  exact ⟨rfl, HB.out⟩


theorem own : ownKnob Try.prog.godebug = none := by kernel_rfl
theorem laidOut : laidOutB Try.prog = true := by kernel_rfl

set_option maxRecDepth 100000 in
theorem lifted (os : Os) (started : os.Started) (H : Type) (enc : TypeId × Value → H) :
    ReturnsInHanded {} Try.checked os 5 .any (Rows.fnExactLevelSpec.pre6 enc Try.prog Try.f5 Rows.fnExactLevelRow.domain false) (Rows.fnExactLevelSpec.post enc Try.prog Try.f5 false true false false) := by
  refine returnsInHanded_of_change (C := Try.checked) own started (by kernel_rfl) Try.func5
    (ChangeSpec.witness6 (enc := enc) (C := Try.checked) false ⟨#[], #[.slice none 0 0, .int .i64 0], []⟩ 8 (by kernel_rfl) (by kernel_rfl) (by kernel_rfl) (by kernel_rfl)) ?_
  intro W base args ds gs before hval0 hW hcnd _
  have hval : ∀ (j : Nat) t v, Try.f5.params[j]? = some t → args[j]? = some v → Value.okWide Try.prog W .any base t v := hval0
  have hW' := hW
  obtain ⟨p, q, hA0, hV, rfl, hfz, hnd⟩ := hW
  have hA : DataW.TrodAll enc Try.prog W 0 (fun _ => true) true Try.f5.params.toList args.toList ds p := hA0
  rw [Try.params5] at hA hval
  obtain ⟨v0, vs0, d0, ds0, p0, q0, hargs, rfl, rfl, h0, r0⟩ := trodAll_cons hA
  obtain ⟨v1, vs1, d1, ds1, p1, q1, rfl, rfl, rfl, h1, r1⟩ := trodAll_cons r0
  obtain ⟨rfl, rfl, rfl⟩ := trodAll_nil r1
  obtain rfl : args = #[v0, v1] := by cases args; simp_all
  obtain ⟨rfl, rfl⟩ := trodVars_none hV
  have k0 := h0
  have lt0 : ∀ x ∈ p0, x.block < W.heap.size := by obtain ⟨m, hm⟩ := k0; exact DataW.trod_lt m _ _ _ hm
  have k1 := h1
  have lt1 : ∀ x ∈ p1, x.block < W.heap.size := by obtain ⟨m, hm⟩ := k1; exact DataW.trod_lt m _ _ _ hm
  obtain ⟨sa0, sl0, sc0, rfl⟩ := okWide_slice Try.underlying24 (hval 0 24 v0 rfl rfl); obtain ⟨n0, hn0⟩ := h0; obtain ⟨L, hpL, hinL⟩ := open_int64r (v := .slice sa0 sl0 sc0) (by simpa [Value.cells] using hn0); clear hn0
  obtain ⟨room, rfl, rfl, rfl, wroom⟩ := open_int Try.underlying2 (hval 1 2 v1 rfl rfl) h1
  clear hA0 hval0
  refine (walk L _ room W hpL).mono fun e W' ⟨he, bel⟩ => ?_
  subst he
  exact ⟨_, rfl, _, _, _, [], _, [], hW', trodAll_mk1 (shut_bool Try.underlying4 _), (trodAll_cons_mk (Below.trod laidOut (by kernel_rfl) (of_decide_eq_true (by kernel_rfl)) k0 bel lt0) (trodAll_cons_mk (Below.trod laidOut (by kernel_rfl) (of_decide_eq_true (by kernel_rfl)) k1 bel lt1) trodAll_mk0)), rfl, bel.frame _, fun h => by cases h⟩

theorem over : Rows.fnExactLevelRow.holds Try.pinned (OpenSpec.ofChange Rows.fnExactLevelSpec) :=
  OpenClaim.holds_of_wide 5 Try.f5 rfl rfl rfl rfl rfl rfl rfl ⟨rfl, rfl, rfl, rfl, rfl⟩ rfl rfl rfl rfl rfl (by kernel_rfl) Try.func5 (by kernel_rfl)
    (of_decide_eq_true (by kernel_rfl)) (by unfold Func.isWrapper; first | (rw [if_pos (by decide +kernel)]; kernel_rfl) | (rw [if_neg (by decide +kernel)]; exact ⟨rfl, rfl⟩))
    (fun os started H enc _ => lifted os started H enc)

end exactLevel

theorem exactLevel_proved : Rows.FnExactLevelSaid := exactLevel.over
#print axioms exactLevel_proved
end Go.Proofs.Ytllignhfkkeinaa
