/- The law FnExactBucketOk returns true at every argument and leaves it as it was: impl.BucketOk answers as its model. No condition. -/
import Derived.Test.YthoiefhcaplmiaaBktSpec
import Derived.Test.YthoiefhcaplmiaaBktImpl
import Derived.WalkKit
import Derived.ProofKit
import Derived.OpenShut
import Derived.ShutString
import Derived.ChangeOld
import Derived.Below
import Derived.Lib.SmallJoins
import Derived.Deep.Cut
import Derived.Deep.DeepCutAuto

namespace Go.Proofs.Ythoiefhcaplmiaa
open Go.RowKit
set_option maxRecDepth 100000
namespace exactBucketOk
open Go.ChangeShapes Go.WideShapes Go.ChangeAt Go.RowKit Go.Joins
open Go.ChangeMaps (open_string shut_string)
set_option linter.unusedVariables false
set_option linter.unusedSimpArgs false

set_option maxHeartbeats 1000000 in
theorem walk (b : Bk) (w : World) :
    Calls Try.prog 5 #[bv b] w fun x w' => x = .returned (.bool true) ∧ Below w.heap.size w w' := by
  obtain ⟨r, m, l, a⟩ := b
  dsimp only [bv]
  have hsp := fun u => specBucketOk ⟨r, m, l, a⟩ u
  have him := fun u => implBucketOk ⟨r, m, l, a⟩ u
  obtain ⟨v, hv⟩ : ∃ v, okBk ⟨r, m, l, a⟩ = v := ⟨_, rfl⟩
  rw [hv] at hsp him
  clear hv
  dsimp only [bv] at hsp him
  go_enter Try.func5, Try.ntmps5
  go_wp2_with fail
  have R0 := rowIs_new w 36 [.int .i64 r, .int .i64 m, .int .i64 l, .int .i64 a]
  have hB : Below w.heap.size w (w.alloc (.cells #[.int .i64 r, .int .i64 m, .int .i64 l, .int .i64 a] 36)) := (Below.refl _ _).alloc (Nat.le_refl _) _
  refine (toBucket1 ⟨r, m, l, a⟩ _).mono ?_; rintro e w1 ⟨rfl, hb⟩
  replace R0 := R0.new hb
  replace hB := bchain hB hb
  have hz := hb.size
  clear hb
  try clear hz
  dsimp only [bv]
  go_wp2_with fail
  refine (hsp _).mono ?_; rintro e w2 ⟨rfl, hb⟩
  replace R0 := R0.new hb
  replace hB := bchain hB hb
  have hz := hb.size
  clear hb
  try clear hz
  have x0 := RowIs.cell (j := 0) R0 rfl; have x1 := RowIs.cell (j := 1) R0 rfl; have x2 := RowIs.cell (j := 2) R0 rfl; have x3 := RowIs.cell (j := 3) R0 rfl; have x9 := fun j => RowIs.frozen R0 j; have x8 := R0.lt
  go_wp2_with fail
  clear x0 x1 x2 x3 x9 x8
  refine (toBucket1 ⟨r, m, l, a⟩ _).mono ?_; rintro e w3 ⟨rfl, hb⟩
  replace R0 := R0.new hb
  replace hB := bchain hB hb
  have hz := hb.size
  clear hb
  try clear hz
  dsimp only [bv]
  go_wp2_with fail
  refine (him _).mono ?_; rintro e w4 ⟨rfl, hb⟩
  replace R0 := R0.new hb
  replace hB := bchain hB hb
  have hz := hb.size
  clear hb
  try clear hz
  go_wp2_with fail
  go_ret
  exact ⟨rfl, hB⟩


theorem own : ownKnob Try.prog.godebug = none := by kernel_rfl
theorem laidOut : laidOutB Try.prog = true := by kernel_rfl

set_option maxRecDepth 100000 in
theorem lifted (os : Os) (started : os.Started) (H : Type) (enc : TypeId × Value → H) :
    ReturnsInHanded {} Try.checked os 5 .any (Rows.fnExactBucketOkSpec.pre6 enc Try.prog Try.f5 Rows.fnExactBucketOkRow.domain false) (Rows.fnExactBucketOkSpec.post enc Try.prog Try.f5 false true false false) := by
  refine returnsInHanded_of_change (C := Try.checked) own started (by kernel_rfl) Try.func5
    (ChangeSpec.witness6 (enc := enc) (C := Try.checked) false ⟨#[], #[.agg #[.int .i64 0, .int .i64 0, .int .i64 0, .int .i64 0]], []⟩ 8 (by kernel_rfl) (by kernel_rfl) (by kernel_rfl) (by kernel_rfl)) ?_
  intro W base args ds gs before hval0 hW hcnd _
  have hval : ∀ (j : Nat) t v, Try.f5.params[j]? = some t → args[j]? = some v → Value.okWide Try.prog W .any base t v := hval0
  have hW' := hW
  obtain ⟨p, q, hA0, hV, rfl, hfz, hnd⟩ := hW
  have hA : DataW.TrodAll enc Try.prog W 0 (fun _ => true) true Try.f5.params.toList args.toList ds p := hA0
  rw [Try.params5] at hA hval
  obtain ⟨v0, vs0, d0, ds0, p0, q0, hargs, rfl, rfl, h0, r0⟩ := trodAll_cons hA
  obtain ⟨rfl, rfl, rfl⟩ := trodAll_nil r0
  obtain rfl : args = #[v0] := by cases args; simp_all
  obtain ⟨rfl, rfl⟩ := trodVars_none hV
  have k0 := h0
  have lt0 : ∀ x ∈ p0, x.block < W.heap.size := by obtain ⟨m, hm⟩ := k0; exact DataW.trod_lt m _ _ _ hm
  obtain ⟨b, rfl⟩ := open_Bucket (hval 0 36 v0 rfl rfl) h0
  clear hA0 hval0
  refine (walk b W).mono fun e W' ⟨he, bel⟩ => ?_
  subst he
  exact ⟨_, rfl, _, _, _, [], _, [], hW', trodAll_mk1 (shut_bool Try.underlying4 _), (trodAll_cons_mk (Below.trod laidOut (by kernel_rfl) (of_decide_eq_true (by kernel_rfl)) k0 bel lt0) trodAll_mk0), rfl, bel.frame _, fun h => by cases h⟩

theorem over : Rows.fnExactBucketOkRow.holds Try.pinned (OpenSpec.ofChange Rows.fnExactBucketOkSpec) :=
  OpenClaim.holds_of_wide 5 Try.f5 rfl rfl rfl rfl rfl rfl rfl ⟨rfl, rfl, rfl, rfl, rfl⟩ rfl rfl rfl rfl rfl (by kernel_rfl) Try.func5 (by kernel_rfl)
    (of_decide_eq_true (by kernel_rfl)) (by unfold Func.isWrapper; first | (rw [if_pos (by decide +kernel)]; kernel_rfl) | (rw [if_neg (by decide +kernel)]; exact ⟨rfl, rfl⟩))
    (fun os started H enc _ => lifted os started H enc)

end exactBucketOk

theorem exactBucketOk_proved : Rows.FnExactBucketOkSaid := exactBucketOk.over
#print axioms exactBucketOk_proved
end Go.Proofs.Ythoiefhcaplmiaa
