/- The law FnExactOver returns true at every argument and leaves it as it was: impl.Over answers as its model. No condition. -/
import Derived.Test.YthkjjnnmnacgcaaTunSpec3
import Derived.Test.YthkjjnnmnacgcaaTunImpl
import Derived.WalkKit
import Derived.ProofKit
import Derived.OpenShut
import Derived.ShutString
import Derived.ChangeOld
import Derived.Below
import Derived.Lib.SmallJoins
import Derived.Deep.Cut
import Derived.Deep.DeepCutAuto

namespace Go.Proofs.Ythkjjnnmnacgcaa
open Go.RowKit
set_option maxRecDepth 100000
namespace exactOver
open Go.ChangeShapes Go.WideShapes Go.ChangeAt Go.RowKit Go.Joins
open Go.ChangeMaps (open_string shut_string)
set_option linter.unusedVariables false
set_option linter.unusedSimpArgs false

set_option maxHeartbeats 2000000 in
theorem walk (t : TuD) (w : World) (h1 : t.up.b.size ≤ maxLen) (h2 : t.dn.b.size ≤ maxLen) :
    Calls Try.prog 4 #[tuv t] w fun x w' => x = .returned (.bool true) ∧ Below w.heap.size w w' := by
  obtain ⟨⟨r, b, e, k⟩, ⟨r2, b2, e2, k2⟩, wt, cm⟩ := t
  dsimp only [tuv] at *
  have hsp := fun u => specOver ⟨⟨r, b, e, k⟩, ⟨r2, b2, e2, k2⟩, wt, cm⟩ u h1 h2
  have him := fun u => implOver ⟨⟨r, b, e, k⟩, ⟨r2, b2, e2, k2⟩, wt, cm⟩ u h1 h2
  obtain ⟨z, hv⟩ : ∃ v, ovrTu ⟨⟨r, b, e, k⟩, ⟨r2, b2, e2, k2⟩, wt, cm⟩ = v := ⟨_, rfl⟩
  rw [hv] at hsp him
  clear hv
  dsimp only [tuv] at hsp him
  have hzz : (z != z) = false := by simp
  go_enter Try.func4, Try.ntmps4
  obtain ⟨W, hW⟩ : ∃ W, w.alloc (.cells #[.int .i64 r, .string b, .bool e, .bool k, .int .i64 r2, .string b2, .bool e2, .bool k2, .int .i64 wt, .int .i64 cm] 44) = W := ⟨_, rfl⟩
  have RX : RowIs W w.heap.size 44 [.int .i64 r, .string b, .bool e, .bool k, .int .i64 r2, .string b2, .bool e2, .bool k2, .int .i64 wt, .int .i64 cm] := by rw [← hW]; exact rowIs_new w 44 [.int .i64 r, .string b, .bool e, .bool k, .int .i64 r2, .string b2, .bool e2, .bool k2, .int .i64 wt, .int .i64 cm]
  have HB : Below w.heap.size w W := by rw [← hW]; exact (Below.refl _ _).alloc (Nat.le_refl _) _
  go_wp2_with (refine wpList_load_row (by rfl) 44 _ (by rfl) w.heap.size (by rfl) [.int .i64 r, .string b, .bool e, .bool k, .int .i64 r2, .string b2, .bool e2, .bool k2, .int .i64 wt, .int .i64 cm] _ 44 RX Try.underlying44 rfl (by kernel_rfl) ?_)
  clear hW
  refine (szTunnel1 ⟨⟨r, b, e, k⟩, ⟨r2, b2, e2, k2⟩, wt, cm⟩ _ h1 h2).mono ?_; rintro x w1 ⟨⟨y, rfl, hy⟩, hb⟩
  replace RX := RX.new hb
  replace HB := bchain HB hb
  clear hb
  by_cases hy0 : y < 0
  · go_wp2_with fail
    go_ret
    exact ⟨rfl, HB⟩
  clear hy
  go_wp2_with (refine wpList_load_row (by rfl) 44 _ (by rfl) w.heap.size (by rfl) [.int .i64 r, .string b, .bool e, .bool k, .int .i64 r2, .string b2, .bool e2, .bool k2, .int .i64 wt, .int .i64 cm] _ 44 RX Try.underlying44 rfl (by kernel_rfl) ?_)
  refine (toTunnel1 ⟨⟨r, b, e, k⟩, ⟨r2, b2, e2, k2⟩, wt, cm⟩ _).mono ?_; rintro x x01 ⟨rfl, hb⟩
  replace RX := RX.new hb
  replace HB := bchain HB hb
  clear hb
  dsimp only [tuv]
  go_wp2_with fail
  refine (hsp _).mono ?_; rintro x x02 ⟨rfl, hb⟩
  replace RX := RX.new hb
  replace HB := bchain HB hb
  clear hb
  go_wp2_with (refine wpList_load_row (by rfl) 44 _ (by rfl) w.heap.size (by rfl) [.int .i64 r, .string b, .bool e, .bool k, .int .i64 r2, .string b2, .bool e2, .bool k2, .int .i64 wt, .int .i64 cm] _ 44 RX Try.underlying44 rfl (by kernel_rfl) ?_)
  refine (toTunnel1 ⟨⟨r, b, e, k⟩, ⟨r2, b2, e2, k2⟩, wt, cm⟩ _).mono ?_; rintro x x11 ⟨rfl, hb⟩
  replace RX := RX.new hb
  replace HB := bchain HB hb
  clear hb
  dsimp only [tuv]
  go_wp2_with fail
  refine (him _).mono ?_; rintro x x12 ⟨rfl, hb⟩
  replace RX := RX.new hb
  replace HB := bchain HB hb
  clear hb
  go_wp2_with fail
  go_ret
  exact ⟨rfl, HB⟩


theorem own : ownKnob Try.prog.godebug = none := by kernel_rfl
theorem laidOut : laidOutB Try.prog = true := by kernel_rfl

set_option maxRecDepth 100000 in
theorem lifted (os : Os) (started : os.Started) (H : Type) (enc : TypeId × Value → H) :
    ReturnsInHanded {} Try.checked os 4 .any (Rows.fnExactOverSpec.pre6 enc Try.prog Try.f4 Rows.fnExactOverRow.domain false) (Rows.fnExactOverSpec.post enc Try.prog Try.f4 false true false false) := by
  refine returnsInHanded_of_change (C := Try.checked) own started (by kernel_rfl) Try.func4
    (ChangeSpec.witness6 (enc := enc) (C := Try.checked) false ⟨#[], #[.agg #[.int .i64 0, .string ⟨#[]⟩, .bool false, .bool false, .int .i64 0, .string ⟨#[]⟩, .bool false, .bool false, .int .i64 0, .int .i64 0]], []⟩ 8 (by kernel_rfl) (by kernel_rfl) (by kernel_rfl) (by kernel_rfl)) ?_
  intro W base args ds gs before hval0 hW hcnd _
  have hval : ∀ (j : Nat) t v, Try.f4.params[j]? = some t → args[j]? = some v → Value.okWide Try.prog W .any base t v := hval0
  have hW' := hW
  obtain ⟨p, q, hA0, hV, rfl, hfz, hnd⟩ := hW
  have hA : DataW.TrodAll enc Try.prog W 0 (fun _ => true) true Try.f4.params.toList args.toList ds p := hA0
  rw [Try.params4] at hA hval
  obtain ⟨v0, vs0, d0, ds0, p0, q0, hargs, rfl, rfl, h0, r0⟩ := trodAll_cons hA
  obtain ⟨rfl, rfl, rfl⟩ := trodAll_nil r0
  obtain rfl : args = #[v0] := by cases args; simp_all
  obtain ⟨rfl, rfl⟩ := trodVars_none hV
  have k0 := h0
  have lt0 : ∀ x ∈ p0, x.block < W.heap.size := by obtain ⟨m, hm⟩ := k0; exact DataW.trod_lt m _ _ _ hm
  obtain ⟨t, ht1, ht2, rfl⟩ := open_Tunnel (hval 0 44 v0 rfl rfl) h0
  clear hA0 hval0
  refine (walk t W ht1 ht2).mono fun e W' ⟨he, bel⟩ => ?_
  subst he
  exact ⟨_, rfl, _, _, _, [], _, [], hW', trodAll_mk1 (shut_bool Try.underlying4 _), (trodAll_cons_mk (Below.trod laidOut (by kernel_rfl) (of_decide_eq_true (by kernel_rfl)) k0 bel lt0) trodAll_mk0), rfl, bel.frame _, fun h => by cases h⟩

theorem over : Rows.fnExactOverRow.holds Try.pinned (OpenSpec.ofChange Rows.fnExactOverSpec) :=
  OpenClaim.holds_of_wide 4 Try.f4 rfl rfl rfl rfl rfl rfl rfl ⟨rfl, rfl, rfl, rfl, rfl⟩ rfl rfl rfl rfl rfl (by kernel_rfl) Try.func4 (by kernel_rfl)
    (of_decide_eq_true (by kernel_rfl)) (by unfold Func.isWrapper; first | (rw [if_pos (by decide +kernel)]; kernel_rfl) | (rw [if_neg (by decide +kernel)]; exact ⟨rfl, rfl⟩))
    (fun os started H enc _ => lifted os started H enc)

end exactOver

theorem exactOver_proved : Rows.FnExactOverSaid := exactOver.over
#print axioms exactOver_proved
end Go.Proofs.Ythkjjnnmnacgcaa
