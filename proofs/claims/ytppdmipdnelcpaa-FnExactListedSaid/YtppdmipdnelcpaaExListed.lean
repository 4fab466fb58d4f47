/- The law FnExactListed returns true at every argument and leaves it as it was: impl.Listed answers as its model. No condition. -/
import Derived.Test.YtppdmipdnelcpaaTokList
import Derived.Test.YtppdmipdnelcpaaShStr
import Derived.Test.YtppdmipdnelcpaaTokImpl
import Derived.WalkKit
import Derived.ProofKit
import Derived.OpenShut
import Derived.ShutString
import Derived.ChangeOld
import Derived.Below
import Derived.Lib.SmallJoins

namespace Go.Proofs.Ytppdmipdnelcpaa
open Go.RowKit
set_option maxRecDepth 100000
namespace exactListed
open Go.ChangeShapes Go.WideShapes Go.ChangeAt Go.RowKit Go.Joins
open Go.ChangeMaps (open_string shut_string)
set_option linter.unusedVariables false
set_option linter.unusedSimpArgs false

set_option maxHeartbeats 2000000 in
theorem walk (L : List ByteArray) (v : Value) (t : ByteArray) (w : World) (hr : RdR strS w v L) (ht : t.size ≤ maxLen) : Calls Try.prog 4 #[v, .string t] w fun x w' => x = .returned (.bool true) ∧ Below w.heap.size w w' := by
  obtain ⟨ad, cap, rfl, h1, h2⟩ := hr.form
  have HR := hide hr
  have ht' : t.size ≤ 9223372036854775807 := by unfold maxLen at ht; omega
  have hLs : ∀ x ∈ L, x.size ≤ maxLen := fun x hx => by have := rd_small HR.out x hx; unfold maxLen; omega
  have HLS := hide hLs
  clear hr hLs
  by_cases hbig : (1048576 : Int) < t.size
  · go_enter Try.func4, Try.ntmps4
    go_wp2_with fail
    go_ret
    exact ⟨rfl, Below.refl _ _⟩
  go_enter Try.func4, Try.ntmps4
  go_wp2_with fail
  refine (szStringS1 L _ 1048576 _ HR.out (by omega) (by omega)).mono ?_
  rintro x w1 ⟨rfl | ⟨rfl, hp⟩, hb1⟩
  · go_wp2_with fail
    go_ret
    exact ⟨rfl, hb1⟩
  have hz : szStringS L ≤ 1048576 := by omega
  have hp' : ¬ (1048576 - szStringS L < 0) := by omega
  have HB := hide hb1
  clear hb1
  generalize hX : 1048576 - szStringS L = X at *
  clear hX
  go_wp2_with fail
  refine (toStringS L _ _ (HR.out.new HB.out) hz).mono ?_
  rintro x w2 ⟨v2, rfl, ho2, hb2⟩
  obtain ⟨a2, p2, rfl, _⟩ := ho2.form
  have HO2 := hide ho2
  have HB2 := hide (bchain HB.out hb2)
  clear ho2 hb2
  go_wp2_with fail
  refine (specListed L t _ _ (rd_strs HO2.out.rd) HLS.out ht).mono ?_
  rintro x w3 ⟨rfl, hb3⟩
  have HB3 := hide (bchain HB2.out hb3)
  clear hb3
  obtain ⟨A, hA⟩ : ∃ A, listV L t = A := ⟨_, rfl⟩
  rw [hA]
  go_wp2_with fail
  refine (toStringS L _ _ (HR.out.new HB3.out) hz).mono ?_
  rintro x w4 ⟨v4, rfl, ho4, hb4⟩
  obtain ⟨a4, p4, rfl, _⟩ := ho4.form
  have HO4 := hide ho4
  have HB4 := hide (bchain HB3.out hb4)
  clear ho4 hb4
  go_wp2_with fail
  refine (implListed L t _ _ (rd_strs HO4.out.rd) HLS.out ht).mono ?_
  rw [hA]
  rintro x w5 ⟨rfl, hb5⟩
  have HB5 := hide (bchain HB4.out hb5)
  have HO5 := hide (HO4.out.new hb5)
  clear hb5 HO4 hA
  cases A
  all_goals
    go_wp2_with fail
    refine (toStringS L _ _ (HR.out.new HB5.out) hz).mono ?_
    rintro x w6 ⟨v6, rfl, ho6, hb6⟩
    obtain ⟨a6, p6, rfl, _⟩ := ho6.form
    have HO6 := hide ho6
    have HB6 := hide (bchain HB5.out hb6)
    have HO7 := hide (HO5.out.new hb6)
    clear ho6 hb6
    go_wp2_with fail
    refine (eqStringS L _ _ _ HO7.out.rd HO6.out.rd).mono ?_
    rintro x w7 ⟨rfl, hb7⟩
    go_wp2_with fail
    go_ret
    exact ⟨rfl, bchain HB6.out hb7⟩

theorem own : ownKnob Try.prog.godebug = none := by kernel_rfl
theorem laidOut : laidOutB Try.prog = true := by kernel_rfl

set_option maxRecDepth 100000 in
theorem lifted (os : Os) (started : os.Started) (H : Type) (enc : TypeId × Value → H) :
    ReturnsInHanded {} Try.checked os 4 .any (Rows.fnExactListedSpec.pre6 enc Try.prog Try.f4 Rows.fnExactListedRow.domain false) (Rows.fnExactListedSpec.post enc Try.prog Try.f4 false true false false) := by
  refine returnsInHanded_of_change (C := Try.checked) own started (by kernel_rfl) Try.func4
    (ChangeSpec.witness6 (enc := enc) (C := Try.checked) false ⟨#[], #[.slice none 0 0, .string ⟨#[]⟩], []⟩ 8 (by kernel_rfl) (by kernel_rfl) (by kernel_rfl) (by kernel_rfl)) ?_
  intro W base args ds gs before hval0 hW hcnd _
  have hval : ∀ (j : Nat) t v, Try.f4.params[j]? = some t → args[j]? = some v → Value.okWide Try.prog W .any base t v := hval0
  have hW' := hW
  obtain ⟨p, q, hA0, hV, rfl, hfz, hnd⟩ := hW
  have hA : DataW.TrodAll enc Try.prog W 0 (fun _ => true) true Try.f4.params.toList args.toList ds p := hA0
  rw [Try.params4] at hA hval
  obtain ⟨v0, vs0, d0, ds0, p0, q0, hargs, rfl, rfl, h0, r0⟩ := trodAll_cons hA
  obtain ⟨v1, vs1, d1, ds1, p1, q1, rfl, rfl, rfl, h1, r1⟩ := trodAll_cons r0
  obtain ⟨rfl, rfl, rfl⟩ := trodAll_nil r1
  obtain rfl : args = #[v0, v1] := by cases args; simp_all
  obtain ⟨rfl, rfl⟩ := trodVars_none hV
  have k0 := h0
  have lt0 : ∀ x ∈ p0, x.block < W.heap.size := by obtain ⟨m, hm⟩ := k0; exact DataW.trod_lt m _ _ _ hm
  have k1 := h1
  have lt1 : ∀ x ∈ p1, x.block < W.heap.size := by obtain ⟨m, hm⟩ := k1; exact DataW.trod_lt m _ _ _ hm
  obtain ⟨sa0, sl0, sc0, rfl⟩ := okWide_slice Try.underlying24 (hval 0 24 v0 rfl rfl); obtain ⟨n0, hn0⟩ := h0; obtain ⟨L, hpL⟩ := open_shape (E := strS) ⟨#[]⟩ Try.underlying24 (by kernel_rfl) (fun cs n y hy => open_cellsStr hy) (v := .slice sa0 sl0 sc0) (by simpa [Value.cells] using hn0); clear hn0
  obtain ⟨t, rfl, rfl, rfl, wt⟩ := open_string Try.underlying9 (hval 1 9 v1 rfl rfl) h1
  clear hA0 hval0
  refine (walk L _ t W hpL wt).mono fun e W' ⟨he, bel⟩ => ?_
  subst he
  exact ⟨_, rfl, _, _, _, [], _, [], hW', trodAll_mk1 (shut_bool Try.underlying4 _), (trodAll_cons_mk (Below.trod laidOut (by kernel_rfl) (of_decide_eq_true (by kernel_rfl)) k0 bel lt0) (trodAll_cons_mk (Below.trod laidOut (by kernel_rfl) (of_decide_eq_true (by kernel_rfl)) k1 bel lt1) trodAll_mk0)), rfl, bel.frame _, fun h => by cases h⟩

theorem over : Rows.fnExactListedRow.holds Try.pinned (OpenSpec.ofChange Rows.fnExactListedSpec) :=
  OpenClaim.holds_of_wide 4 Try.f4 rfl rfl rfl rfl rfl rfl rfl ⟨rfl, rfl, rfl, rfl, rfl⟩ rfl rfl rfl rfl rfl (by kernel_rfl) Try.func4 (by kernel_rfl)
    (of_decide_eq_true (by kernel_rfl)) (by unfold Func.isWrapper; first | (rw [if_pos (by decide +kernel)]; kernel_rfl) | (rw [if_neg (by decide +kernel)]; exact ⟨rfl, rfl⟩))
    (fun os started H enc _ => lifted os started H enc)

end exactListed

theorem exactListed_proved : Rows.FnExactListedSaid := exactListed.over
#print axioms exactListed_proved
end Go.Proofs.Ytppdmipdnelcpaa
