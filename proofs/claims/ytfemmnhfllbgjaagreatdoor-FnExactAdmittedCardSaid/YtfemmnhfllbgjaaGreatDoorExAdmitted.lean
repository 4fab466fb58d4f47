/- The law FnExactAdmitted returns true at every argument and leaves it as it was: impl.Admitted answers as its model. The listed package-level variables of the library (tables; strconv has two errors) begin as their text lays them: the card ties that. -/
import Derived.Test.YtfemmnhfllbgjaaGreatDoorTenSpec3
import Derived.Test.YtfemmnhfllbgjaaGreatDoorTenImpl
import Derived.WalkKit
import Derived.ProofKit
import Derived.OpenShut
import Derived.ShutString
import Derived.ChangeOld
import Derived.Below
import Derived.Lib.SmallJoins
import Derived.Test.YtfemmnhfllbgjaaGreatDoorTokLaid
import Derived.Test.YtfemmnhfllbgjaaGreatDoorTie
import Derived.Test.YtfemmnhfllbgjaaGreatDoorCards
import Derived.Deep.DeepHandedRow
import Derived.Deep.DeepWitnessRowRef
import Derived.JoinedCond
import Derived.SevenTiedAt


namespace Go.Proofs.YtfemmnhfllbgjaaGreatDoor
open Go.RowKit
set_option maxRecDepth 100000
namespace exactAdmitted
open Go.ChangeShapes Go.WideShapes Go.ChangeAt Go.RowKit Go.Joins
open Go.ChangeMaps (open_string shut_string)
set_option linter.unusedVariables false
set_option linter.unusedSimpArgs false

set_option maxHeartbeats 2000000 in
theorem walk (L : List TenantD) (v : Value) (token : ByteArray) (target : ByteArray) (now : Int) (op : Int) (w : World) (hr : RdR tenantS w v L) (htoken : token.size ≤ maxLen) (htarget : target.size ≤ maxLen) (hl : TabV w ∧ ErrV w) : Calls Tryz.prog 4 #[v, .string token, .string target, .int .i64 now, .int .i64 op] w fun x w' => x = .returned (.bool true) ∧ Below w.heap.size w w' := by
  obtain ⟨ad, cap, rfl, h1, h2⟩ := hr.form
  have HR := hide hr
  clear hr
  have HLB := hide hl
  clear hl
  have Htoken := hide htoken
  have btoken : token.size ≤ 9223372036854775807 := by unfold maxLen at htoken; omega
  have Htarget := hide htarget
  have btarget : target.size ≤ 9223372036854775807 := by unfold maxLen at htarget; omega
  by_cases hbig0 : (1048576 : Int) < token.size
  · go_enter Tryz.func4, Tryz.ntmps4
    go_wp2_with fail
    go_ret
    exact ⟨rfl, Below.refl _ _⟩
  by_cases hbig1 : (1048576 : Int) < target.size
  · go_enter Tryz.func4, Tryz.ntmps4
    go_wp2_with fail
    go_ret
    exact ⟨rfl, Below.refl _ _⟩
  go_enter Tryz.func4, Tryz.ntmps4
  go_wp2_with fail
  refine (szTenantS1 L _ 1048576 _ HR.out (by omega) (by omega)).mono ?_
  rintro x w1 ⟨rfl | ⟨rfl, hp⟩, hb1⟩
  · go_wp2_with fail
    go_ret
    exact ⟨rfl, hb1⟩
  have hz : szTenantS L ≤ 1048576 := by omega
  have hlL : L.length ≤ 1048576 := by have := szTenantS_len L; omega
  have hp' : ¬ (1048576 - szTenantS L < 0) := by omega
  have HB := hide hb1
  clear hb1
  generalize hX : 1048576 - szTenantS L = X at *
  clear hX
  go_wp2_with fail
  refine (toTenantS L _ _ (HR.out.new HB.out) hz).mono ?_
  rintro x w2 ⟨v2, rfl, ho2, hb2⟩
  obtain ⟨a2, p2, rfl, _⟩ := ho2.form
  have HO2 := hide ho2
  have HB2 := hide (bchain HB.out hb2)
  clear ho2 hb2
  go_wp2_with fail
  refine (specAdmitted L token target now op _ _ HO2.out.rd hlL (by omega) Htarget.out).mono ?_
  rintro x w3 ⟨rfl, hb3⟩
  have HB3 := hide (bchain HB2.out hb3)
  clear hb3
  obtain ⟨A, hA⟩ : ∃ A, admitV L token target now op = A := ⟨_, rfl⟩
  rw [hA]
  go_wp2_with fail
  refine (toTenantS L _ _ (HR.out.new HB3.out) hz).mono ?_
  rintro x w4 ⟨v4, rfl, ho4, hb4⟩
  obtain ⟨a4, p4, rfl, _⟩ := ho4.form
  have HO4 := hide ho4
  have HB4 := hide (bchain HB3.out hb4)
  clear ho4 hb4
  go_wp2_with fail
  refine (implAdmitted L token target now op _ _ HO4.out.rd hlL (by omega) Htarget.out (HLB.out.1.new HB4.out) (HLB.out.2.new HB4.out)).mono ?_
  rw [hA]
  rintro x w5 ⟨rfl, hb5⟩
  have HB5 := hide (bchain HB4.out hb5)
  have HO5 := hide (HO4.out.new hb5)
  clear hb5 HO4 hA
  go_wp2_with fail
  refine (toTenantS L _ _ (HR.out.new HB5.out) hz).mono ?_
  rintro x w6 ⟨v6, rfl, ho6, hb6⟩
  obtain ⟨a6, p6, rfl, _⟩ := ho6.form
  have HO6 := hide ho6
  have HB6 := hide (bchain HB5.out hb6)
  have HO7 := hide (HO5.out.new hb6)
  clear ho6 hb6
  go_wp2_with fail
  refine (eqTenantS L _ _ _ HO7.out.rd HO6.out.rd).mono ?_
  rintro x w7 ⟨rfl, hb7⟩
  go_wp2_with fail
  go_ret
  exact ⟨rfl, bchain HB6.out hb7⟩

theorem own : ownKnob Tryz.prog.godebug = none := by kernel_rfl
theorem laidOut : laidOutB Tryz.prog = true := by kernel_rfl

theorem witness_row (os : Os) {H : Type} (enc : TypeId × Value → H) :
    (OpenSpec.ofChange Rows.fnExactAdmittedSpec).preRow enc Tryz.prog Tryz.f4 Rows.fnExactAdmittedRow.domain false Rows.fnExactAdmittedRow.laid ((({ World.holding Tryz.prog os ⟨#[.cells #[.string ⟨#[118, 97, 108, 117, 101, 32, 111, 117, 116, 32, 111, 102, 32, 114, 97, 110, 103, 101]⟩] 161, .cells #[.string ⟨#[105, 110, 118, 97, 108, 105, 100, 32, 115, 121, 110, 116, 97, 120]⟩] 161], #[], []⟩ with heap := putAll (World.holding Tryz.prog os ⟨#[.cells #[.string ⟨#[118, 97, 108, 117, 101, 32, 111, 117, 116, 32, 111, 102, 32, 114, 97, 110, 103, 101]⟩] 161, .cells #[.string ⟨#[105, 110, 118, 97, 108, 105, 100, 32, 115, 121, 110, 116, 97, 120]⟩] 161], #[], []⟩).heap (World.settled Tryz.prog os).heap.size } : World)).forCall (fun _ _ => 0) ⟨#[], #[.slice none 0 0, .string ⟨#[]⟩, .string ⟨#[]⟩, .int .i64 0, .int .i64 0], []⟩).memory #[.slice none 0 0, .string ⟨#[]⟩, .string ⟨#[]⟩, .int .i64 0, .int .i64 0] := by
  have hw : (DataW.whole enc Tryz.prog ((({ World.holding Tryz.prog os ⟨#[.cells #[.string ⟨#[118, 97, 108, 117, 101, 32, 111, 117, 116, 32, 111, 102, 32, 114, 97, 110, 103, 101]⟩] 161, .cells #[.string ⟨#[105, 110, 118, 97, 108, 105, 100, 32, 115, 121, 110, 116, 97, 120]⟩] 161], #[], []⟩ with heap := putAll (World.holding Tryz.prog os ⟨#[.cells #[.string ⟨#[118, 97, 108, 117, 101, 32, 111, 117, 116, 32, 111, 102, 32, 114, 97, 110, 103, 101]⟩] 161, .cells #[.string ⟨#[105, 110, 118, 97, 108, 105, 100, 32, 115, 121, 110, 116, 97, 120]⟩] 161], #[], []⟩).heap (World.settled Tryz.prog os).heap.size } : World)).forCall (fun _ _ => 0) ⟨#[], #[.slice none 0 0, .string ⟨#[]⟩, .string ⟨#[]⟩, .int .i64 0, .int .i64 0], []⟩).memory Tryz.f4.params.toList (OpenSpec.ofChange Rows.fnExactAdmittedSpec).vars false (#[.slice none 0 0, .string ⟨#[]⟩, .string ⟨#[]⟩, .int .i64 0, .int .i64 0] : Array Value).toList 8).isSome = true := by kernel_rfl
  obtain ⟨x, hx⟩ := Option.isSome_iff_exists.1 hw
  exact OpenSpec.preRow_of_cond 8 hx rfl (fun k hk => by cases hk) (by kernel_rfl) (laid7 os _)

set_option maxRecDepth 100000 in
theorem lifted (os : Os) (started : os.Started) (H : Type) (enc : TypeId × Value → H) (F : Stop.Interp) :
    ReturnsInHanded {} Tryz.checked os 4 .any ((OpenSpec.ofChange Rows.fnExactAdmittedSpec).preRow enc Tryz.prog Tryz.f4 Rows.fnExactAdmittedRow.domain false Rows.fnExactAdmittedRow.laid) (((OpenSpec.ofChange Rows.fnExactAdmittedSpec).at F).post enc Tryz.prog Tryz.f4 false true false false) := by
  refine returnsInHanded_of_row (C := Tryz.checked) (s := OpenSpec.ofChange Rows.fnExactAdmittedSpec) own started (by kernel_rfl) Tryz.func4
    (witness_row_atRef (enc := enc) (C := Tryz.checked) false (({ World.holding Tryz.prog os ⟨#[.cells #[.string ⟨#[118, 97, 108, 117, 101, 32, 111, 117, 116, 32, 111, 102, 32, 114, 97, 110, 103, 101]⟩] 161, .cells #[.string ⟨#[105, 110, 118, 97, 108, 105, 100, 32, 115, 121, 110, 116, 97, 120]⟩] 161], #[], []⟩ with heap := putAll (World.holding Tryz.prog os ⟨#[.cells #[.string ⟨#[118, 97, 108, 117, 101, 32, 111, 117, 116, 32, 111, 102, 32, 114, 97, 110, 103, 101]⟩] 161, .cells #[.string ⟨#[105, 110, 118, 97, 108, 105, 100, 32, 115, 121, 110, 116, 97, 120]⟩] 161], #[], []⟩).heap (World.settled Tryz.prog os).heap.size } : World)) #[.slice none 0 0, .string ⟨#[]⟩, .string ⟨#[]⟩, .int .i64 0, .int .i64 0] rfl (by kernel_rfl) (by kernel_rfl) (by kernel_rfl) (witness_row os enc)) ?_
  intro W base args ds gs before hval0 hW hcnd _ _ hL hSO _
  have hval : ∀ (j : Nat) t v, Tryz.f4.params[j]? = some t → args[j]? = some v → Value.okWide Tryz.prog W .any base t v := hval0
  have hW' := hW
  obtain ⟨p, q, hA0, hV, rfl, hfz, hnd⟩ := hW
  have hA : DataW.TrodAll enc Tryz.prog W 0 (fun _ => true) true Tryz.f4.params.toList args.toList ds p := hA0
  rw [Tryz.params4] at hA hval
  obtain ⟨v0, vs0, d0, ds0, p0, q0, hargs, rfl, rfl, h0, r0⟩ := trodAll_cons hA
  obtain ⟨v1, vs1, d1, ds1, p1, q1, rfl, rfl, rfl, h1, r1⟩ := trodAll_cons r0
  obtain ⟨v2, vs2, d2, ds2, p2, q2, rfl, rfl, rfl, h2, r2⟩ := trodAll_cons r1
  obtain ⟨v3, vs3, d3, ds3, p3, q3, rfl, rfl, rfl, h3, r3⟩ := trodAll_cons r2
  obtain ⟨v4, vs4, d4, ds4, p4, q4, rfl, rfl, rfl, h4, r4⟩ := trodAll_cons r3
  obtain ⟨rfl, rfl, rfl⟩ := trodAll_nil r4
  obtain rfl : args = #[v0, v1, v2, v3, v4] := by cases args; simp_all
  obtain ⟨rfl, rfl⟩ := trodVars_none hV
  have hlib := libs_of7 hL hSO
  have k0 := h0
  have lt0 : ∀ x ∈ p0, x.block < W.heap.size := by obtain ⟨m, hm⟩ := k0; exact DataW.trod_lt m _ _ _ hm
  have k1 := h1
  have lt1 : ∀ x ∈ p1, x.block < W.heap.size := by obtain ⟨m, hm⟩ := k1; exact DataW.trod_lt m _ _ _ hm
  have k2 := h2
  have lt2 : ∀ x ∈ p2, x.block < W.heap.size := by obtain ⟨m, hm⟩ := k2; exact DataW.trod_lt m _ _ _ hm
  have k3 := h3
  have lt3 : ∀ x ∈ p3, x.block < W.heap.size := by obtain ⟨m, hm⟩ := k3; exact DataW.trod_lt m _ _ _ hm
  have k4 := h4
  have lt4 : ∀ x ∈ p4, x.block < W.heap.size := by obtain ⟨m, hm⟩ := k4; exact DataW.trod_lt m _ _ _ hm
  obtain ⟨sa0, sl0, sc0, rfl⟩ := okWide_slice Tryz.underlying43 (hval 0 43 v0 rfl rfl); obtain ⟨n0, hn0⟩ := h0; obtain ⟨L, hpL⟩ := open_shape (E := tenantS) ⟨⟨#[]⟩, ⟨#[]⟩, [], 0⟩ Tryz.underlying43 (by kernel_rfl) (fun cs n y hy => open_cellsTenant hy) (v := .slice sa0 sl0 sc0) (by simpa [Value.cells] using hn0); clear hn0
  obtain ⟨token, rfl, rfl, rfl, wtoken⟩ := open_string Tryz.underlying9 (hval 1 9 v1 rfl rfl) h1
  obtain ⟨target, rfl, rfl, rfl, wtarget⟩ := open_string Tryz.underlying9 (hval 2 9 v2 rfl rfl) h2
  obtain ⟨now, rfl, rfl, rfl, wnow⟩ := open_int Tryz.underlying2 (hval 3 2 v3 rfl rfl) h3
  obtain ⟨op, rfl, rfl, rfl, wop⟩ := open_int Tryz.underlying2 (hval 4 2 v4 rfl rfl) h4
  clear hA0 hval0
  refine (walk L _ token target now op W hpL wtoken wtarget hlib).mono fun e W' ⟨he, bel⟩ => ?_
  subst he
  exact ⟨_, rfl, _, _, _, [], _, [], hW', trodAll_mk1 (shut_bool Tryz.underlying4 _), (trodAll_cons_mk (Below.trod laidOut (by kernel_rfl) (of_decide_eq_true (by kernel_rfl)) k0 bel lt0) (trodAll_cons_mk (Below.trod laidOut (by kernel_rfl) (of_decide_eq_true (by kernel_rfl)) k1 bel lt1) (trodAll_cons_mk (Below.trod laidOut (by kernel_rfl) (of_decide_eq_true (by kernel_rfl)) k2 bel lt2) (trodAll_cons_mk (Below.trod laidOut (by kernel_rfl) (of_decide_eq_true (by kernel_rfl)) k3 bel lt3) (trodAll_cons_mk (Below.trod laidOut (by kernel_rfl) (of_decide_eq_true (by kernel_rfl)) k4 bel lt4) trodAll_mk0))))), rfl, bel.frame _, fun h => by cases h⟩

theorem over : Rows.fnExactAdmittedRow.holds Tryz.pinned (OpenSpec.ofChange Rows.fnExactAdmittedSpec) :=
  OpenClaim.holds_of_cond 4 Tryz.f4 rfl rfl rfl rfl rfl rfl rfl ⟨rfl, rfl, rfl, rfl, rfl⟩ rfl rfl rfl rfl rfl (by kernel_rfl) Tryz.func4 (by kernel_rfl)
    (of_decide_eq_true (by kernel_rfl)) (by unfold Func.isWrapper; first | (rw [if_pos (by decide +kernel)]; kernel_rfl) | (rw [if_neg (by decide +kernel)]; exact ⟨rfl, rfl⟩))
    (fun os started H enc _ F => by rw [OpenClaim.pre_eq_preRow]; exact lifted os started H enc F)

theorem card : Rows.FnExactAdmittedCardSaid :=
  Claim7.holds_tied_plain_at .later [] [.data, .data, .data, .data, .sentinel, .sentinel, .pinned] true (true, "18c0c22fb6843d6723af6af8fc5d231ba9bbfcc513b0587a2b6f2d28f790867a") true
    over (fun _ h => by cases h) (by kernel_rfl) (fun _ h => by cases h) fnExactAdmitted_row_tie rfl ⟨rfl, rfl⟩ (by kernel_rfl) rfl
    (fun f fn hf hfn => by
      obtain rfl : f = 4 := Option.some.inj ((show Tryz.prog.funcNamed "loop.example/g00296/laws.FnExactAdmitted" = some 4 by kernel_rfl).symm.trans hf) |>.symm
      obtain rfl : fn = Tryz.f4 := (Option.some.inj (Tryz.func4.symm.trans hfn)).symm
      exact ⟨by kernel_rfl, fun j t ht => by
        rw [Tryz.params4] at ht
        have hm : t ∈ [43, 9, 9, 2, 2] := by simpa using Array.mem_of_getElem? ht
        have hall : ([43, 9, 9, 2, 2].all fun u => !Tryz.prog.wantsStandIn u) = true := by kernel_rfl
        exact (show Tryz.prog.wantsStandIn t = false by simpa using List.all_eq_true.1 hall t hm)⟩)
    (by kernel_rfl)

end exactAdmitted

theorem exactAdmitted_proved : Rows.FnExactAdmittedCardSaid := exactAdmitted.card
#print axioms exactAdmitted_proved
end Go.Proofs.YtfemmnhfllbgjaaGreatDoor
