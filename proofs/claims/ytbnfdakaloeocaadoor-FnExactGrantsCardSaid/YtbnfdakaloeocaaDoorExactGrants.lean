/- The law FnExactGrants returns true at every argument and leaves it as it was: impl.Grants answers as its model. The listed package-level variables (the program's two errors, package errors' handle of the type error) begin as the program's text lays them: the card ties that. (The program's part, AudGrants, is to be written when its code has landed: theorem implGrants.) -/
import Derived.Test.YtbnfdakaloeocaaDoorAudGrants
import Derived.Test.YtbnfdakaloeocaaDoorAudSpec
import Derived.Test.YtbnfdakaloeocaaDoorFrLaid
import Derived.Test.YtbnfdakaloeocaaDoorTie
import Derived.Test.YtbnfdakaloeocaaDoorCards
import Derived.WalkKit
import Derived.ProofKit
import Derived.OpenShut
import Derived.ShutString
import Derived.ChangeOld
import Derived.Below
import Derived.Lib.SmallJoins
import Derived.SevenTiedAt


namespace Go.Proofs.YtbnfdakaloeocaaDoor
open Go.RowKit
set_option maxRecDepth 100000
namespace exactGrants
open Go.ChangeShapes Go.WideShapes Go.ChangeAt Go.RowKit Go.Joins
open Go.ChangeMaps (open_string shut_string)
set_option linter.unusedVariables false
set_option linter.unusedSimpArgs false

theorem walk (s : ByteArray) (id : Int) (a0 a2 : Addr) (w : World) (hs : s.size ≤ maxLen) (he : Errs w a0 a2) :
    Calls Tryd.prog 4 #[.string s, .int .i64 id] w fun x w' => x = .returned (.bool true) ∧ Below w.heap.size w w' := by
  unfold maxLen at hs
  by_cases h : (1048576 : Int) < s.size
  · go_enter Tryd.func4, Tryd.ntmps4
    go_wp2_with fail
    go_ret
    exact ⟨rfl, Below.refl _ _⟩
  have hsp := fun w => specGrants s id w (by omega)
  have him := fun w he => implGrants s id a0 a2 w (by omega) he
  have HE := hide he
  clear he
  go_enter Tryd.func4, Tryd.ntmps4
  go_wp2_with fail
  refine (hsp _).mono ?_; rintro x w1 ⟨rfl, hb1⟩
  replace HE := hide (HE.out.new hb1)
  go_wp2_with fail
  refine (him _ HE.out).mono ?_; rintro x w2 ⟨rfl, hb2⟩
  go_wp2_with fail
  go_ret
  exact ⟨rfl, bchain hb1 hb2⟩


theorem own : ownKnob Tryd.prog.godebug = none := by kernel_rfl
theorem laidOut : laidOutB Tryd.prog = true := by kernel_rfl

set_option maxRecDepth 100000 in
theorem lifted (os : Os) (started : os.Started) (H : Type) (enc : TypeId × Value → H) :
    ReturnsInHanded {} Tryd.checked os 4 .any (fun w args => (Rows.fnExactGrantsSpec.pre enc Tryd.prog Tryd.f4 [] false w args ∧ laidMetH Tryd.prog [("errors.errorType", Rows.laid_errors_errorType), ("loop.example/g00296/impl.errNoFrame", Rows.laid_loop_example_g00296_impl_errNoFrame), ("loop.example/g00296/impl.errNotYet", Rows.laid_loop_example_g00296_impl_errNotYet)] w) ∧ sizedMet enc Tryd.prog Tryd.f4 (OpenSpec.ofChange Rows.fnExactGrantsSpec) false w args)
      (Rows.fnExactGrantsSpec.post enc Tryd.prog Tryd.f4 false true false false) := by
  refine returnsInHanded_of_change_and (C := Tryd.checked) (X := fun w _ => laidMetH Tryd.prog [("errors.errorType", Rows.laid_errors_errorType), ("loop.example/g00296/impl.errNoFrame", Rows.laid_loop_example_g00296_impl_errNoFrame), ("loop.example/g00296/impl.errNotYet", Rows.laid_loop_example_g00296_impl_errNotYet)] w) (fun _ _ _ hh h => h.of_heap hh) own started (by kernel_rfl) Tryd.func4
    (ChangeSpec.witness_at (enc := enc) (C := Tryd.checked) (os := os) (X := fun w _ => laidMetH Tryd.prog [("errors.errorType", Rows.laid_errors_errorType), ("loop.example/g00296/impl.errNoFrame", Rows.laid_loop_example_g00296_impl_errNoFrame), ("loop.example/g00296/impl.errNotYet", Rows.laid_loop_example_g00296_impl_errNotYet)] w) false (({ World.holding Tryd.prog os ⟨#[.cells #[.string ⟨#[110, 111, 32, 114, 105, 103, 104, 116, 32, 102, 114, 97, 109, 101, 32, 98, 101, 103, 105, 110, 115, 32, 115, 111]⟩] 106, .cells #[.string ⟨#[116, 104, 101, 32, 102, 114, 97, 109, 101, 32, 105, 115, 32, 110, 111, 116, 32, 119, 104, 111, 108, 101, 32, 121, 101, 116]⟩] 106], #[], []⟩ with heap := (((World.holding Tryd.prog os ⟨#[.cells #[.string ⟨#[110, 111, 32, 114, 105, 103, 104, 116, 32, 102, 114, 97, 109, 101, 32, 98, 101, 103, 105, 110, 115, 32, 115, 111]⟩] 106, .cells #[.string ⟨#[116, 104, 101, 32, 102, 114, 97, 109, 101, 32, 105, 115, 32, 110, 111, 116, 32, 119, 104, 111, 108, 101, 32, 121, 101, 116]⟩] 106], #[], []⟩).heap.modify 0 fun | .cells _ t frozen => .cells #[.iface 84 (.pointer (some (⟨8, 0, none⟩)))] t frozen | o => o).modify 2 fun | .cells _ t frozen => .cells #[.iface 84 (.pointer (some (⟨8 + 1, 0, none⟩)))] t frozen | o => o).modify 1 fun | .cells _ t frozen => .cells #[.iface 67 (.agg #[.pointer (some ⟨3, 38, none⟩)])] t frozen | o => o } : World)) #[.string ⟨#[]⟩, .int .i64 0] 8 rfl (by kernel_rfl) (by kernel_rfl) (by kernel_rfl) (by kernel_rfl) (by kernel_rfl)
      (laidMetH_of_parts (laidMet_of_run (ps := [.cell 0 0, .cell 8 0, .cell 2 0, .cell (8 + 1) 0]) 8 (by kernel_rfl) (by kernel_rfl) (by kernel_rfl)) (by kernel_rfl))) ?_
  intro W base args ds gs before hval0 hW hcnd hwt hL _
  have hval : ∀ (j : Nat) t v, Tryd.f4.params[j]? = some t → args[j]? = some v → Value.okWide Tryd.prog W .any base t v := hval0
  have hW' := hW
  obtain ⟨p, q, hA0, hV0, rfl, hfz, hnd⟩ := hW
  have hA : DataW.TrodAll enc Tryd.prog W 0 (fun _ => true) true Tryd.f4.params.toList args.toList ds p := hA0
  have hV : DataW.TrodVars enc Tryd.prog W (fun _ => true) ["loop.example/g00296/impl.errNoFrame", "loop.example/g00296/impl.errNotYet"] gs q := hV0
  rw [Tryd.params4] at hA hval
  obtain ⟨v0, vs0, d0, ds0, p0, q0, hargs, rfl, rfl, h0, r0⟩ := trodAll_cons hA
  obtain ⟨v1, vs1, d1, ds1, p1, q1, rfl, rfl, rfl, h1, r1⟩ := trodAll_cons r0
  obtain ⟨rfl, rfl, rfl⟩ := trodAll_nil r1
  obtain rfl : args = #[v0, v1] := by cases args; simp_all
  obtain ⟨a0, a2, hv0, hv2, herrs⟩ := errs_of_laid hL
  obtain ⟨rfl, rfl⟩ := hV.unique (vars_read2 enc hv0 hv2 trivial trivial _)
  have k0 := h0
  have lt0 : ∀ x ∈ p0, x.block < W.heap.size := by obtain ⟨m, hm⟩ := k0; exact DataW.trod_lt m _ _ _ hm
  have k1 := h1
  have lt1 : ∀ x ∈ p1, x.block < W.heap.size := by obtain ⟨m, hm⟩ := k1; exact DataW.trod_lt m _ _ _ hm
  obtain ⟨s, rfl, rfl, rfl, hs⟩ := open_string Tryd.underlying9 (hval 0 9 v0 rfl rfl) h0
  obtain ⟨id, rfl, rfl, rfl, wid⟩ := open_int Tryd.underlying2 (hval 1 2 v1 rfl rfl) h1
  clear hA0 hval0 hV0
  refine (walk s id a0 a2 W hs herrs).mono fun e W' ⟨he, bel⟩ => ?_
  subst he
  exact ⟨_, rfl, _, _, _, [], _, [.cell 0 0, .cell 2 0], hW', trodAll_mk1 (shut_bool Tryd.underlying4 _), (trodAll_cons_mk (Below.trod laidOut (by kernel_rfl) (of_decide_eq_true (by kernel_rfl)) k0 bel lt0) (trodAll_cons_mk (Below.trod laidOut (by kernel_rfl) (of_decide_eq_true (by kernel_rfl)) k1 bel lt1) trodAll_mk0)), vars_read2 enc (var_below bel hv0) (var_below bel hv2) trivial trivial _, bel.frame _, fun h => by cases h⟩

theorem over : Rows.fnExactGrantsRow.holds Tryd.pinned (OpenSpec.ofChange Rows.fnExactGrantsSpec) :=
  OpenClaim.holds_of_wide 4 Tryd.f4 rfl rfl rfl rfl rfl rfl rfl ⟨rfl, rfl, rfl, rfl, rfl⟩ rfl rfl rfl rfl rfl (by kernel_rfl) Tryd.func4 (by kernel_rfl)
    (of_decide_eq_true (by kernel_rfl)) (by unfold Func.isWrapper; first | (rw [if_pos (by decide +kernel)]; kernel_rfl) | (rw [if_neg (by decide +kernel)]; exact ⟨rfl, rfl⟩))
    (fun os started H enc _ => lifted os started H enc)

theorem card : Rows.FnExactGrantsCardSaid :=
  Claim7.holds_tied_plain_at .later [] [.handle, .sentinel, .sentinel] true (true, "82279379c74782eb521880acbf7c02b006248cc5934edfb595fb0f1450d81122") true
    over (fun _ h => by cases h) (by kernel_rfl) (fun _ h => by cases h) fnExactGrants_row_tie rfl ⟨rfl, rfl⟩ (by kernel_rfl) rfl
    (fun f fn hf hfn => by
      obtain rfl : f = 4 := Option.some.inj ((show Tryd.prog.funcNamed "loop.example/g00296/laws.FnExactGrants" = some 4 by kernel_rfl).symm.trans hf) |>.symm
      obtain rfl : fn = Tryd.f4 := (Option.some.inj (Tryd.func4.symm.trans hfn)).symm
      exact ⟨by kernel_rfl, fun j t ht => by
        rw [Tryd.params4] at ht
        have hm : t ∈ [9, 2] := by simpa using Array.mem_of_getElem? ht
        have hall : ([9, 2].all fun u => !Tryd.prog.wantsStandIn u) = true := by kernel_rfl
        exact (show Tryd.prog.wantsStandIn t = false by simpa using List.all_eq_true.1 hall t hm)⟩)
    (by kernel_rfl)

end exactGrants

theorem exactGrants_proved : Rows.FnExactGrantsCardSaid := exactGrants.card
#print axioms exactGrants_proved
end Go.Proofs.YtbnfdakaloeocaaDoor
