/- The law FnExactFrames returns true at every argument and leaves it as it was: impl.Frames answers as its model, and its answer owns its memory. The listed package-level variables (the program's two errors, package errors' handle of the type error) begin as the program's text lays them: the card ties that. -/
import Derived.Test.YtelcnojmfkoboaaDoorFrReads
import Derived.Test.YtelcnojmfkoboaaDoorFrSpec
import Derived.Test.YtelcnojmfkoboaaDoorFrLaid
import Derived.Test.YtelcnojmfkoboaaDoorFrLen
import Derived.Test.YtelcnojmfkoboaaDoorTie
import Derived.Test.YtelcnojmfkoboaaDoorCards
import Derived.WalkKit
import Derived.ProofKit
import Derived.OpenShut
import Derived.ShutString
import Derived.ChangeOld
import Derived.Below
import Derived.Lib.SmallJoins
import Derived.SevenTiedAt


namespace Go.Proofs.YtelcnojmfkoboaaDoor
open Go.RowKit
set_option maxRecDepth 100000
namespace exactFrames
open Go.ChangeShapes Go.WideShapes Go.ChangeAt Go.RowKit Go.Joins
open Go.ChangeMaps (open_string shut_string)
set_option linter.unusedVariables false
set_option linter.unusedSimpArgs false

set_option maxHeartbeats 4000000 in
theorem walk (s : ByteArray) (a0 a2 : Addr) (w : World) (hs : s.size ≤ maxLen) (he : Errs w a0 a2) :
    Calls Tryd.prog 5 #[.string s] w fun x w' => x = .returned (.bool true) ∧ Below w.heap.size w w' := by
  unfold maxLen at hs
  by_cases h : (1048576 : Int) < s.size
  · go_enter Tryd.func5, Tryd.ntmps5
    go_wp2_with fail
    go_ret
    exact ⟨rfl, Below.refl _ _⟩
  have hsp := fun w => specFrames s w (by omega)
  have him := fun w he => implFrames s a0 a2 w (by omega) he
  have hln := frm_len s.size s (Nat.le_refl _)
  obtain ⟨⟨L, rest, ok⟩, hF⟩ : ∃ F, frmV s = F := ⟨_, rfl⟩
  rw [hF] at hsp him hln
  dsimp only at hsp him hln
  clear hF
  have HE := hide he
  clear he
  go_enter Tryd.func5, Tryd.ntmps5
  go_wp2_with fail
  refine (hsp _).mono ?_; rintro x w1 ⟨v1, rfl, ho1, hb1⟩
  obtain ⟨c1, p1, rfl, _⟩ := owns_form ho1
  replace HE := hide (HE.out.new hb1)
  have R1 := hide ho1
  have HBW := hide hb1
  have zb1 := hb1.size
  clear ho1 hb1
  go_wp2_with fail
  refine (him _ HE.out).mono ?_; rintro x w2 ⟨v2, rfl, ho2, hb2⟩
  obtain ⟨c2, p2, rfl, _⟩ := owns_form ho2
  have R2 := hide ho2
  have B12 := hide hb2
  have zb2 := hb2.size
  clear ho2 hb2
  go_wp2_with fail
  refine (eqFrames L _ _ _ (reads_of_owns R2.out) ((reads_of_owns R1.out).new B12.out)).mono ?_; rintro x w3 ⟨rfl, hb3⟩
  replace R2 := hide (owns_new R2.out hb3)
  replace B12 := hide (bchain B12.out hb3)
  have zb3 := hb3.size
  clear hb3
  go_wp2_with fail
  refine (markFrames L.length 1 _ (fr L) w1.heap.size w3 R2.out (by omega)).mono ?_; rintro x w4 ⟨rfl, ho4, hg4⟩
  replace B12 := hide (B12.out.grown hg4 B12.out.size (fun q hq => (R2.out.lt q hq).1))
  have R4 := hide ho4
  have zb4 := hg4.size
  clear ho4 hg4 R2
  go_wp2_with fail
  refine (heldFrames L.length 1 _ _ (reads_of_owns R4.out) (by omega)).mono ?_; rintro x w5 ⟨rfl, hb5⟩
  replace B12 := hide (bchain B12.out hb5)
  replace R4 := hide (owns_new R4.out hb5)
  have zb5 := hb5.size
  clear hb5
  go_wp2_with fail
  refine (him _ (HE.out.new B12.out)).mono ?_; rintro x w6 ⟨v6, rfl, ho6, hb6⟩
  obtain ⟨c6, p6, rfl, _⟩ := owns_form ho6
  replace B12 := hide (bchain B12.out hb6)
  replace R4 := hide (owns_new R4.out hb6)
  have R6 := hide ho6
  clear ho6 hb6
  go_wp2_with fail
  refine (eqFrames L _ _ _ (reads_of_owns R6.out) ((reads_of_owns R1.out).new B12.out)).mono ?_; rintro x w7 ⟨rfl, hb7⟩
  replace B12 := hide (bchain B12.out hb7)
  replace R4 := hide (owns_new R4.out hb7)
  clear hb7 R6
  go_wp2_with fail
  refine (heldFrames L.length 1 _ _ (reads_of_owns R4.out) (by omega)).mono ?_; rintro x w8 ⟨rfl, hb8⟩
  replace B12 := hide (bchain B12.out hb8)
  clear hb8 R4
  go_wp2_with fail
  go_ret
  exact ⟨rfl, bchain HBW.out B12.out⟩


theorem own : ownKnob Tryd.prog.godebug = none := by kernel_rfl
theorem laidOut : laidOutB Tryd.prog = true := by kernel_rfl

set_option maxRecDepth 100000 in
theorem lifted (os : Os) (started : os.Started) (H : Type) (enc : TypeId × Value → H) :
    ReturnsInHanded {} Tryd.checked os 5 .any (fun w args => (Rows.fnExactFramesSpec.pre enc Tryd.prog Tryd.f5 [] false w args ∧ laidMetH Tryd.prog [("errors.errorType", Rows.laid_errors_errorType), ("loop.example/g00296/impl.errNoFrame", Rows.laid_loop_example_g00296_impl_errNoFrame), ("loop.example/g00296/impl.errNotYet", Rows.laid_loop_example_g00296_impl_errNotYet)] w) ∧ sizedMet enc Tryd.prog Tryd.f5 (OpenSpec.ofChange Rows.fnExactFramesSpec) false w args)
      (Rows.fnExactFramesSpec.post enc Tryd.prog Tryd.f5 false true false false) := by
  refine returnsInHanded_of_change_and (C := Tryd.checked) (X := fun w _ => laidMetH Tryd.prog [("errors.errorType", Rows.laid_errors_errorType), ("loop.example/g00296/impl.errNoFrame", Rows.laid_loop_example_g00296_impl_errNoFrame), ("loop.example/g00296/impl.errNotYet", Rows.laid_loop_example_g00296_impl_errNotYet)] w) (fun _ _ _ hh h => h.of_heap hh) own started (by kernel_rfl) Tryd.func5
    (ChangeSpec.witness_at (enc := enc) (C := Tryd.checked) (os := os) (X := fun w _ => laidMetH Tryd.prog [("errors.errorType", Rows.laid_errors_errorType), ("loop.example/g00296/impl.errNoFrame", Rows.laid_loop_example_g00296_impl_errNoFrame), ("loop.example/g00296/impl.errNotYet", Rows.laid_loop_example_g00296_impl_errNotYet)] w) false (({ World.holding Tryd.prog os ⟨#[.cells #[.string ⟨#[110, 111, 32, 114, 105, 103, 104, 116, 32, 102, 114, 97, 109, 101, 32, 98, 101, 103, 105, 110, 115, 32, 115, 111]⟩] 126, .cells #[.string ⟨#[116, 104, 101, 32, 102, 114, 97, 109, 101, 32, 105, 115, 32, 110, 111, 116, 32, 119, 104, 111, 108, 101, 32, 121, 101, 116]⟩] 126], #[], []⟩ with heap := (((World.holding Tryd.prog os ⟨#[.cells #[.string ⟨#[110, 111, 32, 114, 105, 103, 104, 116, 32, 102, 114, 97, 109, 101, 32, 98, 101, 103, 105, 110, 115, 32, 115, 111]⟩] 126, .cells #[.string ⟨#[116, 104, 101, 32, 102, 114, 97, 109, 101, 32, 105, 115, 32, 110, 111, 116, 32, 119, 104, 111, 108, 101, 32, 121, 101, 116]⟩] 126], #[], []⟩).heap.modify 0 fun | .cells _ t frozen => .cells #[.iface 105 (.pointer (some (⟨8, 0, none⟩)))] t frozen | o => o).modify 2 fun | .cells _ t frozen => .cells #[.iface 105 (.pointer (some (⟨8 + 1, 0, none⟩)))] t frozen | o => o).modify 1 fun | .cells _ t frozen => .cells #[.iface 89 (.agg #[.pointer (some ⟨3, 48, none⟩)])] t frozen | o => o } : World)) #[.string ⟨#[]⟩] 8 rfl (by kernel_rfl) (by kernel_rfl) (by kernel_rfl) (by kernel_rfl) (by kernel_rfl)
      (laidMetH_of_parts (laidMet_of_run (ps := [.cell 0 0, .cell 8 0, .cell 2 0, .cell (8 + 1) 0]) 8 (by kernel_rfl) (by kernel_rfl) (by kernel_rfl)) (by kernel_rfl))) ?_
  intro W base args ds gs before hval0 hW hcnd hwt hL _
  have hval : ∀ (j : Nat) t v, Tryd.f5.params[j]? = some t → args[j]? = some v → Value.okWide Tryd.prog W .any base t v := hval0
  have hW' := hW
  obtain ⟨p, q, hA0, hV0, rfl, hfz, hnd⟩ := hW
  have hA : DataW.TrodAll enc Tryd.prog W 0 (fun _ => true) true Tryd.f5.params.toList args.toList ds p := hA0
  have hV : DataW.TrodVars enc Tryd.prog W (fun _ => true) ["loop.example/g00296/impl.errNoFrame", "loop.example/g00296/impl.errNotYet"] gs q := hV0
  rw [Tryd.params5] at hA hval
  obtain ⟨v0, vs0, d0, ds0, p0, q0, hargs, rfl, rfl, h0, r0⟩ := trodAll_cons hA
  obtain ⟨rfl, rfl, rfl⟩ := trodAll_nil r0
  obtain rfl : args = #[v0] := by cases args; simp_all
  obtain ⟨a0, a2, hv0, hv2, herrs⟩ := errs_of_laid hL
  obtain ⟨rfl, rfl⟩ := hV.unique (vars_read2 enc hv0 hv2 trivial trivial _)
  have k0 := h0
  have lt0 : ∀ x ∈ p0, x.block < W.heap.size := by obtain ⟨m, hm⟩ := k0; exact DataW.trod_lt m _ _ _ hm
  obtain ⟨s, rfl, rfl, rfl, hs⟩ := open_string Tryd.underlying9 (hval 0 9 v0 rfl rfl) h0
  clear hA0 hval0 hV0
  refine (walk s a0 a2 W hs herrs).mono fun e W' ⟨he, bel⟩ => ?_
  subst he
  exact ⟨_, rfl, _, _, _, [], _, [.cell 0 0, .cell 2 0], hW', trodAll_mk1 (shut_bool Tryd.underlying4 _), (trodAll_cons_mk (Below.trod laidOut (by kernel_rfl) (of_decide_eq_true (by kernel_rfl)) k0 bel lt0) trodAll_mk0), vars_read2 enc (var_below bel hv0) (var_below bel hv2) trivial trivial _, bel.frame _, fun h => by cases h⟩

theorem over : Rows.fnExactFramesRow.holds Tryd.pinned (OpenSpec.ofChange Rows.fnExactFramesSpec) :=
  OpenClaim.holds_of_wide 5 Tryd.f5 rfl rfl rfl rfl rfl rfl rfl ⟨rfl, rfl, rfl, rfl, rfl⟩ rfl rfl rfl rfl rfl (by kernel_rfl) Tryd.func5 (by kernel_rfl)
    (of_decide_eq_true (by kernel_rfl)) (by unfold Func.isWrapper; first | (rw [if_pos (by decide +kernel)]; kernel_rfl) | (rw [if_neg (by decide +kernel)]; exact ⟨rfl, rfl⟩))
    (fun os started H enc _ => lifted os started H enc)

theorem card : Rows.FnExactFramesCardSaid :=
  Claim7.holds_tied_plain_at .later [] [.handle, .sentinel, .sentinel] true (true, "3dfbc58254e7635a0db15b8d9f745f5f5b065571958f57a52a6a07e023aa5fe4") true
    over (fun _ h => by cases h) (by kernel_rfl) (fun _ h => by cases h) fnExactFrames_row_tie rfl ⟨rfl, rfl⟩ (by kernel_rfl) rfl
    (fun f fn hf hfn => by
      obtain rfl : f = 5 := Option.some.inj ((show Tryd.prog.funcNamed "loop.example/g00296/laws.FnExactFrames" = some 5 by kernel_rfl).symm.trans hf) |>.symm
      obtain rfl : fn = Tryd.f5 := (Option.some.inj (Tryd.func5.symm.trans hfn)).symm
      exact ⟨by kernel_rfl, fun j t ht => by
        rw [Tryd.params5] at ht
        have hm : t ∈ [9] := by simpa using Array.mem_of_getElem? ht
        have hall : ([9].all fun u => !Tryd.prog.wantsStandIn u) = true := by kernel_rfl
        exact (show Tryd.prog.wantsStandIn t = false by simpa using List.all_eq_true.1 hall t hm)⟩)
    (by kernel_rfl)

end exactFrames

theorem exactFrames_proved : Rows.FnExactFramesCardSaid := exactFrames.card
#print axioms exactFrames_proved
end Go.Proofs.YtelcnojmfkoboaaDoor
