/- The law FnExactClosed returns true at every argument and leaves it as it was: impl.Closed answers as its model. No condition. -/
import Derived.Test.YthjiiemhlijgkaaPipe2
import Derived.WalkKit
import Derived.ProofKit
import Derived.OpenShut
import Derived.ShutString
import Derived.ChangeOld
import Derived.Below
import Derived.Lib.SmallJoins

namespace Go.Proofs.Ythjiiemhlijgkaa
open Go.RowKit
namespace exactClosed
open Go.ChangeShapes Go.WideShapes Go.ChangeAt Go.RowKit Go.Joins
open Go.ChangeMaps (open_string shut_string)
set_option linter.unusedVariables false
set_option linter.unusedSimpArgs false

theorem walk (r : Int) (b : ByteArray) (e k : Bool) (w : World) (hb : b.size ≤ maxLen) :
    Calls Try.prog 8 #[.agg #[.int .i64 r, .string b, .bool e, .bool k]] w fun x w' => x = .returned (.bool true) ∧ Below w.heap.size w w' := by
  by_cases h : (1048576 : Int) - b.size < 0
  · go_enter Try.func8, Try.ntmps8
    go_wp2_with (go_at_call 29; refine (sz r b e k _ _ hb (by omega) (by omega)).mono ?_; rw [if_pos (by omega)]; rintro x w1 ⟨rfl, hb1⟩; have hz1 := hb1.size; (try simp at hz1); have hc1 := fun o => hb1.cell (p := ⟨w.heap.size, o, none⟩) (by first | (simp; done) | (simp; omega) | omega))
    go_ret
    exact ⟨rfl, (by repeat' (first | (with_reducible exact Below.refl _ _) | (with_reducible refine Below.drew ?_) | (with_reducible refine bo_drewN _ ?_) | (with_reducible refine bo_alloc ?_ _) | (refine bchain ?_ (by with_reducible assumption)) | (with_reducible refine Below.setCell ?_ ?_ _) | go_size))⟩
  · cases hv : okB r b k
    · go_enter Try.func8, Try.ntmps8
      go_wp2_with fail
      refine (sz r b e k _ _ hb (by omega) (by omega)).mono ?_; rw [if_neg (by omega)]; rintro x w1 ⟨rfl, hb1⟩; have hz1 := hb1.size; (try simp at hz1); have hc1 := fun o => hb1.cell (p := ⟨w.heap.size, o, none⟩) (by first | (simp; done) | (simp; omega) | omega); have hf1 := fun o => hb1.frozen (p := ⟨w.heap.size, o, none⟩) (by first | (simp; done) | (simp; omega) | omega)
      go_wp2_with fail
      refine (toP r b e k _).mono ?_; rintro x w2 ⟨rfl, hb2⟩; have hz2 := hb2.size; (try simp at hz2); have hc2 := fun o => hb2.cell (p := ⟨w.heap.size, o, none⟩) (by first | (simp; done) | (simp; omega) | omega); have hf2 := fun o => hb2.frozen (p := ⟨w.heap.size, o, none⟩) (by first | (simp; done) | (simp; omega) | omega)
      go_wp2_with fail
      refine (specClosed r b e k _ hb).mono ?_; rw [hv]; rintro x w3 ⟨rfl, hb3⟩; have hz3 := hb3.size; (try simp at hz3); have hs3 : w.heap.size < w3.heap.size := (by omega); have hc3 := fun o => hb3.cell (p := ⟨w.heap.size, o, none⟩) (by first | (simp; done) | (simp; omega) | omega); have hf3 := fun o => hb3.frozen (p := ⟨w.heap.size, o, none⟩) (by first | (simp; done) | (simp; omega) | omega)
      go_wp2_with fail
      refine (toP r b e k _).mono ?_; rintro x w4 ⟨rfl, hb4⟩; have hz4 := hb4.size; (try simp at hz4); have hs4 : w.heap.size < w4.heap.size := (by omega); have ht4 : w3.heap.size < w4.heap.size := (by omega); have hc4 := fun o => hb4.cell (p := ⟨w.heap.size, o, none⟩) (by first | (simp; done) | (simp; omega) | omega); have hf4 := fun o => hb4.frozen (p := ⟨w.heap.size, o, none⟩) (by first | (simp; done) | (simp; omega) | omega); have hcn4 := fun o => hb4.cell (p := ⟨w3.heap.size, o, none⟩) (by first | (simp; done) | (simp; omega) | omega); have hfn4 := fun o => hb4.frozen (p := ⟨w3.heap.size, o, none⟩) (by first | (simp; done) | (simp; omega) | omega)
      go_wp2_with fail
      refine (implClosed0 r b e k _ hb (by omega)).mono ?_; rw [hv]; rintro x w5 ⟨rfl, hb5⟩; have hz5 := hb5.size; (try simp at hz5); have hs5 : w.heap.size < w5.heap.size := (by omega); have ht5 : w3.heap.size < w5.heap.size := (by omega); have hc5 := fun o => hb5.cell (p := ⟨w.heap.size, o, none⟩) (by first | (simp; done) | (simp; omega) | omega); have hf5 := fun o => hb5.frozen (p := ⟨w.heap.size, o, none⟩) (by first | (simp; done) | (simp; omega) | omega); have hcn5 := fun o => hb5.cell (p := ⟨w3.heap.size, o, none⟩) (by first | (simp; done) | (simp; omega) | omega); have hfn5 := fun o => hb5.frozen (p := ⟨w3.heap.size, o, none⟩) (by first | (simp; done) | (simp; omega) | omega)
      go_wp2_with fail
      refine (eqP 0 ⟨#[]⟩ false false _).mono ?_; rintro x w6 ⟨rfl, hb6⟩
      go_wp2_with fail
      go_ret
      exact ⟨rfl, (by repeat' (first | (with_reducible exact Below.refl _ _) | (with_reducible refine Below.drew ?_) | (with_reducible refine bo_drewN _ ?_) | (with_reducible refine bo_alloc ?_ _) | (refine bchain ?_ (by with_reducible assumption)) | (with_reducible refine Below.setCell ?_ ?_ _) | go_size))⟩
    · go_enter Try.func8, Try.ntmps8
      go_wp2_with fail
      refine (sz r b e k _ _ hb (by omega) (by omega)).mono ?_; rw [if_neg (by omega)]; rintro x w1 ⟨rfl, hb1⟩; have hz1 := hb1.size; (try simp at hz1); have hc1 := fun o => hb1.cell (p := ⟨w.heap.size, o, none⟩) (by first | (simp; done) | (simp; omega) | omega); have hf1 := fun o => hb1.frozen (p := ⟨w.heap.size, o, none⟩) (by first | (simp; done) | (simp; omega) | omega)
      go_wp2_with fail
      refine (toP r b e k _).mono ?_; rintro x w2 ⟨rfl, hb2⟩; have hz2 := hb2.size; (try simp at hz2); have hc2 := fun o => hb2.cell (p := ⟨w.heap.size, o, none⟩) (by first | (simp; done) | (simp; omega) | omega); have hf2 := fun o => hb2.frozen (p := ⟨w.heap.size, o, none⟩) (by first | (simp; done) | (simp; omega) | omega)
      go_wp2_with fail
      refine (specClosed r b e k _ hb).mono ?_; rw [hv]; rintro x w3 ⟨rfl, hb3⟩; have hz3 := hb3.size; (try simp at hz3); have hs3 : w.heap.size < w3.heap.size := (by omega); have hc3 := fun o => hb3.cell (p := ⟨w.heap.size, o, none⟩) (by first | (simp; done) | (simp; omega) | omega); have hf3 := fun o => hb3.frozen (p := ⟨w.heap.size, o, none⟩) (by first | (simp; done) | (simp; omega) | omega)
      go_wp2_with fail
      refine (toP r b e k _).mono ?_; rintro x w4 ⟨rfl, hb4⟩; have hz4 := hb4.size; (try simp at hz4); have hs4 : w.heap.size < w4.heap.size := (by omega); have ht4 : w3.heap.size < w4.heap.size := (by omega); have hc4 := fun o => hb4.cell (p := ⟨w.heap.size, o, none⟩) (by first | (simp; done) | (simp; omega) | omega); have hf4 := fun o => hb4.frozen (p := ⟨w.heap.size, o, none⟩) (by first | (simp; done) | (simp; omega) | omega); have hcn4 := fun o => hb4.cell (p := ⟨w3.heap.size, o, none⟩) (by first | (simp; done) | (simp; omega) | omega); have hfn4 := fun o => hb4.frozen (p := ⟨w3.heap.size, o, none⟩) (by first | (simp; done) | (simp; omega) | omega)
      go_wp2_with fail
      refine (implClosed0 r b e k _ hb (by omega)).mono ?_; rw [hv]; rintro x w5 ⟨rfl, hb5⟩; have hz5 := hb5.size; (try simp at hz5); have hs5 : w.heap.size < w5.heap.size := (by omega); have ht5 : w3.heap.size < w5.heap.size := (by omega); have hc5 := fun o => hb5.cell (p := ⟨w.heap.size, o, none⟩) (by first | (simp; done) | (simp; omega) | omega); have hf5 := fun o => hb5.frozen (p := ⟨w.heap.size, o, none⟩) (by first | (simp; done) | (simp; omega) | omega); have hcn5 := fun o => hb5.cell (p := ⟨w3.heap.size, o, none⟩) (by first | (simp; done) | (simp; omega) | omega); have hfn5 := fun o => hb5.frozen (p := ⟨w3.heap.size, o, none⟩) (by first | (simp; done) | (simp; omega) | omega)
      go_wp2_with fail
      refine (eqP r b true k _).mono ?_; rintro x w6 ⟨rfl, hb6⟩
      go_wp2_with fail
      go_ret
      exact ⟨rfl, (by repeat' (first | (with_reducible exact Below.refl _ _) | (with_reducible refine Below.drew ?_) | (with_reducible refine bo_drewN _ ?_) | (with_reducible refine bo_alloc ?_ _) | (refine bchain ?_ (by with_reducible assumption)) | (with_reducible refine Below.setCell ?_ ?_ _) | go_size))⟩


theorem own : ownKnob Try.prog.godebug = none := by kernel_rfl
theorem laidOut : laidOutB Try.prog = true := by kernel_rfl

set_option maxRecDepth 100000 in
theorem lifted (os : Os) (started : os.Started) (H : Type) (enc : TypeId × Value → H) :
    ReturnsInHanded {} Try.checked os 8 .any (Rows.fnExactClosedSpec.pre6 enc Try.prog Try.f8 Rows.fnExactClosedRow.domain false) (Rows.fnExactClosedSpec.post enc Try.prog Try.f8 false true false false) := by
  refine returnsInHanded_of_change (C := Try.checked) own started (by kernel_rfl) Try.func8
    (ChangeSpec.witness6 (enc := enc) (C := Try.checked) false ⟨#[], #[.agg #[.int .i64 0, .string ⟨#[]⟩, .bool false, .bool false]], []⟩ 8 (by kernel_rfl) (by kernel_rfl) (by kernel_rfl) (by kernel_rfl)) ?_
  intro W base args ds gs before hval0 hW hcnd _
  have hval : ∀ (j : Nat) t v, Try.f8.params[j]? = some t → args[j]? = some v → Value.okWide Try.prog W .any base t v := hval0
  have hW' := hW
  obtain ⟨p, q, hA0, hV, rfl, hfz, hnd⟩ := hW
  have hA : DataW.TrodAll enc Try.prog W 0 (fun _ => true) true Try.f8.params.toList args.toList ds p := hA0
  rw [Try.params8] at hA hval
  obtain ⟨v0, vs0, d0, ds0, p0, q0, hargs, rfl, rfl, h0, r0⟩ := trodAll_cons hA
  obtain ⟨rfl, rfl, rfl⟩ := trodAll_nil r0
  obtain rfl : args = #[v0] := by cases args; simp_all
  obtain ⟨rfl, rfl⟩ := trodVars_none hV
  have k0 := h0
  have lt0 : ∀ x ∈ p0, x.block < W.heap.size := by obtain ⟨m, hm⟩ := k0; exact DataW.trod_lt m _ _ _ hm
  obtain ⟨r, b, e, k, hb, rfl⟩ := open_Pipe (hval 0 38 v0 rfl rfl) h0
  clear hA0 hval0
  refine (walk r b e k W hb).mono fun e W' ⟨he, bel⟩ => ?_
  subst he
  exact ⟨_, rfl, _, _, _, [], _, [], hW', trodAll_mk1 (shut_bool Try.underlying4 _), (trodAll_cons_mk (Below.trod laidOut (by kernel_rfl) (of_decide_eq_true (by kernel_rfl)) k0 bel lt0) trodAll_mk0), rfl, bel.frame _, fun h => by cases h⟩

theorem over : Rows.fnExactClosedRow.holds Try.pinned (OpenSpec.ofChange Rows.fnExactClosedSpec) :=
  OpenClaim.holds_of_wide 8 Try.f8 rfl rfl rfl rfl rfl rfl rfl ⟨rfl, rfl, rfl, rfl, rfl⟩ rfl rfl rfl rfl rfl (by kernel_rfl) Try.func8 (by kernel_rfl)
    (of_decide_eq_true (by kernel_rfl)) (by unfold Func.isWrapper; first | (rw [if_pos (by decide +kernel)]; kernel_rfl) | (rw [if_neg (by decide +kernel)]; exact ⟨rfl, rfl⟩))
    (fun os started H enc _ => lifted os started H enc)

end exactClosed

theorem exactClosed_proved : Rows.FnExactClosedSaid := exactClosed.over
#print axioms exactClosed_proved
end Go.Proofs.Ythjiiemhlijgkaa
