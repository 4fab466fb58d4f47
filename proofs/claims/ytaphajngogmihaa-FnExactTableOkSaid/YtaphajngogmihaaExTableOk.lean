/- The law FnExactTableOk returns true at every argument and leaves it as it was: impl.TableOk answers as its model and writes into no argument. No condition. -/
import Derived.Test.YtaphajngogmihaaImplTOk
import Derived.Test.YtaphajngogmihaaTables
import Derived.WalkKit
import Derived.ProofKit
import Derived.OpenShut
import Derived.ShutString
import Derived.ChangeOld
import Derived.Below
import Derived.Lib.SmallJoins
import Derived.Deep.RegionHeld3

namespace Go.Proofs.Ytaphajngogmihaa
open Go.RowKit
namespace exactTableOk
open Go.ChangeShapes Go.WideShapes Go.ChangeAt Go.RowKit Go.Joins
set_option linter.unusedVariables false
set_option linter.unusedSimpArgs false

set_option maxHeartbeats 4000000 in
theorem walk (L : List Fd) (room : Int) (v : Value) (w : World) (hr : Reads w v L.length 2 (fv L)) (hf : ∀ f ∈ L, f.fine) :
    Calls Try.prog 4 #[.agg #[.int .i64 room, v]] w fun x w' => x = .returned (.bool true) ∧ Below w.heap.size w w' := by
  have HR := hide hr; have HF := hide hf
  obtain ⟨ad, cap, rfl, _⟩ := hr.2
  clear hr hf
  go_enter Try.func4, Try.ntmps4
  go_wp2_with fail
  have hb0 : Below (World.heap w).size w (World.alloc w (.cells #[.int .i64 room, .slice ad L.length cap] 31)) := (Below.refl _ _).alloc (Nat.le_refl _) _; have c0 : (World.alloc w (.cells #[.int .i64 room, .slice ad L.length cap] 31)).cell? ⟨(World.heap w).size, 0, none⟩ = some (.int .i64 room) := (by simp); have c1 : (World.alloc w (.cells #[.int .i64 room, .slice ad L.length cap] 31)).cell? ⟨(World.heap w).size, 1, none⟩ = some (.slice ad L.length cap) := (by simp); have hl0 : (World.heap w).size < (World.heap (World.alloc w (.cells #[.int .i64 room, .slice ad L.length cap] 31))).size := (by simp); generalize World.alloc w (.cells #[.int .i64 room, .slice ad L.length cap] 31) = V0 at *
  refine (szTable1 L room _ _ _ (HR.out.new hb0) HF.out (by omega) (by omega)).mono ?_
  by_cases hneg : (1048576 : Int) - L.length - szL L < 0
  · rw [if_pos hneg]; rintro x w1 ⟨rfl, hb1⟩
    go_wp2_with fail
    go_ret
    exact ⟨rfl, bchain hb0 hb1⟩
  rw [if_neg hneg]; rintro x w1 ⟨rfl, hb1⟩
  have hLl : L.length ≤ 1048576 := by have := szL_pos L; omega
  have hnn : ¬ (1048576 - (L.length : Int) - szL L < 0) := hneg
  generalize (1048576 : Int) - L.length - szL L = left at *
  replace c0 := (hb1.cell (p := ⟨w.heap.size, 0, none⟩) hl0).trans c0
  replace c1 := (hb1.cell (p := ⟨w.heap.size, 1, none⟩) hl0).trans c1
  have hB1 := bchain hb0 hb1
  replace hl0 := Nat.lt_of_lt_of_le hl0 hb1.size
  clear hb0 hb1
  go_wp2_with fail
  refine (toTable1 L room _ _ (HR.out.new hB1) hLl).mono ?_; rintro x w2 ⟨v2, rfl, ho2, hb2⟩
  obtain ⟨a2, p2, rfl, _⟩ := owns_form ho2
  have HO2 := hide (reads_of_owns ho2)
  clear ho2
  replace c0 := (hb2.cell (p := ⟨w.heap.size, 0, none⟩) hl0).trans c0
  replace c1 := (hb2.cell (p := ⟨w.heap.size, 1, none⟩) hl0).trans c1
  have hB2 := bchain hB1 hb2
  replace hl0 := Nat.lt_of_lt_of_le hl0 hb2.size
  clear hB1 hb2
  go_wp2_with fail
  refine (specTOk L room _ _ HO2.out HF.out).mono ?_; rintro x w3 ⟨rfl, hb3⟩
  replace c0 := (hb3.cell (p := ⟨w.heap.size, 0, none⟩) hl0).trans c0
  replace c1 := (hb3.cell (p := ⟨w.heap.size, 1, none⟩) hl0).trans c1
  have hB3 := bchain hB2 hb3
  replace hl0 := Nat.lt_of_lt_of_le hl0 hb3.size
  clear hB2 hb3 HO2
  go_wp2_with fail
  refine (toTable1 L room _ _ (HR.out.new hB3) hLl).mono ?_; rintro x w4 ⟨v4, rfl, ho4, hb4⟩
  obtain ⟨a4, p4, rfl, _⟩ := owns_form ho4
  have HO4 := hide (reads_of_owns ho4)
  clear ho4
  replace c0 := (hb4.cell (p := ⟨w.heap.size, 0, none⟩) hl0).trans c0
  replace c1 := (hb4.cell (p := ⟨w.heap.size, 1, none⟩) hl0).trans c1
  have hB4 := bchain hB3 hb4
  replace hl0 := Nat.lt_of_lt_of_le hl0 hb4.size
  clear hB3 hb4
  go_wp2_with fail
  have hb5 : Below (World.heap w4).size w4 (World.alloc w4 (.cells #[.int .i64 room, .slice a4 L.length p4] 36)) := (Below.refl _ _).alloc (Nat.le_refl _) _; have d0 : (World.alloc w4 (.cells #[.int .i64 room, .slice a4 L.length p4] 36)).cell? ⟨(World.heap w4).size, 0, none⟩ = some (.int .i64 room) := (by simp); have d1 : (World.alloc w4 (.cells #[.int .i64 room, .slice a4 L.length p4] 36)).cell? ⟨(World.heap w4).size, 1, none⟩ = some (.slice a4 L.length p4) := (by simp); have hl5 : (World.heap w4).size < (World.heap (World.alloc w4 (.cells #[.int .i64 room, .slice a4 L.length p4] 36))).size := (by simp); generalize World.alloc w4 (.cells #[.int .i64 room, .slice a4 L.length p4] 36) = V5 at *
  replace c0 := (hb5.cell (p := ⟨w.heap.size, 0, none⟩) hl0).trans c0
  replace c1 := (hb5.cell (p := ⟨w.heap.size, 1, none⟩) hl0).trans c1
  have hB5 := bchain hB4 hb5
  replace hl0 := Nat.lt_of_lt_of_le hl0 hb5.size
  replace HO4 := hide (HO4.out.new hb5)
  clear hB4 hb5
  refine (implTOk L room _ _ HO4.out HF.out).mono ?_; rintro x w6 ⟨rfl, hb6⟩
  replace c0 := (hb6.cell (p := ⟨w.heap.size, 0, none⟩) hl0).trans c0
  replace c1 := (hb6.cell (p := ⟨w.heap.size, 1, none⟩) hl0).trans c1
  replace d0 := (hb6.cell (p := ⟨w4.heap.size, 0, none⟩) hl5).trans d0
  replace d1 := (hb6.cell (p := ⟨w4.heap.size, 1, none⟩) hl5).trans d1
  have hB6 := bchain hB5 hb6
  replace hl0 := Nat.lt_of_lt_of_le hl0 hb6.size
  replace hl5 := Nat.lt_of_lt_of_le hl5 hb6.size
  replace HO4 := hide (HO4.out.new hb6)
  clear hB5 hb6
  go_wp2_with fail
  go_region_held3 (fun w' => w'.cell? ⟨w4.heap.size, 0, none⟩ = some (.int .i64 room) ∧ w'.cell? ⟨w4.heap.size, 1, none⟩ = some (.slice a4 L.length p4) ∧ w'.cell? ⟨w.heap.size, 0, none⟩ = some (.int .i64 room) ∧ w'.cell? ⟨w.heap.size, 1, none⟩ = some (.slice ad L.length cap)) (first | go_keep | (simp [*, go_sem]; done))
    (first
      | (go_at_call 13; refine (toTable1 L room _ _ (HR.out.new (bo_drewN _ hB6)) hLl).mono ?_; rintro x w7 ⟨v7, rfl, ho7, hb7⟩; obtain ⟨a7, p7, rfl, _⟩ := owns_form ho7; have HO7 := hide (reads_of_owns ho7); clear ho7; have hz7 := hb7.size; (try simp at hz7); have k0 := fun o => hb7.cell (p := ⟨w.heap.size, o, none⟩) (by first | (simp; done) | (simp; omega) | omega); have k1 := fun o => hb7.cell (p := ⟨w4.heap.size, o, none⟩) (by first | (simp; done) | (simp; omega) | omega))
      | (go_at_call 15; refine (eqTable1 L room _ _ _ (HO4.out.new (bchain (bo_drewN _ (Below.refl _ _)) hb7)) HO7.out).mono ?_; rintro x w8 ⟨rfl, hb8⟩; have hz8 := hb8.size; (try simp at hz8); have k2 := fun o => hb8.cell (p := ⟨w.heap.size, o, none⟩) (by first | (simp; done) | (simp; omega) | omega); have k3 := fun o => hb8.cell (p := ⟨w4.heap.size, o, none⟩) (by first | (simp; done) | (simp; omega) | omega)))
  go_wp2_with fail
  go_ret
  exact ⟨rfl, bchain (bchain (bo_drewN _ hB6) hb7) hb8⟩


theorem own : ownKnob Try.prog.godebug = none := by kernel_rfl
theorem laidOut : laidOutB Try.prog = true := by kernel_rfl

set_option maxRecDepth 100000 in
theorem lifted (os : Os) (started : os.Started) (H : Type) (enc : TypeId × Value → H) :
    ReturnsInHanded {} Try.checked os 4 .any (Rows.fnExactTableOkSpec.pre6 enc Try.prog Try.f4 Rows.fnExactTableOkRow.domain false) (Rows.fnExactTableOkSpec.post enc Try.prog Try.f4 false true false false) := by
  refine returnsInHanded_of_change (C := Try.checked) own started (by kernel_rfl) Try.func4
    (ChangeSpec.witness6 (enc := enc) (C := Try.checked) false ⟨#[], #[.agg #[.int .i64 0, .slice none 0 0]], []⟩ 8 (by kernel_rfl) (by kernel_rfl) (by kernel_rfl) (by kernel_rfl)) ?_
  intro W base args ds gs before hval0 hW hcnd _
  have hval : ∀ (j : Nat) t v, Try.f4.params[j]? = some t → args[j]? = some v → Value.okWide Try.prog W .any base t v := hval0
  have hW' := hW
  obtain ⟨p, q, hA0, hV, rfl, hfz, hnd⟩ := hW
  have hA : DataW.TrodAll enc Try.prog W 0 (fun _ => true) true Try.f4.params.toList args.toList ds p := hA0
  rw [Try.params4] at hA hval
  obtain ⟨v0, vs0, d0, ds0, p0, q0, hargs, rfl, rfl, h0, r0⟩ := trodAll_cons hA
  obtain ⟨rfl, rfl, rfl⟩ := trodAll_nil r0
  obtain rfl : args = #[v0] := by cases args; simp_all
  obtain ⟨rfl, rfl⟩ := trodVars_none hV
  have k0 := h0
  have lt0 : ∀ x ∈ p0, x.block < W.heap.size := by obtain ⟨m, hm⟩ := k0; exact DataW.trod_lt m _ _ _ hm
  obtain ⟨room, rv, L, rfl, hL, hfL⟩ := open_Table (hval 0 31 v0 rfl rfl) h0
  clear hA0 hval0
  refine (walk L room rv W hL hfL).mono fun e W' ⟨he, bel⟩ => ?_
  subst he
  exact ⟨_, rfl, _, _, _, [], _, [], hW', trodAll_mk1 (shut_bool Try.underlying4 _), (trodAll_cons_mk (Below.trod laidOut (by kernel_rfl) (of_decide_eq_true (by kernel_rfl)) k0 bel lt0) trodAll_mk0), rfl, bel.frame _, fun h => by cases h⟩

theorem over : Rows.fnExactTableOkRow.holds Try.pinned (OpenSpec.ofChange Rows.fnExactTableOkSpec) :=
  OpenClaim.holds_of_wide 4 Try.f4 rfl rfl rfl rfl rfl rfl rfl ⟨rfl, rfl, rfl, rfl, rfl⟩ rfl rfl rfl rfl rfl (by kernel_rfl) Try.func4 (by kernel_rfl)
    (of_decide_eq_true (by kernel_rfl)) (by unfold Func.isWrapper; first | (rw [if_pos (by decide +kernel)]; kernel_rfl) | (rw [if_neg (by decide +kernel)]; exact ⟨rfl, rfl⟩))
    (fun os started H enc _ => lifted os started H enc)

end exactTableOk

theorem exactTableOk_proved : Rows.FnExactTableOkSaid := exactTableOk.over
#print axioms exactTableOk_proved
end Go.Proofs.Ytaphajngogmihaa
