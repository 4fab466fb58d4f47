/- The law FnExactRowAt returns true at every argument and leaves it as it was: impl.RowAt answers as its model and writes into no argument. No condition. -/
import Derived.Test.YtafmamgkihjeaaaRowAt
import Derived.Test.YtafmamgkihjeaaaTables
import Derived.WalkKit
import Derived.ProofKit
import Derived.OpenShut
import Derived.ShutString
import Derived.ChangeOld
import Derived.Below
import Derived.Lib.SmallJoins
import Derived.Deep.RegionHeld3

namespace Go.Proofs.Ytafmamgkihjeaaa
open Go.RowKit
namespace exactRowAt
open Go.ChangeShapes Go.WideShapes Go.ChangeAt Go.RowKit Go.Joins
set_option linter.unusedVariables false
set_option linter.unusedSimpArgs false

set_option maxHeartbeats 4000000 in
theorem walk (L : List Fd) (room : Int) (v : Value) (n : Int) (w : World) (hr : Reads w v L.length 2 (fv L)) (hf : ∀ f ∈ L, f.fine) :
    Calls Try.prog 7 #[.agg #[.int .i64 room, v], .int .i64 n] w fun x w' => x = .returned (.bool true) ∧ Below w.heap.size w w' := by
  have HR := hide hr; have HF := hide hf
  obtain ⟨ad, cap, rfl, _⟩ := hr.2
  clear hr hf
  go_enter Try.func7, Try.ntmps7
  go_wp2_with fail
  have hb0 : Below (World.heap w).size w (World.alloc w (.cells #[.int .i64 room, .slice ad L.length cap] 31)) := (Below.refl _ _).alloc (Nat.le_refl _) _; have c0 : (World.alloc w (.cells #[.int .i64 room, .slice ad L.length cap] 31)).cell? ⟨(World.heap w).size, 0, none⟩ = some (.int .i64 room) := (by simp); have c1 : (World.alloc w (.cells #[.int .i64 room, .slice ad L.length cap] 31)).cell? ⟨(World.heap w).size, 1, none⟩ = some (.slice ad L.length cap) := (by simp); have hl0 : (World.heap w).size < (World.heap (World.alloc w (.cells #[.int .i64 room, .slice ad L.length cap] 31))).size := (by simp); generalize World.alloc w (.cells #[.int .i64 room, .slice ad L.length cap] 31) = V0 at *
  refine (szTable1 L room _ _ _ (HR.out.new hb0) HF.out (by omega) (by omega)).mono ?_
  by_cases hneg : (1048576 : Int) - L.length - szL L < 0
  · rw [if_pos hneg]; rintro x w1 ⟨rfl, hb1⟩
    go_wp2_with fail
    go_ret
    exact ⟨rfl, bchain hb0 hb1⟩
  rw [if_neg hneg]; rintro x w1 ⟨rfl, hb1⟩
  have hLl : L.length ≤ 1048576 := by have := szL_pos L; omega
  have hnn : ¬ (1048576 - (L.length : Int) - szL L < 0) := hneg
  generalize (1048576 : Int) - L.length - szL L = left at *
  replace c0 := (hb1.cell (p := ⟨w.heap.size, 0, none⟩) hl0).trans c0; replace c1 := (hb1.cell (p := ⟨w.heap.size, 1, none⟩) hl0).trans c1; replace hl0 := Nat.lt_of_lt_of_le hl0 hb1.size
  have hB1 := bchain hb0 hb1
  clear hb0 hb1
  go_wp2_with fail
  refine (toTable1 L room _ _ (HR.out.new hB1) hLl).mono ?_; rintro x w2 ⟨v2, rfl, ho2, hb2⟩
  obtain ⟨a2, p2, rfl, _⟩ := owns_form ho2
  have HO2 := hide (reads_of_owns ho2)
  clear ho2
  replace c0 := (hb2.cell (p := ⟨w.heap.size, 0, none⟩) hl0).trans c0; replace c1 := (hb2.cell (p := ⟨w.heap.size, 1, none⟩) hl0).trans c1; replace hl0 := Nat.lt_of_lt_of_le hl0 hb2.size
  have hB2 := bchain hB1 hb2
  clear hB1 hb2
  go_wp2_with fail
  refine (specRowAt L room _ n _ HO2.out HF.out).mono ?_; rintro x w3 ⟨rfl, hb3⟩
  replace c0 := (hb3.cell (p := ⟨w.heap.size, 0, none⟩) hl0).trans c0; replace c1 := (hb3.cell (p := ⟨w.heap.size, 1, none⟩) hl0).trans c1; replace hl0 := Nat.lt_of_lt_of_le hl0 hb3.size
  have hB3 := bchain hB2 hb3
  clear hB2 hb3 HO2
  obtain ⟨D, hD⟩ : ∃ D, D = rowAtD room L n := ⟨_, rfl⟩
  rw [← hD]
  have HD := hide hD
  clear hD
  obtain ⟨F, bo⟩ := D
  dsimp only
  go_wp2_with fail
  have hb4 : Below (World.heap w3).size w3 (World.alloc w3 (.cells #[.string F.n, .string F.v] 26)) := (Below.refl _ _).alloc (Nat.le_refl _) _; have e0 : (World.alloc w3 (.cells #[.string F.n, .string F.v] 26)).cell? ⟨(World.heap w3).size, 0, none⟩ = some (.string F.n) := (by simp); have e1 : (World.alloc w3 (.cells #[.string F.n, .string F.v] 26)).cell? ⟨(World.heap w3).size, 1, none⟩ = some (.string F.v) := (by simp); have hl4 : (World.heap w3).size < (World.heap (World.alloc w3 (.cells #[.string F.n, .string F.v] 26))).size := (by simp); generalize World.alloc w3 (.cells #[.string F.n, .string F.v] 26) = V4 at *
  replace c0 := (hb4.cell (p := ⟨w.heap.size, 0, none⟩) hl0).trans c0; replace c1 := (hb4.cell (p := ⟨w.heap.size, 1, none⟩) hl0).trans c1; replace hl0 := Nat.lt_of_lt_of_le hl0 hb4.size
  have hB4 := bchain hB3 hb4
  clear hB3 hb4
  refine (toTable1 L room _ _ (HR.out.new hB4) hLl).mono ?_; rintro x w5 ⟨v5, rfl, ho5, hb5⟩
  obtain ⟨a5, p5, rfl, _⟩ := owns_form ho5
  have HO5 := hide (reads_of_owns ho5)
  clear ho5
  replace c0 := (hb5.cell (p := ⟨w.heap.size, 0, none⟩) hl0).trans c0; replace c1 := (hb5.cell (p := ⟨w.heap.size, 1, none⟩) hl0).trans c1; replace hl0 := Nat.lt_of_lt_of_le hl0 hb5.size
  replace e0 := (hb5.cell (p := ⟨w3.heap.size, 0, none⟩) hl4).trans e0; replace e1 := (hb5.cell (p := ⟨w3.heap.size, 1, none⟩) hl4).trans e1; replace hl4 := Nat.lt_of_lt_of_le hl4 hb5.size
  have hB5 := bchain hB4 hb5
  clear hB4 hb5
  go_wp2_with fail
  have hb6 : Below (World.heap w5).size w5 (World.alloc w5 (.cells #[.int .i64 room, .slice a5 L.length p5] 36)) := (Below.refl _ _).alloc (Nat.le_refl _) _; have d0 : (World.alloc w5 (.cells #[.int .i64 room, .slice a5 L.length p5] 36)).cell? ⟨(World.heap w5).size, 0, none⟩ = some (.int .i64 room) := (by simp); have d1 : (World.alloc w5 (.cells #[.int .i64 room, .slice a5 L.length p5] 36)).cell? ⟨(World.heap w5).size, 1, none⟩ = some (.slice a5 L.length p5) := (by simp); have hl6 : (World.heap w5).size < (World.heap (World.alloc w5 (.cells #[.int .i64 room, .slice a5 L.length p5] 36))).size := (by simp); generalize World.alloc w5 (.cells #[.int .i64 room, .slice a5 L.length p5] 36) = V6 at *
  replace c0 := (hb6.cell (p := ⟨w.heap.size, 0, none⟩) hl0).trans c0; replace c1 := (hb6.cell (p := ⟨w.heap.size, 1, none⟩) hl0).trans c1; replace hl0 := Nat.lt_of_lt_of_le hl0 hb6.size
  replace e0 := (hb6.cell (p := ⟨w3.heap.size, 0, none⟩) hl4).trans e0; replace e1 := (hb6.cell (p := ⟨w3.heap.size, 1, none⟩) hl4).trans e1; replace hl4 := Nat.lt_of_lt_of_le hl4 hb6.size
  have hB6 := bchain hB5 hb6
  replace HO5 := hide (HO5.out.new hb6)
  clear hB5 hb6
  refine (implRowAt L room _ n _ HO5.out HF.out).mono ?_; rintro x w7 ⟨rfl, hb7⟩
  rw [← HD.out]
  dsimp only
  replace c0 := (hb7.cell (p := ⟨w.heap.size, 0, none⟩) hl0).trans c0; replace c1 := (hb7.cell (p := ⟨w.heap.size, 1, none⟩) hl0).trans c1; replace hl0 := Nat.lt_of_lt_of_le hl0 hb7.size
  replace e0 := (hb7.cell (p := ⟨w3.heap.size, 0, none⟩) hl4).trans e0; replace e1 := (hb7.cell (p := ⟨w3.heap.size, 1, none⟩) hl4).trans e1; replace hl4 := Nat.lt_of_lt_of_le hl4 hb7.size
  replace d0 := (hb7.cell (p := ⟨w5.heap.size, 0, none⟩) hl6).trans d0; replace d1 := (hb7.cell (p := ⟨w5.heap.size, 1, none⟩) hl6).trans d1; replace hl6 := Nat.lt_of_lt_of_le hl6 hb7.size
  have hB7 := bchain hB6 hb7
  replace HO5 := hide (HO5.out.new hb7)
  clear hB6 hb7
  go_wp2_with fail
  have hb8 : Below (World.heap w7).size w7 (World.alloc w7 (.cells #[.string F.n, .string F.v] 26)) := (Below.refl _ _).alloc (Nat.le_refl _) _; have g0 : (World.alloc w7 (.cells #[.string F.n, .string F.v] 26)).cell? ⟨(World.heap w7).size, 0, none⟩ = some (.string F.n) := (by simp); have g1 : (World.alloc w7 (.cells #[.string F.n, .string F.v] 26)).cell? ⟨(World.heap w7).size, 1, none⟩ = some (.string F.v) := (by simp); have hl8 : (World.heap w7).size < (World.heap (World.alloc w7 (.cells #[.string F.n, .string F.v] 26))).size := (by simp); generalize World.alloc w7 (.cells #[.string F.n, .string F.v] 26) = V8 at *
  replace c0 := (hb8.cell (p := ⟨w.heap.size, 0, none⟩) hl0).trans c0; replace c1 := (hb8.cell (p := ⟨w.heap.size, 1, none⟩) hl0).trans c1; replace hl0 := Nat.lt_of_lt_of_le hl0 hb8.size
  replace e0 := (hb8.cell (p := ⟨w3.heap.size, 0, none⟩) hl4).trans e0; replace e1 := (hb8.cell (p := ⟨w3.heap.size, 1, none⟩) hl4).trans e1; replace hl4 := Nat.lt_of_lt_of_le hl4 hb8.size
  replace d0 := (hb8.cell (p := ⟨w5.heap.size, 0, none⟩) hl6).trans d0; replace d1 := (hb8.cell (p := ⟨w5.heap.size, 1, none⟩) hl6).trans d1; replace hl6 := Nat.lt_of_lt_of_le hl6 hb8.size
  have hB8 := bchain hB7 hb8
  replace HO5 := hide (HO5.out.new hb8)
  clear hB7 hb8
  refine (eqField1 F _).mono ?_; rintro x w9 ⟨rfl, hb9⟩
  replace c0 := (hb9.cell (p := ⟨w.heap.size, 0, none⟩) hl0).trans c0; replace c1 := (hb9.cell (p := ⟨w.heap.size, 1, none⟩) hl0).trans c1; replace hl0 := Nat.lt_of_lt_of_le hl0 hb9.size
  replace e0 := (hb9.cell (p := ⟨w3.heap.size, 0, none⟩) hl4).trans e0; replace e1 := (hb9.cell (p := ⟨w3.heap.size, 1, none⟩) hl4).trans e1; replace hl4 := Nat.lt_of_lt_of_le hl4 hb9.size
  replace d0 := (hb9.cell (p := ⟨w5.heap.size, 0, none⟩) hl6).trans d0; replace d1 := (hb9.cell (p := ⟨w5.heap.size, 1, none⟩) hl6).trans d1; replace hl6 := Nat.lt_of_lt_of_le hl6 hb9.size
  have hB9 := bchain hB8 hb9
  replace HO5 := hide (HO5.out.new hb9)
  clear hB8 hb9
  go_wp2_with fail
  go_region_held3 (fun w' => w'.cell? ⟨w5.heap.size, 0, none⟩ = some (.int .i64 room) ∧ w'.cell? ⟨w5.heap.size, 1, none⟩ = some (.slice a5 L.length p5) ∧ w'.cell? ⟨w.heap.size, 0, none⟩ = some (.int .i64 room) ∧ w'.cell? ⟨w.heap.size, 1, none⟩ = some (.slice ad L.length cap)) (first | go_keep | (simp [*, go_sem]; done))
    (first
      | (go_at_call 14; refine (toTable1 L room _ _ (HR.out.new (bo_drewN _ hB9)) hLl).mono ?_; rintro x wa ⟨va, rfl, hoa, hba⟩; obtain ⟨aa, pa, rfl, _⟩ := owns_form hoa; have HOa := hide (reads_of_owns hoa); clear hoa; have hza := hba.size; (try simp at hza); have k0 := fun o => hba.cell (p := ⟨w.heap.size, o, none⟩) (by first | (simp; done) | (simp; omega) | omega); have k1 := fun o => hba.cell (p := ⟨w5.heap.size, o, none⟩) (by first | (simp; done) | (simp; omega) | omega))
      | (go_at_call 16; refine (eqTable1 L room _ _ _ (HO5.out.new (bchain (bo_drewN _ (Below.refl _ _)) hba)) HOa.out).mono ?_; rintro x wb ⟨rfl, hbb⟩; have hzb := hbb.size; (try simp at hzb); have k2 := fun o => hbb.cell (p := ⟨w.heap.size, o, none⟩) (by first | (simp; done) | (simp; omega) | omega); have k3 := fun o => hbb.cell (p := ⟨w5.heap.size, o, none⟩) (by first | (simp; done) | (simp; omega) | omega)))
  go_wp2_with fail
  go_ret
  exact ⟨rfl, bchain (bchain (bo_drewN _ hB9) hba) hbb⟩


theorem own : ownKnob Try.prog.godebug = none := by kernel_rfl
theorem laidOut : laidOutB Try.prog = true := by kernel_rfl

set_option maxRecDepth 100000 in
theorem lifted (os : Os) (started : os.Started) (H : Type) (enc : TypeId × Value → H) :
    ReturnsInHanded {} Try.checked os 7 .any (Rows.fnExactRowAtSpec.pre6 enc Try.prog Try.f7 Rows.fnExactRowAtRow.domain false) (Rows.fnExactRowAtSpec.post enc Try.prog Try.f7 false true false false) := by
  refine returnsInHanded_of_change (C := Try.checked) own started (by kernel_rfl) Try.func7
    (ChangeSpec.witness6 (enc := enc) (C := Try.checked) false ⟨#[], #[.agg #[.int .i64 0, .slice none 0 0], .int .i64 0], []⟩ 8 (by kernel_rfl) (by kernel_rfl) (by kernel_rfl) (by kernel_rfl)) ?_
  intro W base args ds gs before hval0 hW hcnd _
  have hval : ∀ (j : Nat) t v, Try.f7.params[j]? = some t → args[j]? = some v → Value.okWide Try.prog W .any base t v := hval0
  have hW' := hW
  obtain ⟨p, q, hA0, hV, rfl, hfz, hnd⟩ := hW
  have hA : DataW.TrodAll enc Try.prog W 0 (fun _ => true) true Try.f7.params.toList args.toList ds p := hA0
  rw [Try.params7] at hA hval
  obtain ⟨v0, vs0, d0, ds0, p0, q0, hargs, rfl, rfl, h0, r0⟩ := trodAll_cons hA
  obtain ⟨v1, vs1, d1, ds1, p1, q1, rfl, rfl, rfl, h1, r1⟩ := trodAll_cons r0
  obtain ⟨rfl, rfl, rfl⟩ := trodAll_nil r1
  obtain rfl : args = #[v0, v1] := by cases args; simp_all
  obtain ⟨rfl, rfl⟩ := trodVars_none hV
  have k0 := h0
  have lt0 : ∀ x ∈ p0, x.block < W.heap.size := by obtain ⟨m, hm⟩ := k0; exact DataW.trod_lt m _ _ _ hm
  have k1 := h1
  have lt1 : ∀ x ∈ p1, x.block < W.heap.size := by obtain ⟨m, hm⟩ := k1; exact DataW.trod_lt m _ _ _ hm
  obtain ⟨room, rv, L, rfl, hL, hfL⟩ := open_Table (hval 0 31 v0 rfl rfl) h0
  obtain ⟨n, rfl, rfl, rfl, _⟩ := open_int Try.underlying2 (hval 1 2 v1 rfl rfl) h1
  clear hA0 hval0
  refine (walk L room rv n W hL hfL).mono fun e W' ⟨he, bel⟩ => ?_
  subst he
  exact ⟨_, rfl, _, _, _, [], _, [], hW', trodAll_mk1 (shut_bool Try.underlying4 _), (trodAll_cons_mk (Below.trod laidOut (by kernel_rfl) (of_decide_eq_true (by kernel_rfl)) k0 bel lt0) (trodAll_cons_mk (Below.trod laidOut (by kernel_rfl) (of_decide_eq_true (by kernel_rfl)) k1 bel lt1) trodAll_mk0)), rfl, bel.frame _, fun h => by cases h⟩

theorem over : Rows.fnExactRowAtRow.holds Try.pinned (OpenSpec.ofChange Rows.fnExactRowAtSpec) :=
  OpenClaim.holds_of_wide 7 Try.f7 rfl rfl rfl rfl rfl rfl rfl ⟨rfl, rfl, rfl, rfl, rfl⟩ rfl rfl rfl rfl rfl (by kernel_rfl) Try.func7 (by kernel_rfl)
    (of_decide_eq_true (by kernel_rfl)) (by unfold Func.isWrapper; first | (rw [if_pos (by decide +kernel)]; kernel_rfl) | (rw [if_neg (by decide +kernel)]; exact ⟨rfl, rfl⟩))
    (fun os started H enc _ => lifted os started H enc)

end exactRowAt

theorem exactRowAt_proved : Rows.FnExactRowAtSaid := exactRowAt.over
#print axioms exactRowAt_proved
end Go.Proofs.Ytafmamgkihjeaaa
