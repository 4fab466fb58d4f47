/- The law FnExactLookup returns true at every argument and leaves it as it was: impl.Lookup answers as its model and writes into no argument. No condition. -/
import Derived.Test.YthjbmmppckgcjaaLookup
import Derived.Test.YthjbmmppckgcjaaTables
import Derived.WalkKit
import Derived.ProofKit
import Derived.OpenShut
import Derived.ShutString
import Derived.ChangeOld
import Derived.Below
import Derived.Lib.SmallJoins
import Derived.Deep.RegionHeld3


namespace Go.Proofs.Ythjbmmppckgcjaa
open Go.RowKit
namespace exactLookup
open Go.ChangeShapes Go.WideShapes Go.ChangeAt Go.RowKit Go.Joins
set_option linter.unusedVariables false
set_option linter.unusedSimpArgs false

set_option maxRecDepth 100000 in
set_option maxHeartbeats 4000000 in
theorem walk (L : List Fd) (room : Int) (v : Value) (f : Fd) (w : World) (hr : Reads w v L.length 2 (fv L)) (hf : ∀ f ∈ L, f.fine) (hff : f.fine) :
    Calls Try.prog 8 #[.agg #[.int .i64 room, v], .agg #[.string f.n, .string f.v]] w fun x w' => x = .returned (.bool true) ∧ Below w.heap.size w w' := by
  have HR := hide hr; have HF := hide hf
  obtain ⟨ad, cap, rfl, _⟩ := hr.2
  clear hr hf
  obtain ⟨⟨dn, db⟩, hD⟩ : ∃ D, D = lookD room L f := ⟨_, rfl⟩
  have HD := hide hD
  clear hD
  go_enter Try.func8, Try.ntmps8
  go_wp2_with fail
  generalize hV : (w.alloc (.cells #[.int .i64 room, .slice ad L.length cap] 46)).alloc (.cells #[.string f.n, .string f.v] 50) = V
  have HBW : Hid (Below w.heap.size w V) := by show Below _ _ _; rw [← hV]; exact bo_alloc ((Below.refl _ _).alloc (Nat.le_refl _) _) _
  have HA : Hid (RowIs V w.heap.size 46 [.int .i64 room, .slice ad L.length cap]) := by show RowIs _ _ _ _; rw [← hV]; exact (rowIs_new w 46 [.int .i64 room, .slice ad L.length cap]).alloc _
  have HB : Hid (RowIs V (w.heap.size + 1) 50 [.string f.n, .string f.v]) := by show RowIs _ _ _ _; rw [← hV]; simpa using rowIs_new (w.alloc (.cells #[.int .i64 room, .slice ad L.length cap] 46)) 50 [.string f.n, .string f.v]
  clear hV
  refine (szTable1 L room _ _ _ (HR.out.new HBW.out) HF.out (by omega) (by omega)).mono ?_
  by_cases hneg : (1048576 : Int) - L.length - szL L < 0
  · rw [if_pos hneg]; rintro x w1 ⟨rfl, hb1⟩
    go_wp2_with fail
    go_ret
    exact ⟨rfl, bchain HBW.out hb1⟩
  rw [if_neg hneg]; rintro x w1 ⟨rfl, hb1⟩
  have hLl : L.length ≤ 1048576 := by have := szL_pos L; omega
  have hlu : (1048576 : Int) - L.length - szL L ≤ 1048576 := by have := szL_pos L; omega
  generalize (1048576 : Int) - L.length - szL L = left at *
  replace HA := hide (HA.out.new hb1)
  replace HB := hide (HB.out.new hb1)
  replace HBW := hide (bchain HBW.out hb1)
  clear hb1
  have y0 := HB.out.cell (j := 0) rfl
  have y1 := HB.out.cell (j := 1) rfl
  go_wp2_with fail
  refine (szField1 f _ _ hff (by omega) (by omega)).mono ?_
  by_cases hneg2 : left - szF f < 0
  · rw [if_pos hneg2]; rintro x w2 ⟨rfl, hb2⟩
    go_wp2_with fail
    go_ret
    exact ⟨rfl, bchain HBW.out hb2⟩
  rw [if_neg hneg2]; rintro x w2 ⟨rfl, hb2⟩
  generalize left - szF f = left2 at *
  clear y0 y1
  replace HA := hide (HA.out.new hb2)
  replace HB := hide (HB.out.new hb2)
  replace HBW := hide (bchain HBW.out hb2)
  clear hb2
  go_upto_region 8 with fail
  have x0 := HA.out.cell (j := 0) rfl
  have x1 := HA.out.cell (j := 1) rfl
  have y0 := HB.out.cell (j := 0) rfl
  have y1 := HB.out.cell (j := 1) rfl
  have hS0 := And.intro x0 (And.intro x1 (And.intro y0 y1))
  refine wp_region_held_drew (S := (fun u => u.cell? ⟨w.heap.size, 0, none⟩ = some (.int .i64 room) ∧ u.cell? ⟨w.heap.size, 1, none⟩ = some (.slice ad L.length cap) ∧ u.cell? ⟨w.heap.size + 1, 0, none⟩ = some (.string f.n) ∧ u.cell? ⟨w.heap.size + 1, 1, none⟩ = some (.string f.v))) (by kernel_rfl) hS0 (fun hS => ?_)
  clear x0 x1 y0 y1 hS0
  refine wpAnyH_take (i := 0) (v := ?_) rfl (by kernel_rfl) (by kernel_rfl) (by kernel_rfl) (fun _ _ _ h => h) (Or.inl ⟨by rfl, ?_⟩) hS ?_; rotate_left; focus (intro w hw; obtain ⟨l0, l1, l2, l3⟩ := hw; go_simp; try with_reducible rfl)
  refine wpAnyH_take (i := 2) (v := ?_) rfl (by kernel_rfl) (by kernel_rfl) (by kernel_rfl) (fun _ _ _ h => h) (Or.inl ⟨by rfl, ?_⟩) hS ?_; rotate_left; focus (intro w hw; obtain ⟨l0, l1, l2, l3⟩ := hw; go_simp; try with_reducible rfl)
  refine wpAnyH_ready (rs := [1]) (by kernel_rfl) (by simp) ?_; refine AllReadyH.cons rfl (fun K hK => ?_) AllReadyH.nil; go_simp
  refine (toTable1 L room _ _ (HR.out.new (bo_drewN 1 HBW.out)) hLl).mono ?_; rintro x w3 ⟨v3, rfl, ho3, hb3⟩
  obtain ⟨a3, p3, rfl, _⟩ := owns_form ho3
  have HO3 := hide (reads_of_owns ho3)
  have hc3 : Below w2.heap.size w2 w3 := bchain (bo_drewN 1 (Below.refl _ _)) hb3
  clear ho3 hb3
  refine hK.out _ _ ⟨(HA.out.new hc3).cell (j := 0) rfl, (HA.out.new hc3).cell (j := 1) rfl, (HB.out.new hc3).cell (j := 0) rfl, (HB.out.new hc3).cell (j := 1) rfl⟩ (fun hS => ?_)
  clear hK K
  refine wpAnyH_ready (rs := [3]) (by kernel_rfl) (by simp) ?_; refine AllReadyH.cons rfl (fun K hK => ?_) AllReadyH.nil; go_simp
  refine (toField1 f _).mono ?_; rintro x w4 ⟨rfl, hb4⟩
  have hc4 : Below w2.heap.size w2 w4 := bchain hc3 hb4
  replace HO3 := hide (HO3.out.new hb4)
  clear hb4 hc3
  refine hK.out _ _ ⟨(HA.out.new hc4).cell (j := 0) rfl, (HA.out.new hc4).cell (j := 1) rfl, (HB.out.new hc4).cell (j := 0) rfl, (HB.out.new hc4).cell (j := 1) rfl⟩ (fun hS => ?_)
  clear hK K
  refine wpAnyH_ready (rs := [4]) (by kernel_rfl) (by simp) ?_; refine AllReadyH.cons rfl (fun K hK => ?_) AllReadyH.nil; go_simp
  refine (specLookup L room _ f _ HO3.out HF.out).mono ?_; rw [← HD.out]; rintro x w5 ⟨rfl, hb5⟩
  have hc5 : Below w2.heap.size w2 w5 := bchain hc4 hb5
  clear hb5 hc4 HO3
  refine hK.out _ _ ⟨(HA.out.new hc5).cell (j := 0) rfl, (HA.out.new hc5).cell (j := 1) rfl, (HB.out.new hc5).cell (j := 0) rfl, (HB.out.new hc5).cell (j := 1) rfl⟩ (fun hS => ?_)
  clear hK K
  dsimp only
  refine wpAnyH_take (i := 5) (v := ?_) rfl (by kernel_rfl) (by kernel_rfl) (by kernel_rfl) (fun _ _ _ h => h) (Or.inl ⟨by rfl, ?_⟩) hS ?_; rotate_left; focus (intro w hw; clear hw; go_simp; try with_reducible rfl)
  refine wpAnyH_take (i := 6) (v := ?_) rfl (by kernel_rfl) (by kernel_rfl) (by kernel_rfl) (fun _ _ _ h => h) (Or.inl ⟨by rfl, ?_⟩) hS ?_; rotate_left; focus (intro w hw; clear hw; go_simp; try with_reducible rfl)
  refine wpAnyH_take (i := 7) (v := ?_) rfl (by kernel_rfl) (by kernel_rfl) (by kernel_rfl) (fun _ _ _ h => h) (Or.inl ⟨by rfl, ?_⟩) hS ?_; rotate_left; focus (intro w hw; clear hw; go_simp; try with_reducible rfl)
  refine wpAnyH_take (i := 8) (v := ?_) rfl (by kernel_rfl) (by kernel_rfl) (by kernel_rfl) (fun _ _ _ h => h) (Or.inl ⟨by rfl, ?_⟩) hS ?_; rotate_left; focus (intro w hw; clear hw; go_simp; try with_reducible rfl)
  refine wpAnyH_take (i := 9) (v := ?_) rfl (by kernel_rfl) (by kernel_rfl) (by kernel_rfl) (fun _ _ _ h => h) (Or.inl ⟨by rfl, ?_⟩) hS ?_; rotate_left; focus (intro w hw; clear hw; go_simp; try with_reducible rfl)
  refine wpAnyH_done (by kernel_rfl) ?_ _
  clear hS
  replace HA := hide (HA.out.new hc5)
  replace HB := hide (HB.out.new hc5)
  replace HBW := hide (bchain HBW.out hc5)
  clear hc5
  have x0 := HA.out.cell (j := 0) rfl
  have x1 := HA.out.cell (j := 1) rfl
  go_wp2_with fail
  refine (toTable1 L room _ _ (HR.out.new HBW.out) hLl).mono ?_; rintro x w6 ⟨v6, rfl, ho6, hb6⟩
  obtain ⟨a6, p6, rfl, _⟩ := owns_form ho6
  have HO6 := hide (reads_of_owns ho6)
  clear ho6
  clear x0 x1
  replace HA := hide (HA.out.new hb6)
  replace HB := hide (HB.out.new hb6)
  replace HBW := hide (bchain HBW.out hb6)
  clear hb6
  go_upto_region 10 with fail
  have hb7 : Below w6.heap.size w6 (w6.alloc (.cells #[.int .i64 room, .slice a6 L.length p6] 26)) := (Below.refl _ _).alloc (Nat.le_refl _) _
  have HT : Hid (RowIs (w6.alloc (.cells #[.int .i64 room, .slice a6 L.length p6] 26)) w6.heap.size 26 [.int .i64 room, .slice a6 L.length p6]) := rowIs_new w6 26 [.int .i64 room, .slice a6 L.length p6]
  generalize w6.alloc (.cells #[.int .i64 room, .slice a6 L.length p6] 26) = w7 at *
  replace HA := hide (HA.out.new hb7)
  replace HB := hide (HB.out.new hb7)
  replace HO6 := hide (HO6.out.new hb7)
  replace HBW := hide (bchain HBW.out hb7)
  clear hb7
  have x0 := HT.out.cell (j := 0) rfl
  have x1 := HT.out.cell (j := 1) rfl
  have y0 := HB.out.cell (j := 0) rfl
  have y1 := HB.out.cell (j := 1) rfl
  have hS0 := And.intro x0 (And.intro x1 (And.intro y0 y1))
  refine wp_region_held_drew (S := (fun u => u.cell? ⟨w6.heap.size, 0, none⟩ = some (.int .i64 room) ∧ u.cell? ⟨w6.heap.size, 1, none⟩ = some (.slice a6 L.length p6) ∧ u.cell? ⟨w.heap.size + 1, 0, none⟩ = some (.string f.n) ∧ u.cell? ⟨w.heap.size + 1, 1, none⟩ = some (.string f.v))) (by kernel_rfl) hS0 (fun hS => ?_)
  clear x0 x1 y0 y1 hS0
  refine wpAnyH_take (i := 0) (v := ?_) rfl (by kernel_rfl) (by kernel_rfl) (by kernel_rfl) (fun _ _ _ h => h) (Or.inl ⟨by rfl, ?_⟩) hS ?_; rotate_left; focus (intro w hw; obtain ⟨l0, l1, l2, l3⟩ := hw; go_simp; try with_reducible rfl)
  refine wpAnyH_take (i := 1) (v := ?_) rfl (by kernel_rfl) (by kernel_rfl) (by kernel_rfl) (fun _ _ _ h => h) (Or.inl ⟨by rfl, ?_⟩) hS ?_; rotate_left; focus (intro w hw; obtain ⟨l0, l1, l2, l3⟩ := hw; go_simp; try with_reducible rfl)
  refine wpAnyH_ready (rs := [2]) (by kernel_rfl) (by simp) ?_; refine AllReadyH.cons rfl (fun K hK => ?_) AllReadyH.nil; go_simp
  refine (toField1 f _).mono ?_; rintro x w8 ⟨rfl, hb8⟩
  have hc8 : Below w7.heap.size w7 w8 := bchain (bo_drewN 1 (Below.refl _ _)) hb8
  clear hb8
  refine hK.out _ _ ⟨(HT.out.new hc8).cell (j := 0) rfl, (HT.out.new hc8).cell (j := 1) rfl, (HB.out.new hc8).cell (j := 0) rfl, (HB.out.new hc8).cell (j := 1) rfl⟩ (fun hS => ?_)
  clear hK K
  refine wpAnyH_ready (rs := [3]) (by kernel_rfl) (by simp) ?_; refine AllReadyH.cons rfl (fun K hK => ?_) AllReadyH.nil; go_simp
  refine (implLookup L room _ f _ (HO6.out.new hc8) HF.out hff).mono ?_; rw [← HD.out]; rintro x w9 ⟨rfl, hb9⟩
  have hc9 : Below w7.heap.size w7 w9 := bchain hc8 hb9
  clear hb9 hc8
  refine hK.out _ _ ⟨(HT.out.new hc9).cell (j := 0) rfl, (HT.out.new hc9).cell (j := 1) rfl, (HB.out.new hc9).cell (j := 0) rfl, (HB.out.new hc9).cell (j := 1) rfl⟩ (fun hS => ?_)
  clear hK K
  dsimp only
  refine wpAnyH_take (i := 4) (v := ?_) rfl (by kernel_rfl) (by kernel_rfl) (by kernel_rfl) (fun _ _ _ h => h) (Or.inl ⟨by rfl, ?_⟩) hS ?_; rotate_left; focus (intro w hw; clear hw; go_simp; try with_reducible rfl)
  refine wpAnyH_take (i := 5) (v := ?_) rfl (by kernel_rfl) (by kernel_rfl) (by kernel_rfl) (fun _ _ _ h => h) (Or.inl ⟨by rfl, ?_⟩) hS ?_; rotate_left; focus (intro w hw; clear hw; go_simp; try with_reducible rfl)
  refine wpAnyH_take (i := 6) (v := ?_) rfl (by kernel_rfl) (by kernel_rfl) (by kernel_rfl) (fun _ _ _ h => h) (Or.inl ⟨by rfl, ?_⟩) hS ?_; rotate_left; focus (intro w hw; clear hw; go_simp; try with_reducible rfl)
  refine wpAnyH_take (i := 7) (v := ?_) rfl (by kernel_rfl) (by kernel_rfl) (by kernel_rfl) (fun _ _ _ h => h) (Or.inl ⟨by rfl, ?_⟩) hS ?_; rotate_left; focus (intro w hw; clear hw; go_simp; try with_reducible rfl)
  refine wpAnyH_take (i := 8) (v := ?_) rfl (by kernel_rfl) (by kernel_rfl) (by kernel_rfl) (fun _ _ _ h => h) (Or.inl ⟨by rfl, ?_⟩) hS ?_; rotate_left; focus (intro w hw; clear hw; go_simp; try with_reducible rfl)
  refine wpAnyH_done (by kernel_rfl) ?_ _
  clear hS
  replace HA := hide (HA.out.new hc9)
  replace HB := hide (HB.out.new hc9)
  replace HT := hide (HT.out.new hc9)
  replace HO6 := hide (HO6.out.new hc9)
  replace HBW := hide (bchain HBW.out hc9)
  clear hc9
  have x0 := HA.out.cell (j := 0) rfl
  have x1 := HA.out.cell (j := 1) rfl
  have t0 := HT.out.cell (j := 0) rfl
  have t1 := HT.out.cell (j := 1) rfl
  have hlx := HA.out.lt
  have hlt := HT.out.lt
  have HBW9 := HBW.out
  go_wp2_with fail
  go_region_held3 (fun w' => w'.cell? ⟨w6.heap.size, 0, none⟩ = some (.int .i64 room) ∧ w'.cell? ⟨w6.heap.size, 1, none⟩ = some (.slice a6 L.length p6) ∧ w'.cell? ⟨w.heap.size, 0, none⟩ = some (.int .i64 room) ∧ w'.cell? ⟨w.heap.size, 1, none⟩ = some (.slice ad L.length cap)) (first | go_keep | (simp [*, go_sem]; done))
    (first
      | (go_at_call 29; refine (toTable1 L room _ _ (HR.out.new (bo_drewN _ HBW9)) hLl).mono ?_; rintro x wa ⟨va, rfl, hoa, hba⟩; obtain ⟨aa, pa, rfl, _⟩ := owns_form hoa; have HOa := hide (reads_of_owns hoa); clear hoa; have hza := hba.size; (try simp at hza); have k0 := fun o => hba.cell (p := ⟨w.heap.size, o, none⟩) (by first | (simp; done) | (simp; omega) | omega); have k1 := fun o => hba.cell (p := ⟨w6.heap.size, o, none⟩) (by first | (simp; done) | (simp; omega) | omega))
      | (go_at_call 30; refine (eqTable1 L room _ _ _ (HO6.out.new (bchain (bo_drewN _ (Below.refl _ _)) hba)) HOa.out).mono ?_; rintro x wb ⟨rfl, hbb⟩; have hzb := hbb.size; (try simp at hzb); have k2 := fun o => hbb.cell (p := ⟨w.heap.size, o, none⟩) (by first | (simp; done) | (simp; omega) | omega); have k3 := fun o => hbb.cell (p := ⟨w6.heap.size, o, none⟩) (by first | (simp; done) | (simp; omega) | omega)))
  go_wp2_with fail
  go_ret
  exact ⟨rfl, bchain (bchain (bo_drewN _ HBW9) hba) hbb⟩


theorem own : ownKnob Try.prog.godebug = none := by kernel_rfl
theorem laidOut : laidOutB Try.prog = true := by kernel_rfl

set_option maxRecDepth 100000 in
theorem lifted (os : Os) (started : os.Started) (H : Type) (enc : TypeId × Value → H) :
    ReturnsInHanded {} Try.checked os 8 .any (Rows.fnExactLookupSpec.pre6 enc Try.prog Try.f8 Rows.fnExactLookupRow.domain false) (Rows.fnExactLookupSpec.post enc Try.prog Try.f8 false true false false) := by
  refine returnsInHanded_of_change (C := Try.checked) own started (by kernel_rfl) Try.func8
    (ChangeSpec.witness6 (enc := enc) (C := Try.checked) false ⟨#[], #[.agg #[.int .i64 0, .slice none 0 0], .agg #[.string ⟨#[]⟩, .string ⟨#[]⟩]], []⟩ 8 (by kernel_rfl) (by kernel_rfl) (by kernel_rfl) (by kernel_rfl)) ?_
  intro W base args ds gs before hval0 hW hcnd _
  have hval : ∀ (j : Nat) t v, Try.f8.params[j]? = some t → args[j]? = some v → Value.okWide Try.prog W .any base t v := hval0
  have hW' := hW
  obtain ⟨p, q, hA0, hV, rfl, hfz, hnd⟩ := hW
  have hA : DataW.TrodAll enc Try.prog W 0 (fun _ => true) true Try.f8.params.toList args.toList ds p := hA0
  rw [Try.params8] at hA hval
  obtain ⟨v0, vs0, d0, ds0, p0, q0, hargs, rfl, rfl, h0, r0⟩ := trodAll_cons hA
  obtain ⟨v1, vs1, d1, ds1, p1, q1, rfl, rfl, rfl, h1, r1⟩ := trodAll_cons r0
  obtain ⟨rfl, rfl, rfl⟩ := trodAll_nil r1
  obtain rfl : args = #[v0, v1] := by cases args; simp_all
  obtain ⟨rfl, rfl⟩ := trodVars_none hV
  have k0 := h0
  have lt0 : ∀ x ∈ p0, x.block < W.heap.size := by obtain ⟨m, hm⟩ := k0; exact DataW.trod_lt m _ _ _ hm
  have k1 := h1
  have lt1 : ∀ x ∈ p1, x.block < W.heap.size := by obtain ⟨m, hm⟩ := k1; exact DataW.trod_lt m _ _ _ hm
  obtain ⟨room, rv, L, rfl, hL, hfL⟩ := open_Table (hval 0 46 v0 rfl rfl) h0
  obtain ⟨f, rfl, hff⟩ := open_Field (hval 1 50 v1 rfl rfl) h1
  clear hA0 hval0
  refine (walk L room rv f W hL hfL hff).mono fun e W' ⟨he, bel⟩ => ?_
  subst he
  exact ⟨_, rfl, _, _, _, [], _, [], hW', trodAll_mk1 (shut_bool Try.underlying4 _), (trodAll_cons_mk (Below.trod laidOut (by kernel_rfl) (of_decide_eq_true (by kernel_rfl)) k0 bel lt0) (trodAll_cons_mk (Below.trod laidOut (by kernel_rfl) (of_decide_eq_true (by kernel_rfl)) k1 bel lt1) trodAll_mk0)), rfl, bel.frame _, fun h => by cases h⟩

theorem over : Rows.fnExactLookupRow.holds Try.pinned (OpenSpec.ofChange Rows.fnExactLookupSpec) :=
  OpenClaim.holds_of_wide 8 Try.f8 rfl rfl rfl rfl rfl rfl rfl ⟨rfl, rfl, rfl, rfl, rfl⟩ rfl rfl rfl rfl rfl (by kernel_rfl) Try.func8 (by kernel_rfl)
    (of_decide_eq_true (by kernel_rfl)) (by unfold Func.isWrapper; first | (rw [if_pos (by decide +kernel)]; kernel_rfl) | (rw [if_neg (by decide +kernel)]; exact ⟨rfl, rfl⟩))
    (fun os started H enc _ => lifted os started H enc)

end exactLookup

theorem exactLookup_proved : Rows.FnExactLookupSaid := exactLookup.over
#print axioms exactLookup_proved
end Go.Proofs.Ythjbmmppckgcjaa
