/- The law FnExactMemoryOk returns true at every argument and leaves it as it was: impl.MemoryOk answers as its model. No condition. -/
import Derived.Test.YtdplpkobpoiioaaCellsOk2
import Derived.Test.YtdplpkobpoiioaaOpenMem
import Derived.WalkKit
import Derived.ProofKit
import Derived.OpenShut
import Derived.ChangeOld
import Derived.Below
import Derived.Lib.SmallJoins
import Derived.Deep.RegionHeld3


namespace Go.Proofs.Ytdplpkobpoiioaa
open Go.RowKit
namespace exactMemoryOk
open Go.ChangeShapes Go.WideShapes Go.ChangeAt Go.RowKit Go.Joins
set_option linter.unusedVariables false
set_option linter.unusedSimpArgs false

set_option maxHeartbeats 1000000 in
theorem implOkM (cv tv0 : Value) (cells : List Int) (T : List Th) (w : World) (hr : ReadM w ⟨cv, cells, tv0, T⟩) : Calls Try.prog 23 #[.agg #[cv, tv0]] w fun x w' => x = .returned (.bool (okM ⟨cells, T.map Th.d⟩)) ∧ Below w.heap.size w w' := by
  obtain ⟨ad, cap, hcv, _⟩ := hr.cel.2
  obtain ⟨ad', cap', htv, _⟩ := hr.ths.row.2
  have HR := hide hr
  clear hr
  simp only at hcv htv HR ⊢
  subst hcv htv
  go_enter Try.func23, Try.ntmps23
  go_wp2_with fail
  refine (implRight _ _ cells T _ (HR.out.cel.alloc _) (HR.out.ths.new ((by repeat' (first | (with_reducible exact Below.refl _ _) | (with_reducible refine Below.drew ?_) | (with_reducible refine bo_drewN _ ?_) | (with_reducible refine bo_alloc ?_ _) | (refine bchain ?_ (by with_reducible assumption)) | (with_reducible refine Below.setCell ?_ ?_ _) | go_size))))).mono ?_; rintro x w1 ⟨rfl, hb1⟩
  go_wp2_with fail
  go_ret
  exact ⟨rfl, (by repeat' (first | (with_reducible exact Below.refl _ _) | (with_reducible refine Below.drew ?_) | (with_reducible refine bo_drewN _ ?_) | (with_reducible refine bo_alloc ?_ _) | (refine bchain ?_ (by with_reducible assumption)) | (with_reducible refine Below.setCell ?_ ?_ _) | go_size))⟩

set_option maxHeartbeats 2000000 in
theorem walk (m : Mm) (w : World) (hr : ReadM w m) :
    Calls Try.prog 4 #[.agg #[m.cv, m.tv]] w fun x w' => x = .returned (.bool true) ∧ Below w.heap.size w w' := by
  obtain ⟨cv, cells, tv0, T⟩ := m
  obtain ⟨ad, cap, hcv, _⟩ := hr.cel.2
  obtain ⟨ad', cap', htv, _⟩ := hr.ths.row.2
  simp only at hcv htv hr ⊢
  subst hcv htv
  have HR := hide hr
  clear hr
  go_enter Try.func4, Try.ntmps4
  go_wp2_with fail
  refine (szMem ⟨_, cells, _, T⟩ _ _ (HR.out.new ((by repeat' (first | (with_reducible exact Below.refl _ _) | (with_reducible refine Below.drew ?_) | (with_reducible refine bo_drewN _ ?_) | (with_reducible refine bo_alloc ?_ _) | (refine bchain ?_ (by with_reducible assumption)) | (with_reducible refine Below.setCell ?_ ?_ _) | go_size)))) (by omega) (by omega)).mono ?_
  rintro x w1 ⟨rfl | ⟨rfl, hp⟩, hb1⟩
  · go_wp2_with fail
    go_ret
    exact ⟨rfl, (by repeat' (first | (with_reducible exact Below.refl _ _) | (with_reducible refine Below.drew ?_) | (with_reducible refine bo_drewN _ ?_) | (with_reducible refine bo_alloc ?_ _) | (refine bchain ?_ (by with_reducible assumption)) | (with_reducible refine Below.setCell ?_ ?_ _) | go_size))⟩
  have hz1 := hb1.size; (try simp at hz1); have hc1 := fun o => hb1.cell (p := ⟨w.heap.size, o, none⟩) (by first | (simp; done) | (simp; omega) | omega); have hf1 := fun o => hb1.frozen (p := ⟨w.heap.size, o, none⟩) (by first | (simp; done) | (simp; omega) | omega)
  have hs : szM ⟨.slice ad cells.length cap, cells, .slice ad' T.length cap', T⟩ ≤ 1048576 := by omega
  generalize hg : szM ⟨.slice ad cells.length cap, cells, .slice ad' T.length cap', T⟩ = sz at *
  have HS := hide hg
  clear hg
  go_wp2_with fail
  refine (toMem ⟨_, cells, _, T⟩ _ (HR.out.new ((by repeat' (first | (with_reducible exact Below.refl _ _) | (with_reducible refine Below.drew ?_) | (with_reducible refine bo_drewN _ ?_) | (with_reducible refine bo_alloc ?_ _) | (refine bchain ?_ (by with_reducible assumption)) | (with_reducible refine Below.setCell ?_ ?_ _) | go_size)))) (by rw [HS.out]; exact hs)).mono ?_
  rintro x w2 ⟨⟨cv2, C2, tv2, T2⟩, rfl, hd2, ho2, hb2⟩
  obtain ⟨a2, p2, e2, _⟩ := owns_form ho2.cel; obtain ⟨b2, q2, f2, _⟩ := owns_form ho2.ths.row; simp only at e2 f2; subst e2 f2; have HO2 := hide ho2; have HD2 := hide hd2; clear ho2 hd2; have hz2 := hb2.size; (try simp at hz2); have hc2 := fun o => hb2.cell (p := ⟨w.heap.size, o, none⟩) (by first | (simp; done) | (simp; omega) | omega); have hf2 := fun o => hb2.frozen (p := ⟨w.heap.size, o, none⟩) (by first | (simp; done) | (simp; omega) | omega)
  have HE2 : Hid (okM ⟨C2, T2.map Th.d⟩ = okM ⟨cells, T.map Th.d⟩) := congrArg okM HD2.out
  go_wp2_with fail
  refine (specOkM _ _ C2 T2 _ (HO2.out.read.cel) HO2.out.read.ths).mono ?_; rw [HE2.out]; rintro x w3 ⟨rfl, hb3⟩
  have hz3 := hb3.size; (try simp at hz3); have hs3 : w.heap.size < w3.heap.size := (by omega); have hc3 := fun o => hb3.cell (p := ⟨w.heap.size, o, none⟩) (by first | (simp; done) | (simp; omega) | omega); have hf3 := fun o => hb3.frozen (p := ⟨w.heap.size, o, none⟩) (by first | (simp; done) | (simp; omega) | omega)
  go_wp2_with fail
  refine (toMem ⟨_, cells, _, T⟩ _ (HR.out.new ((by repeat' (first | (with_reducible exact Below.refl _ _) | (with_reducible refine Below.drew ?_) | (with_reducible refine bo_drewN _ ?_) | (with_reducible refine bo_alloc ?_ _) | (refine bchain ?_ (by with_reducible assumption)) | (with_reducible refine Below.setCell ?_ ?_ _) | go_size)))) (by rw [HS.out]; exact hs)).mono ?_
  rintro x w4 ⟨⟨cv4, C4, tv4, T4⟩, rfl, hd4, ho4, hb4⟩
  obtain ⟨a4, p4, e4, _⟩ := owns_form ho4.cel; obtain ⟨b4, q4, f4, _⟩ := owns_form ho4.ths.row; simp only at e4 f4; subst e4 f4; have HO4 := hide ho4; have HD4 := hide hd4; clear ho4 hd4; have hz4 := hb4.size; (try simp at hz4); have hs4 : w.heap.size < w4.heap.size := (by omega); have hc4 := fun o => hb4.cell (p := ⟨w.heap.size, o, none⟩) (by first | (simp; done) | (simp; omega) | omega); have hf4 := fun o => hb4.frozen (p := ⟨w.heap.size, o, none⟩) (by first | (simp; done) | (simp; omega) | omega)
  have HE4 : Hid (okM ⟨C4, T4.map Th.d⟩ = okM ⟨cells, T.map Th.d⟩) := congrArg okM HD4.out
  go_wp2_with fail
  refine (implOkM _ _ C4 T4 _ (HO4.out.read.new ((by repeat' (first | (with_reducible exact Below.refl _ _) | (with_reducible refine Below.drew ?_) | (with_reducible refine bo_drewN _ ?_) | (with_reducible refine bo_alloc ?_ _) | (refine bchain ?_ (by with_reducible assumption)) | (with_reducible refine Below.setCell ?_ ?_ _) | go_size))))).mono ?_; rw [HE4.out]; rintro x w5 ⟨rfl, hb5⟩
  have hz5 := hb5.size; (try simp at hz5); have hs5 : w.heap.size < w5.heap.size := (by omega); have hsn5 : w4.heap.size < w5.heap.size := (by omega); have hc5 := fun o => hb5.cell (p := ⟨w.heap.size, o, none⟩) (by first | (simp; done) | (simp; omega) | omega); have hf5 := fun o => hb5.frozen (p := ⟨w.heap.size, o, none⟩) (by first | (simp; done) | (simp; omega) | omega); have hcn5 := fun o => hb5.cell (p := ⟨w4.heap.size, o, none⟩) (by first | (simp; done) | (simp; omega) | omega); have hfn5 := fun o => hb5.frozen (p := ⟨w4.heap.size, o, none⟩) (by first | (simp; done) | (simp; omega) | omega)
  generalize okM ⟨cells, T.map Th.d⟩ = ok at *
  go_wp2_with fail
  obtain ⟨hxa, hya, hza⟩ := box2 (show Below (World.alloc w (.cells #[.slice ad cells.length cap, .slice ad' T.length cap'] 47)).heap.size (World.alloc w (.cells #[.slice ad cells.length cap, .slice ad' T.length cap'] 47)) w5 from (by repeat' (first | (with_reducible exact Below.refl _ _) | (with_reducible refine Below.drew ?_) | (with_reducible refine bo_drewN _ ?_) | (with_reducible refine bo_alloc ?_ _) | (refine bchain ?_ (by with_reducible assumption)) | (with_reducible refine Below.setCell ?_ ?_ _) | go_size)))
  obtain ⟨hxb, hyb, hzb⟩ := box2 (show Below (World.alloc w4 (.cells #[.slice a4 C4.length p4, .slice b4 T4.length q4] 27)).heap.size (World.alloc w4 (.cells #[.slice a4 C4.length p4, .slice b4 T4.length q4] 27)) w5 from (by repeat' (first | (with_reducible exact Below.refl _ _) | (with_reducible refine Below.drew ?_) | (with_reducible refine bo_drewN _ ?_) | (with_reducible refine bo_alloc ?_ _) | (refine bchain ?_ (by with_reducible assumption)) | (with_reducible refine Below.setCell ?_ ?_ _) | go_size)))
  have k0 : w5.cell? ⟨w4.heap.size, 0, none⟩ = some (.slice a4 C4.length p4) := hxb 0
  have k1 : w5.cell? ⟨w4.heap.size, 1, none⟩ = some (.slice b4 T4.length q4) := hxb 1
  have j0 : w5.cell? ⟨w.heap.size, 0, none⟩ = some (.slice ad cells.length cap) := hxa 0
  have j1 : w5.cell? ⟨w.heap.size, 1, none⟩ = some (.slice ad' T.length cap') := hxa 1
  clear hxa hya hza hxb hyb hzb
  have HO4' := hide (HO4.out.new (show Below w4.heap.size w4 w5 from (by repeat' (first | (with_reducible exact Below.refl _ _) | (with_reducible refine Below.drew ?_) | (with_reducible refine bo_drewN _ ?_) | (with_reducible refine bo_alloc ?_ _) | (refine bchain ?_ (by with_reducible assumption)) | (with_reducible refine Below.setCell ?_ ?_ _) | go_size))))
  have hbw5 : Below w.heap.size w w5 := (by repeat' (first | (with_reducible exact Below.refl _ _) | (with_reducible refine Below.drew ?_) | (with_reducible refine bo_drewN _ ?_) | (with_reducible refine bo_alloc ?_ _) | (refine bchain ?_ (by with_reducible assumption)) | (with_reducible refine Below.setCell ?_ ?_ _) | go_size))
  clear hc1 hf1 hc2 hf2 hc3 hf3 hc4 hf4 hc5 hf5 hcn5 hfn5 hb1 hb2 hb3 hb4 hb5
  go_region_held3 (fun w' => w'.cell? ⟨w4.heap.size, 0, none⟩ = some (.slice a4 C4.length p4) ∧ w'.cell? ⟨w4.heap.size, 1, none⟩ = some (.slice b4 T4.length q4) ∧ w'.cell? ⟨w.heap.size, 0, none⟩ = some (.slice ad cells.length cap) ∧ w'.cell? ⟨w.heap.size, 1, none⟩ = some (.slice ad' T.length cap')) (simp [*, go_sem])
    (first
      | (go_at_call 27; refine (toMem ⟨_, cells, _, T⟩ _ (HR.out.new (bo_drewN _ hbw5)) (by rw [HS.out]; exact hs)).mono ?_; rintro x w6 ⟨⟨cv6, C6, tv6, T6⟩, rfl, hd6, ho6, hb6⟩; obtain ⟨a6, p6, e6, _⟩ := owns_form ho6.cel; obtain ⟨b6, q6, f6, _⟩ := owns_form ho6.ths.row; simp only at e6 f6; subst e6 f6; have HO6 := hide ho6; have HD6 := hide hd6; clear ho6 hd6; have hz6 := hb6.size; (try simp at hz6); have hc6 := fun o => hb6.cell (p := ⟨w.heap.size, o, none⟩) (by first | (simp; done) | (simp; omega) | omega); have hf6 := fun o => hb6.frozen (p := ⟨w.heap.size, o, none⟩) (by first | (simp; done) | (simp; omega) | omega); have hcn6 := fun o => hb6.cell (p := ⟨w4.heap.size, o, none⟩) (by first | (simp; done) | (simp; omega) | omega); have hfn6 := fun o => hb6.frozen (p := ⟨w4.heap.size, o, none⟩) (by first | (simp; done) | (simp; omega) | omega))
      | (go_at_call 28; refine (eqMem ⟨_, C4, _, T4⟩ ⟨_, C6, _, T6⟩ _ (HO4'.out.read.new (bchain (bo_drewN _ (Below.refl _ _)) hb6)) HO6.out.read (HD6.out.trans HD4.out.symm)).mono ?_; rintro x w7 ⟨rfl, hb7⟩; have hz7 := hb7.size; (try simp at hz7); have hc7 := fun o => hb7.cell (p := ⟨w.heap.size, o, none⟩) (by first | (simp; done) | (simp; omega) | omega); have hf7 := fun o => hb7.frozen (p := ⟨w.heap.size, o, none⟩) (by first | (simp; done) | (simp; omega) | omega); have hcn7 := fun o => hb7.cell (p := ⟨w4.heap.size, o, none⟩) (by first | (simp; done) | (simp; omega) | omega); have hfn7 := fun o => hb7.frozen (p := ⟨w4.heap.size, o, none⟩) (by first | (simp; done) | (simp; omega) | omega)))
  go_wp2_with fail
  go_ret
  exact ⟨rfl, (by repeat' (first | (with_reducible exact Below.refl _ _) | (with_reducible refine Below.drew ?_) | (with_reducible refine bo_drewN _ ?_) | (with_reducible refine bo_alloc ?_ _) | (refine bchain ?_ (by with_reducible assumption)) | (with_reducible refine Below.setCell ?_ ?_ _) | go_size))⟩


theorem own : ownKnob Try.prog.godebug = none := by kernel_rfl
theorem laidOut : laidOutB Try.prog = true := by kernel_rfl

set_option maxRecDepth 100000 in
theorem lifted (os : Os) (started : os.Started) (H : Type) (enc : TypeId × Value → H) :
    ReturnsInHanded {} Try.checked os 4 .any (Rows.fnExactMemoryOkSpec.pre6 enc Try.prog Try.f4 Rows.fnExactMemoryOkRow.domain false) (Rows.fnExactMemoryOkSpec.post enc Try.prog Try.f4 false true false false) := by
  refine returnsInHanded_of_change (C := Try.checked) own started (by kernel_rfl) Try.func4
    (ChangeSpec.witness6 (enc := enc) (C := Try.checked) false ⟨#[], #[.agg #[.slice none 0 0, .slice none 0 0]], []⟩ 8 (by kernel_rfl) (by kernel_rfl) (by kernel_rfl) (by kernel_rfl)) ?_
  intro W base args ds gs before hval0 hW hcnd _
  have hval : ∀ (j : Nat) t v, Try.f4.params[j]? = some t → args[j]? = some v → Value.okWide Try.prog W .any base t v := hval0
  have hW' := hW
  obtain ⟨p, q, hA0, hV, rfl, hfz, hnd⟩ := hW
  have hA : DataW.TrodAll enc Try.prog W 0 (fun _ => true) true Try.f4.params.toList args.toList ds p := hA0
  rw [Try.params4] at hA hval
  obtain ⟨v0, vs0, d0, ds0, p0, q0, hargs, rfl, rfl, h0, r0⟩ := trodAll_cons hA
  obtain ⟨rfl, rfl, rfl⟩ := trodAll_nil r0
  obtain rfl : args = #[v0] := by cases args; simp_all
  obtain ⟨rfl, rfl⟩ := trodVars_none hV
  have k0 := h0
  have lt0 : ∀ x ∈ p0, x.block < W.heap.size := by obtain ⟨m, hm⟩ := k0; exact DataW.trod_lt m _ _ _ hm
  obtain ⟨m, rfl, hrm⟩ := open_Memory (hval 0 47 v0 rfl rfl) h0
  clear hA0 hval0
  refine (walk m W hrm).mono fun e W' ⟨he, bel⟩ => ?_
  subst he
  exact ⟨_, rfl, _, _, _, [], _, [], hW', trodAll_mk1 (shut_bool Try.underlying4 _), (trodAll_cons_mk (Below.trod laidOut (by kernel_rfl) (of_decide_eq_true (by kernel_rfl)) k0 bel lt0) trodAll_mk0), rfl, bel.frame _, fun h => by cases h⟩

theorem over : Rows.fnExactMemoryOkRow.holds Try.pinned (OpenSpec.ofChange Rows.fnExactMemoryOkSpec) :=
  OpenClaim.holds_of_wide 4 Try.f4 rfl rfl rfl rfl rfl rfl rfl ⟨rfl, rfl, rfl, rfl, rfl⟩ rfl rfl rfl rfl rfl (by kernel_rfl) Try.func4 (by kernel_rfl)
    (of_decide_eq_true (by kernel_rfl)) (by unfold Func.isWrapper; first | (rw [if_pos (by decide +kernel)]; kernel_rfl) | (rw [if_neg (by decide +kernel)]; exact ⟨rfl, rfl⟩))
    (fun os started H enc _ => lifted os started H enc)

end exactMemoryOk

theorem exactMemoryOk_proved : Rows.FnExactMemoryOkSaid := exactMemoryOk.over
#print axioms exactMemoryOk_proved
end Go.Proofs.Ytdplpkobpoiioaa
