/- The law FnExactPlayed returns true at every argument and leaves it as it was: impl.Played answers as its model, writes into no argument, and its answer owns its memory. No condition. -/
import Derived.Test.YtblbgnfnikcolaaSpecPicked
import Derived.Test.YtblbgnfnikcolaaOpenMem
import Derived.WalkKit
import Derived.ProofKit
import Derived.OpenShut
import Derived.ChangeOld
import Derived.Below
import Derived.Lib.SmallJoins
import Derived.Deep.RegionHeld3


namespace Go.Proofs.Ytblbgnfnikcolaa
open Go.RowKit
namespace exactPlayed
open Go.ChangeShapes Go.WideShapes Go.ChangeAt Go.RowKit Go.Joins
set_option linter.unusedVariables false
set_option linter.unusedSimpArgs false

theorem okM_sz {m : Mm} (h : okM m.d = true) : szM m ≤ 1048576 := by
  obtain ⟨h1, h2, _, h4⟩ := okM_parts (C := m.cells) (T := m.ths.map Th.d) h
  have hb : ∀ A : List Th, (∀ d ∈ A.map Th.d, okTh d = true) → szT A ≤ A.length * 20 := fun A => by
    induction A with
    | nil => intro _; simp [szT]
    | cons a A ih =>
      intro hA
      have h5 := (okTh_rng (hA a.d (by simp))).2.2.2.2.2.2.1
      have h6 := ih fun d hd => hA d (by simp at hd ⊢; exact .inr hd)
      have h7 : (a.st.length : Int) ≤ 20 := h5
      simp only [szT, List.length_cons]; omega
  have h3 := hb m.ths h4
  simp only [List.length_map] at h2
  unfold szM; omega
theorem zero_sz {m : Mm} (h : m.d = ⟨[], []⟩) : szM m ≤ 1048576 := by
  obtain ⟨h1, h2⟩ := d_eq (m := zM) (m' := m) h
  simp only [zM, List.map_nil, List.map_eq_nil_iff] at h1 h2
  unfold szM; rw [h1, h2]; simp [szT]
theorem playedD_sz {m : Mm} {D : DMem} {L : List Int} (h : m.d = playedD D L) : szM m ≤ 1048576 := by
  unfold playedD at h
  split at h
  · rename_i h1
    simp only [Bool.and_eq_true] at h1
    exact okM_sz (by rw [h]; exact foldD_ok h1.1 L)
  · exact zero_sz h
set_option maxHeartbeats 8000000 in
theorem walk (m : Mm) (pv : Value) (L : List Int) (w : World) (hr : ReadM w m) (hp : Reads w pv L.length 1 (iv L)) :
    Calls Try.prog 6 #[.agg #[m.cv, m.tv], pv] w fun x w' => x = .returned (.bool true) ∧ Below w.heap.size w w' := by
  obtain ⟨cv, cells, tv0, T⟩ := m
  obtain ⟨ad, cap, hcv, _⟩ := hr.cel.2
  obtain ⟨ad', cap', htv, _⟩ := hr.ths.row.2
  simp only at hcv htv hr ⊢
  subst hcv htv
  obtain ⟨adp, capp, hpv, hp1, hp2, _⟩ := hp.2
  subst hpv
  have HP := hide hp
  unfold maxLen at hp2
  clear hp
  by_cases hbig : (1048576 : Int) < L.length
  · go_enter Try.func6, Try.ntmps6
    go_wp2_with fail
    go_ret
    exact ⟨rfl, (by repeat' (first | (with_reducible exact Below.refl _ _) | (with_reducible refine Below.drew ?_) | (with_reducible refine bo_drewN _ ?_) | (with_reducible refine bo_alloc ?_ _) | (refine bchain ?_ (by with_reducible assumption)) | (with_reducible refine Below.setCell ?_ ?_ _) | go_size))⟩
  have hLl : L.length ≤ 1048576 := by omega
  have HR := hide hr
  clear hr
  obtain ⟨r, hrr⟩ : ∃ r, r = playedD ⟨cells, T.map Th.d⟩ L := ⟨_, rfl⟩
  have HRR := hide hrr
  clear hrr
  have hBw : Below w.heap.size w w := Below.refl _ _
  go_enter Try.func6, Try.ntmps6
  go_wp2_with fail
  have hbV0 : Below w.heap.size w (w.alloc (.cells #[.slice ad cells.length cap, .slice ad' T.length cap'] 47)) := (Below.refl _ _).alloc (Nat.le_refl _) _
  have ca0 : (w.alloc (.cells #[.slice ad cells.length cap, .slice ad' T.length cap'] 47)).cell? ⟨w.heap.size, 0, none⟩ = some (.slice ad cells.length cap) := by simp
  have ca1 : (w.alloc (.cells #[.slice ad cells.length cap, .slice ad' T.length cap'] 47)).cell? ⟨w.heap.size, 1, none⟩ = some (.slice ad' T.length cap') := by simp
  have la : w.heap.size < (w.alloc (.cells #[.slice ad cells.length cap, .slice ad' T.length cap'] 47)).heap.size := by simp
  generalize w.alloc (.cells #[.slice ad cells.length cap, .slice ad' T.length cap'] 47) = V0 at *
  replace hBw := bchain hBw hbV0
  refine (szMem ⟨_, cells, _, T⟩ _ _ (HR.out.new hBw) (by omega) (by omega)).mono ?_
  rintro x w1 ⟨rfl | ⟨rfl, hp⟩, hb1⟩
  · go_wp2_with fail
    go_ret
    exact ⟨rfl, bchain hBw hb1⟩
  replace ca0 := (hb1.cell (p := ⟨w.heap.size, 0, none⟩) la).trans ca0
  replace ca1 := (hb1.cell (p := ⟨w.heap.size, 1, none⟩) la).trans ca1
  replace la : w.heap.size < w1.heap.size := Nat.lt_of_lt_of_le la hb1.size
  replace hBw := bchain hBw hb1
  have hs : szM ⟨.slice ad cells.length cap, cells, .slice ad' T.length cap', T⟩ ≤ 1048576 := by omega
  generalize hg : szM ⟨.slice ad cells.length cap, cells, .slice ad' T.length cap', T⟩ = sz at *
  have HS := hide hg
  clear hg
  go_wp2_with fail
  refine (toMem ⟨_, cells, _, T⟩ _ (HR.out.new hBw) (by rw [HS.out]; exact hs)).mono ?_
  rintro x w2 ⟨⟨cv2, C2, tv2, T2⟩, rfl, hd2, ho2, hb2⟩
  obtain ⟨a2, p2, e2, _⟩ := owns_form ho2.cel; obtain ⟨b2, q2, f2, _⟩ := owns_form ho2.ths.row; simp only at e2 f2; subst e2 f2; have HO2 := hide ho2; have HD2 := hide hd2; clear ho2 hd2
  have oa_2 : w.heap.size < w1.heap.size := la
  have ob_2 := hb2.size
  have ow_2 := hBw.size
  have hh2 : w2.heap.size ≤ w2.heap.size := Nat.le_refl _
  replace ca0 := (hb2.cell (p := ⟨w.heap.size, 0, none⟩) la).trans ca0
  replace ca1 := (hb2.cell (p := ⟨w.heap.size, 1, none⟩) la).trans ca1
  replace la : w.heap.size < w2.heap.size := Nat.lt_of_lt_of_le la hb2.size
  replace hBw := bchain hBw hb2
  have HE2 : Hid ((⟨C2, T2.map Th.d⟩ : DMem) = ⟨cells, T.map Th.d⟩) := HD2.out
  go_wp2_with fail
  refine (toInts L _ _ (HP.out.new hBw) (by omega)).mono ?_
  rintro x w20 ⟨v20, rfl, ho20, hb20⟩
  obtain ⟨a20, p20, rfl, _⟩ := owns_form ho20
  have HW20 := hide ho20; have hu20 := fun q hq => (ho20.lt q hq).2; clear ho20
  have oa_20 : w.heap.size < w2.heap.size := la
  have o2_20 := hh2
  have ob_20 := hb20.size
  have ow_20 := hBw.size
  have hh20 : w20.heap.size ≤ w20.heap.size := Nat.le_refl _
  replace ca0 := (hb20.cell (p := ⟨w.heap.size, 0, none⟩) la).trans ca0
  replace ca1 := (hb20.cell (p := ⟨w.heap.size, 1, none⟩) la).trans ca1
  replace la : w.heap.size < w20.heap.size := Nat.lt_of_lt_of_le la hb20.size
  replace HO2 := hide (HO2.out.new hb20)
  replace hh2 := Nat.le_trans hh2 hb20.size
  replace hBw := bchain hBw hb20
  go_wp2_with fail
  refine (specPlayed _ _ C2 T2 _ L _ HO2.out.read (reads_of_owns HW20.out)).mono ?_; rw [HE2.out, ← HRR.out]
  rintro x w3 ⟨⟨cv3, C3, tv3, T3⟩, rfl, hd3, ho3, hb3⟩
  obtain ⟨a3, p3, e3, _⟩ := owns_form ho3.cel; obtain ⟨b3, q3, f3, _⟩ := owns_form ho3.ths.row; simp only at e3 f3; subst e3 f3; have HO3 := hide ho3; have HD3 := hide hd3; clear ho3 hd3
  have oa_3 : w.heap.size < w20.heap.size := la
  have o2_3 := hh2
  have o20_3 := hh20
  have ob_3 := hb3.size
  have ow_3 := hBw.size
  have hh3 : w3.heap.size ≤ w3.heap.size := Nat.le_refl _
  replace ca0 := (hb3.cell (p := ⟨w.heap.size, 0, none⟩) la).trans ca0
  replace ca1 := (hb3.cell (p := ⟨w.heap.size, 1, none⟩) la).trans ca1
  replace la : w.heap.size < w3.heap.size := Nat.lt_of_lt_of_le la hb3.size
  replace HO2 := hide (HO2.out.new hb3)
  replace hh2 := Nat.le_trans hh2 hb3.size
  replace HW20 := hide (owns_new HW20.out hb3)
  replace hh20 := Nat.le_trans hh20 hb3.size
  replace hBw := bchain hBw hb3
  go_wp2_with fail
  have hbV3 : Below w3.heap.size w3 (w3.alloc (.cells #[.slice a3 C3.length p3, .slice b3 T3.length q3] 27)) := (Below.refl _ _).alloc (Nat.le_refl _) _
  have cx30 : (w3.alloc (.cells #[.slice a3 C3.length p3, .slice b3 T3.length q3] 27)).cell? ⟨w3.heap.size, 0, none⟩ = some (.slice a3 C3.length p3) := by simp
  have cx31 : (w3.alloc (.cells #[.slice a3 C3.length p3, .slice b3 T3.length q3] 27)).cell? ⟨w3.heap.size, 1, none⟩ = some (.slice b3 T3.length q3) := by simp
  have lx3 : w3.heap.size < (w3.alloc (.cells #[.slice a3 C3.length p3, .slice b3 T3.length q3] 27)).heap.size := by simp
  generalize w3.alloc (.cells #[.slice a3 C3.length p3, .slice b3 T3.length q3] 27) = V3 at *
  replace ca0 := (hbV3.cell (p := ⟨w.heap.size, 0, none⟩) la).trans ca0
  replace ca1 := (hbV3.cell (p := ⟨w.heap.size, 1, none⟩) la).trans ca1
  replace la : w.heap.size < V3.heap.size := Nat.lt_of_lt_of_le la hbV3.size
  replace HO2 := hide (HO2.out.new hbV3)
  replace hh2 := Nat.le_trans hh2 hbV3.size
  replace HO3 := hide (HO3.out.new hbV3)
  replace hh3 := Nat.le_trans hh3 hbV3.size
  replace HW20 := hide (owns_new HW20.out hbV3)
  replace hh20 := Nat.le_trans hh20 hbV3.size
  replace hBw := bchain hBw hbV3
  go_wp2_with fail
  refine (toMem ⟨_, cells, _, T⟩ _ (HR.out.new hBw) (by rw [HS.out]; exact hs)).mono ?_
  rintro x w4 ⟨⟨cv4, C4, tv4, T4⟩, rfl, hd4, ho4, hb4⟩
  obtain ⟨a4, p4, e4, _⟩ := owns_form ho4.cel; obtain ⟨b4, q4, f4, _⟩ := owns_form ho4.ths.row; simp only at e4 f4; subst e4 f4; have HO4 := hide ho4; have HD4 := hide hd4; clear ho4 hd4
  have oa_4 : w.heap.size < V3.heap.size := la
  have ox3_4 : w3.heap.size < V3.heap.size := lx3
  have o2_4 := hh2
  have o3_4 := hh3
  have o20_4 := hh20
  have ob_4 := hb4.size
  have ow_4 := hBw.size
  have hh4 : w4.heap.size ≤ w4.heap.size := Nat.le_refl _
  replace ca0 := (hb4.cell (p := ⟨w.heap.size, 0, none⟩) la).trans ca0
  replace ca1 := (hb4.cell (p := ⟨w.heap.size, 1, none⟩) la).trans ca1
  replace la : w.heap.size < w4.heap.size := Nat.lt_of_lt_of_le la hb4.size
  replace cx30 := (hb4.cell (p := ⟨w3.heap.size, 0, none⟩) lx3).trans cx30
  replace cx31 := (hb4.cell (p := ⟨w3.heap.size, 1, none⟩) lx3).trans cx31
  replace lx3 : w3.heap.size < w4.heap.size := Nat.lt_of_lt_of_le lx3 hb4.size
  replace HO2 := hide (HO2.out.new hb4)
  replace hh2 := Nat.le_trans hh2 hb4.size
  replace HO3 := hide (HO3.out.new hb4)
  replace hh3 := Nat.le_trans hh3 hb4.size
  replace HW20 := hide (owns_new HW20.out hb4)
  replace hh20 := Nat.le_trans hh20 hb4.size
  replace hBw := bchain hBw hb4
  have HE4 : Hid ((⟨C4, T4.map Th.d⟩ : DMem) = ⟨cells, T.map Th.d⟩) := HD4.out
  go_wp2_with fail
  have hbV4 : Below w4.heap.size w4 (w4.alloc (.cells #[.slice a4 C4.length p4, .slice b4 T4.length q4] 27)) := (Below.refl _ _).alloc (Nat.le_refl _) _
  have cy0 : (w4.alloc (.cells #[.slice a4 C4.length p4, .slice b4 T4.length q4] 27)).cell? ⟨w4.heap.size, 0, none⟩ = some (.slice a4 C4.length p4) := by simp
  have cy1 : (w4.alloc (.cells #[.slice a4 C4.length p4, .slice b4 T4.length q4] 27)).cell? ⟨w4.heap.size, 1, none⟩ = some (.slice b4 T4.length q4) := by simp
  have ly : w4.heap.size < (w4.alloc (.cells #[.slice a4 C4.length p4, .slice b4 T4.length q4] 27)).heap.size := by simp
  generalize w4.alloc (.cells #[.slice a4 C4.length p4, .slice b4 T4.length q4] 27) = V4 at *
  replace ca0 := (hbV4.cell (p := ⟨w.heap.size, 0, none⟩) la).trans ca0
  replace ca1 := (hbV4.cell (p := ⟨w.heap.size, 1, none⟩) la).trans ca1
  replace la : w.heap.size < V4.heap.size := Nat.lt_of_lt_of_le la hbV4.size
  replace cx30 := (hbV4.cell (p := ⟨w3.heap.size, 0, none⟩) lx3).trans cx30
  replace cx31 := (hbV4.cell (p := ⟨w3.heap.size, 1, none⟩) lx3).trans cx31
  replace lx3 : w3.heap.size < V4.heap.size := Nat.lt_of_lt_of_le lx3 hbV4.size
  replace HO2 := hide (HO2.out.new hbV4)
  replace hh2 := Nat.le_trans hh2 hbV4.size
  replace HO3 := hide (HO3.out.new hbV4)
  replace hh3 := Nat.le_trans hh3 hbV4.size
  replace HO4 := hide (HO4.out.new hbV4)
  replace hh4 := Nat.le_trans hh4 hbV4.size
  replace HW20 := hide (owns_new HW20.out hbV4)
  replace hh20 := Nat.le_trans hh20 hbV4.size
  replace hBw := bchain hBw hbV4
  go_wp2_with fail
  refine (toInts L _ _ (HP.out.new hBw) (by omega)).mono ?_
  rintro x w40 ⟨v40, rfl, ho40, hb40⟩
  obtain ⟨a40, p40, rfl, _⟩ := owns_form ho40
  have HW40 := hide ho40; have hu40 := fun q hq => (ho40.lt q hq).2; clear ho40
  have oa_40 : w.heap.size < V4.heap.size := la
  have ox3_40 : w3.heap.size < V4.heap.size := lx3
  have oy_40 : w4.heap.size < V4.heap.size := ly
  have o2_40 := hh2
  have o3_40 := hh3
  have o4_40 := hh4
  have o20_40 := hh20
  have ob_40 := hb40.size
  have ow_40 := hBw.size
  have hh40 : w40.heap.size ≤ w40.heap.size := Nat.le_refl _
  replace ca0 := (hb40.cell (p := ⟨w.heap.size, 0, none⟩) la).trans ca0
  replace ca1 := (hb40.cell (p := ⟨w.heap.size, 1, none⟩) la).trans ca1
  replace la : w.heap.size < w40.heap.size := Nat.lt_of_lt_of_le la hb40.size
  replace cx30 := (hb40.cell (p := ⟨w3.heap.size, 0, none⟩) lx3).trans cx30
  replace cx31 := (hb40.cell (p := ⟨w3.heap.size, 1, none⟩) lx3).trans cx31
  replace lx3 : w3.heap.size < w40.heap.size := Nat.lt_of_lt_of_le lx3 hb40.size
  replace cy0 := (hb40.cell (p := ⟨w4.heap.size, 0, none⟩) ly).trans cy0
  replace cy1 := (hb40.cell (p := ⟨w4.heap.size, 1, none⟩) ly).trans cy1
  replace ly : w4.heap.size < w40.heap.size := Nat.lt_of_lt_of_le ly hb40.size
  replace HO2 := hide (HO2.out.new hb40)
  replace hh2 := Nat.le_trans hh2 hb40.size
  replace HO3 := hide (HO3.out.new hb40)
  replace hh3 := Nat.le_trans hh3 hb40.size
  replace HO4 := hide (HO4.out.new hb40)
  replace hh4 := Nat.le_trans hh4 hb40.size
  replace HW20 := hide (owns_new HW20.out hb40)
  replace hh20 := Nat.le_trans hh20 hb40.size
  replace hBw := bchain hBw hb40
  go_wp2_with fail
  refine (implPlayed _ _ C4 T4 _ L _ HO4.out.read (reads_of_owns HW40.out)).mono ?_; rw [HE4.out, ← HRR.out]
  rintro x w5 ⟨⟨cv5, C5, tv5, T5⟩, rfl, hd5, ho5, hb5⟩
  obtain ⟨a5, p5, e5, _⟩ := owns_form ho5.cel; obtain ⟨b5, q5, f5, _⟩ := owns_form ho5.ths.row; simp only at e5 f5; subst e5 f5; have HO5 := hide ho5; have HD5 := hide hd5; clear ho5 hd5
  have oa_5 : w.heap.size < w40.heap.size := la
  have ox3_5 : w3.heap.size < w40.heap.size := lx3
  have oy_5 : w4.heap.size < w40.heap.size := ly
  have o2_5 := hh2
  have o3_5 := hh3
  have o4_5 := hh4
  have o20_5 := hh20
  have o40_5 := hh40
  have ob_5 := hb5.size
  have ow_5 := hBw.size
  have hh5 : w5.heap.size ≤ w5.heap.size := Nat.le_refl _
  replace ca0 := (hb5.cell (p := ⟨w.heap.size, 0, none⟩) la).trans ca0
  replace ca1 := (hb5.cell (p := ⟨w.heap.size, 1, none⟩) la).trans ca1
  replace la : w.heap.size < w5.heap.size := Nat.lt_of_lt_of_le la hb5.size
  replace cx30 := (hb5.cell (p := ⟨w3.heap.size, 0, none⟩) lx3).trans cx30
  replace cx31 := (hb5.cell (p := ⟨w3.heap.size, 1, none⟩) lx3).trans cx31
  replace lx3 : w3.heap.size < w5.heap.size := Nat.lt_of_lt_of_le lx3 hb5.size
  replace cy0 := (hb5.cell (p := ⟨w4.heap.size, 0, none⟩) ly).trans cy0
  replace cy1 := (hb5.cell (p := ⟨w4.heap.size, 1, none⟩) ly).trans cy1
  replace ly : w4.heap.size < w5.heap.size := Nat.lt_of_lt_of_le ly hb5.size
  replace HO2 := hide (HO2.out.new hb5)
  replace hh2 := Nat.le_trans hh2 hb5.size
  replace HO3 := hide (HO3.out.new hb5)
  replace hh3 := Nat.le_trans hh3 hb5.size
  replace HO4 := hide (HO4.out.new hb5)
  replace hh4 := Nat.le_trans hh4 hb5.size
  replace HW20 := hide (owns_new HW20.out hb5)
  replace hh20 := Nat.le_trans hh20 hb5.size
  replace HW40 := hide (owns_new HW40.out hb5)
  replace hh40 := Nat.le_trans hh40 hb5.size
  replace hBw := bchain hBw hb5
  go_wp2_with fail
  have hbV5 : Below w5.heap.size w5 (w5.alloc (.cells #[.slice a5 C5.length p5, .slice b5 T5.length q5] 27)) := (Below.refl _ _).alloc (Nat.le_refl _) _
  have cx50 : (w5.alloc (.cells #[.slice a5 C5.length p5, .slice b5 T5.length q5] 27)).cell? ⟨w5.heap.size, 0, none⟩ = some (.slice a5 C5.length p5) := by simp
  have cx51 : (w5.alloc (.cells #[.slice a5 C5.length p5, .slice b5 T5.length q5] 27)).cell? ⟨w5.heap.size, 1, none⟩ = some (.slice b5 T5.length q5) := by simp
  have lx5 : w5.heap.size < (w5.alloc (.cells #[.slice a5 C5.length p5, .slice b5 T5.length q5] 27)).heap.size := by simp
  generalize w5.alloc (.cells #[.slice a5 C5.length p5, .slice b5 T5.length q5] 27) = V5 at *
  replace ca0 := (hbV5.cell (p := ⟨w.heap.size, 0, none⟩) la).trans ca0
  replace ca1 := (hbV5.cell (p := ⟨w.heap.size, 1, none⟩) la).trans ca1
  replace la : w.heap.size < V5.heap.size := Nat.lt_of_lt_of_le la hbV5.size
  replace cx30 := (hbV5.cell (p := ⟨w3.heap.size, 0, none⟩) lx3).trans cx30
  replace cx31 := (hbV5.cell (p := ⟨w3.heap.size, 1, none⟩) lx3).trans cx31
  replace lx3 : w3.heap.size < V5.heap.size := Nat.lt_of_lt_of_le lx3 hbV5.size
  replace cy0 := (hbV5.cell (p := ⟨w4.heap.size, 0, none⟩) ly).trans cy0
  replace cy1 := (hbV5.cell (p := ⟨w4.heap.size, 1, none⟩) ly).trans cy1
  replace ly : w4.heap.size < V5.heap.size := Nat.lt_of_lt_of_le ly hbV5.size
  replace HO2 := hide (HO2.out.new hbV5)
  replace hh2 := Nat.le_trans hh2 hbV5.size
  replace HO3 := hide (HO3.out.new hbV5)
  replace hh3 := Nat.le_trans hh3 hbV5.size
  replace HO4 := hide (HO4.out.new hbV5)
  replace hh4 := Nat.le_trans hh4 hbV5.size
  replace HO5 := hide (HO5.out.new hbV5)
  replace hh5 := Nat.le_trans hh5 hbV5.size
  replace HW20 := hide (owns_new HW20.out hbV5)
  replace hh20 := Nat.le_trans hh20 hbV5.size
  replace HW40 := hide (owns_new HW40.out hbV5)
  replace hh40 := Nat.le_trans hh40 hbV5.size
  replace hBw := bchain hBw hbV5
  have hz4 := szM_d (m := ⟨.slice ad cells.length cap, cells, .slice ad' T.length cap', T⟩) (m' := ⟨.slice a4 C4.length p4, C4, .slice b4 T4.length q4, T4⟩) HD4.out
  have hm4 := cntM_le ⟨.slice a4 C4.length p4, C4, .slice b4 T4.length q4, T4⟩ (by rw [hz4, HS.out]; exact hs)
  have hm5 := cntM_le ⟨.slice a5 C5.length p5, C5, .slice b5 T5.length q5, T5⟩ (playedD_sz (HD5.out.trans (by rw [HRR.out])))
  clear hz4
  generalize hc4 : cntM ⟨.slice a4 C4.length p4, C4, .slice b4 T4.length q4, T4⟩ = n4 at *
  generalize hc5 : cntM ⟨.slice a5 C5.length p5, C5, .slice b5 T5.length q5, T5⟩ = n5 at *
  have HC4 := hide hc4; have HC5 := hide hc5
  obtain ⟨hm40, hm41⟩ := hm4
  obtain ⟨hm50, hm51⟩ := hm5
  clear hc4 hc5
  refine (eqMem ⟨_, C5, _, T5⟩ ⟨_, C3, _, T3⟩ _ HO5.out.read HO3.out.read (HD3.out.trans HD5.out.symm)).mono ?_; rintro x w6 ⟨rfl, hb6⟩
  replace ca0 := (hb6.cell (p := ⟨w.heap.size, 0, none⟩) la).trans ca0
  replace ca1 := (hb6.cell (p := ⟨w.heap.size, 1, none⟩) la).trans ca1
  replace la : w.heap.size < w6.heap.size := Nat.lt_of_lt_of_le la hb6.size
  replace cx30 := (hb6.cell (p := ⟨w3.heap.size, 0, none⟩) lx3).trans cx30
  replace cx31 := (hb6.cell (p := ⟨w3.heap.size, 1, none⟩) lx3).trans cx31
  replace lx3 : w3.heap.size < w6.heap.size := Nat.lt_of_lt_of_le lx3 hb6.size
  replace cy0 := (hb6.cell (p := ⟨w4.heap.size, 0, none⟩) ly).trans cy0
  replace cy1 := (hb6.cell (p := ⟨w4.heap.size, 1, none⟩) ly).trans cy1
  replace ly : w4.heap.size < w6.heap.size := Nat.lt_of_lt_of_le ly hb6.size
  replace cx50 := (hb6.cell (p := ⟨w5.heap.size, 0, none⟩) lx5).trans cx50
  replace cx51 := (hb6.cell (p := ⟨w5.heap.size, 1, none⟩) lx5).trans cx51
  replace lx5 : w5.heap.size < w6.heap.size := Nat.lt_of_lt_of_le lx5 hb6.size
  replace HO2 := hide (HO2.out.new hb6)
  replace hh2 := Nat.le_trans hh2 hb6.size
  replace HO3 := hide (HO3.out.new hb6)
  replace hh3 := Nat.le_trans hh3 hb6.size
  replace HO4 := hide (HO4.out.new hb6)
  replace hh4 := Nat.le_trans hh4 hb6.size
  replace HO5 := hide (HO5.out.new hb6)
  replace hh5 := Nat.le_trans hh5 hb6.size
  replace HW20 := hide (owns_new HW20.out hb6)
  replace hh20 := Nat.le_trans hh20 hb6.size
  replace HW40 := hide (owns_new HW40.out hb6)
  replace hh40 := Nat.le_trans hh40 hb6.size
  replace hBw := bchain hBw hb6
  go_wp2_with fail
  go_region_held3 (fun w' => w'.cell? ⟨w4.heap.size, 0, none⟩ = some (.slice a4 C4.length p4) ∧ w'.cell? ⟨w4.heap.size, 1, none⟩ = some (.slice b4 T4.length q4) ∧ w'.cell? ⟨w.heap.size, 0, none⟩ = some (.slice ad cells.length cap) ∧ w'.cell? ⟨w.heap.size, 1, none⟩ = some (.slice ad' T.length cap')) (first | go_keep | (simp [*, go_sem]; done))
    (first
      | (go_at_call 27; refine (toMem ⟨_, cells, _, T⟩ _ (HR.out.new (bo_drewN _ hBw)) (by rw [HS.out]; exact hs)).mono ?_; rintro x w7 ⟨⟨cv7, C7, tv7, T7⟩, rfl, hd7, ho7, hb7⟩; obtain ⟨a7, p7, e7, _⟩ := owns_form ho7.cel; obtain ⟨b7, q7, f7, _⟩ := owns_form ho7.ths.row; simp only at e7 f7; subst e7 f7; have HO7 := hide ho7; have HD7 := hide hd7; clear ho7 hd7; have hz7 := hb7.size; (try simp at hz7); have k0 := fun o => hb7.cell (p := ⟨w.heap.size, o, none⟩) (by first | (simp; done) | (simp; omega) | omega); have k1 := fun o => hb7.cell (p := ⟨w4.heap.size, o, none⟩) (by first | (simp; done) | (simp; omega) | omega))
      | (go_at_call 28; refine (eqMem ⟨_, C4, _, T4⟩ ⟨_, C7, _, T7⟩ _ (HO4.out.read.new (bchain (bo_drewN _ (Below.refl _ _)) hb7)) HO7.out.read (HD7.out.trans HD4.out.symm)).mono ?_; rintro x w8 ⟨rfl, hb8⟩; have hz8 := hb8.size; (try simp at hz8); have k2 := fun o => hb8.cell (p := ⟨w.heap.size, o, none⟩) (by first | (simp; done) | (simp; omega) | omega); have k3 := fun o => hb8.cell (p := ⟨w4.heap.size, o, none⟩) (by first | (simp; done) | (simp; omega) | omega)))
  have hb68 : Below w6.heap.size w6 w8 := bchain (bchain (bo_drewN _ (Below.refl _ _)) hb7) hb8
  clear k0 k1 k2 k3 hb7 hb8
  replace ca0 := (hb68.cell (p := ⟨w.heap.size, 0, none⟩) la).trans ca0
  replace ca1 := (hb68.cell (p := ⟨w.heap.size, 1, none⟩) la).trans ca1
  replace la : w.heap.size < w8.heap.size := Nat.lt_of_lt_of_le la hb68.size
  replace cx30 := (hb68.cell (p := ⟨w3.heap.size, 0, none⟩) lx3).trans cx30
  replace cx31 := (hb68.cell (p := ⟨w3.heap.size, 1, none⟩) lx3).trans cx31
  replace lx3 : w3.heap.size < w8.heap.size := Nat.lt_of_lt_of_le lx3 hb68.size
  replace cy0 := (hb68.cell (p := ⟨w4.heap.size, 0, none⟩) ly).trans cy0
  replace cy1 := (hb68.cell (p := ⟨w4.heap.size, 1, none⟩) ly).trans cy1
  replace ly : w4.heap.size < w8.heap.size := Nat.lt_of_lt_of_le ly hb68.size
  replace cx50 := (hb68.cell (p := ⟨w5.heap.size, 0, none⟩) lx5).trans cx50
  replace cx51 := (hb68.cell (p := ⟨w5.heap.size, 1, none⟩) lx5).trans cx51
  replace lx5 : w5.heap.size < w8.heap.size := Nat.lt_of_lt_of_le lx5 hb68.size
  replace HO2 := hide (HO2.out.new hb68)
  replace hh2 := Nat.le_trans hh2 hb68.size
  replace HO3 := hide (HO3.out.new hb68)
  replace hh3 := Nat.le_trans hh3 hb68.size
  replace HO4 := hide (HO4.out.new hb68)
  replace hh4 := Nat.le_trans hh4 hb68.size
  replace HO5 := hide (HO5.out.new hb68)
  replace hh5 := Nat.le_trans hh5 hb68.size
  replace HW20 := hide (owns_new HW20.out hb68)
  replace hh20 := Nat.le_trans hh20 hb68.size
  replace HW40 := hide (owns_new HW40.out hb68)
  replace hh40 := Nat.le_trans hh40 hb68.size
  replace hBw := bchain hBw hb68
  go_wp2_with fail
  refine (toInts L _ _ (HP.out.new hBw) (by omega)).mono ?_
  rintro x w41 ⟨v41, rfl, ho41, hb41⟩
  obtain ⟨a41, p41, rfl, _⟩ := owns_form ho41
  have HW41 := hide ho41; have hu41 := fun q hq => (ho41.lt q hq).2; clear ho41
  have oa_41 : w.heap.size < w8.heap.size := la
  have ox3_41 : w3.heap.size < w8.heap.size := lx3
  have oy_41 : w4.heap.size < w8.heap.size := ly
  have ox5_41 : w5.heap.size < w8.heap.size := lx5
  have o2_41 := hh2
  have o3_41 := hh3
  have o4_41 := hh4
  have o5_41 := hh5
  have o20_41 := hh20
  have o40_41 := hh40
  have ob_41 := hb41.size
  have ow_41 := hBw.size
  have hh41 : w41.heap.size ≤ w41.heap.size := Nat.le_refl _
  replace ca0 := (hb41.cell (p := ⟨w.heap.size, 0, none⟩) la).trans ca0
  replace ca1 := (hb41.cell (p := ⟨w.heap.size, 1, none⟩) la).trans ca1
  replace la : w.heap.size < w41.heap.size := Nat.lt_of_lt_of_le la hb41.size
  replace cx30 := (hb41.cell (p := ⟨w3.heap.size, 0, none⟩) lx3).trans cx30
  replace cx31 := (hb41.cell (p := ⟨w3.heap.size, 1, none⟩) lx3).trans cx31
  replace lx3 : w3.heap.size < w41.heap.size := Nat.lt_of_lt_of_le lx3 hb41.size
  replace cy0 := (hb41.cell (p := ⟨w4.heap.size, 0, none⟩) ly).trans cy0
  replace cy1 := (hb41.cell (p := ⟨w4.heap.size, 1, none⟩) ly).trans cy1
  replace ly : w4.heap.size < w41.heap.size := Nat.lt_of_lt_of_le ly hb41.size
  replace cx50 := (hb41.cell (p := ⟨w5.heap.size, 0, none⟩) lx5).trans cx50
  replace cx51 := (hb41.cell (p := ⟨w5.heap.size, 1, none⟩) lx5).trans cx51
  replace lx5 : w5.heap.size < w41.heap.size := Nat.lt_of_lt_of_le lx5 hb41.size
  replace HO2 := hide (HO2.out.new hb41)
  replace hh2 := Nat.le_trans hh2 hb41.size
  replace HO3 := hide (HO3.out.new hb41)
  replace hh3 := Nat.le_trans hh3 hb41.size
  replace HO4 := hide (HO4.out.new hb41)
  replace hh4 := Nat.le_trans hh4 hb41.size
  replace HO5 := hide (HO5.out.new hb41)
  replace hh5 := Nat.le_trans hh5 hb41.size
  replace HW20 := hide (owns_new HW20.out hb41)
  replace hh20 := Nat.le_trans hh20 hb41.size
  replace HW40 := hide (owns_new HW40.out hb41)
  replace hh40 := Nat.le_trans hh40 hb41.size
  replace hBw := bchain hBw hb41
  go_wp2_with fail
  refine (eqInts L _ _ _ (reads_of_owns HW40.out) (reads_of_owns HW41.out)).mono ?_; rintro x w42 ⟨rfl, hb42⟩
  replace ca0 := (hb42.cell (p := ⟨w.heap.size, 0, none⟩) la).trans ca0
  replace ca1 := (hb42.cell (p := ⟨w.heap.size, 1, none⟩) la).trans ca1
  replace la : w.heap.size < w42.heap.size := Nat.lt_of_lt_of_le la hb42.size
  replace cx30 := (hb42.cell (p := ⟨w3.heap.size, 0, none⟩) lx3).trans cx30
  replace cx31 := (hb42.cell (p := ⟨w3.heap.size, 1, none⟩) lx3).trans cx31
  replace lx3 : w3.heap.size < w42.heap.size := Nat.lt_of_lt_of_le lx3 hb42.size
  replace cy0 := (hb42.cell (p := ⟨w4.heap.size, 0, none⟩) ly).trans cy0
  replace cy1 := (hb42.cell (p := ⟨w4.heap.size, 1, none⟩) ly).trans cy1
  replace ly : w4.heap.size < w42.heap.size := Nat.lt_of_lt_of_le ly hb42.size
  replace cx50 := (hb42.cell (p := ⟨w5.heap.size, 0, none⟩) lx5).trans cx50
  replace cx51 := (hb42.cell (p := ⟨w5.heap.size, 1, none⟩) lx5).trans cx51
  replace lx5 : w5.heap.size < w42.heap.size := Nat.lt_of_lt_of_le lx5 hb42.size
  replace HO2 := hide (HO2.out.new hb42)
  replace hh2 := Nat.le_trans hh2 hb42.size
  replace HO3 := hide (HO3.out.new hb42)
  replace hh3 := Nat.le_trans hh3 hb42.size
  replace HO4 := hide (HO4.out.new hb42)
  replace hh4 := Nat.le_trans hh4 hb42.size
  replace HO5 := hide (HO5.out.new hb42)
  replace hh5 := Nat.le_trans hh5 hb42.size
  replace HW20 := hide (owns_new HW20.out hb42)
  replace hh20 := Nat.le_trans hh20 hb42.size
  replace HW40 := hide (owns_new HW40.out hb42)
  replace hh40 := Nat.le_trans hh40 hb42.size
  replace HW41 := hide (owns_new HW41.out hb42)
  replace hh41 := Nat.le_trans hh41 hb42.size
  replace hBw := bchain hBw hb42
  go_wp2_with fail
  refine (markMem ⟨_, C4, _, T4⟩ 1 V3.heap.size w4.heap.size _ HO4.out (by omega) (by rw [HC4.out]; omega) hh4).mono ?_; rw [HC4.out]; rintro x w9 ⟨rfl, hm9, ht9⟩
  clear hm9
  replace ca0 := (ht9.cell w.heap.size 0 la (by omega)).trans ca0
  replace ca1 := (ht9.cell w.heap.size 1 la (by omega)).trans ca1
  replace la : w.heap.size < w9.heap.size := Nat.lt_of_lt_of_le la ht9.size
  replace cx30 := (ht9.cell w3.heap.size 0 lx3 (by omega)).trans cx30
  replace cx31 := (ht9.cell w3.heap.size 1 lx3 (by omega)).trans cx31
  replace lx3 : w3.heap.size < w9.heap.size := Nat.lt_of_lt_of_le lx3 ht9.size
  replace cy0 := (ht9.cell w4.heap.size 0 ly (by omega)).trans cy0
  replace cy1 := (ht9.cell w4.heap.size 1 ly (by omega)).trans cy1
  replace ly : w4.heap.size < w9.heap.size := Nat.lt_of_lt_of_le ly ht9.size
  replace cx50 := (ht9.cell w5.heap.size 0 lx5 (by omega)).trans cx50
  replace cx51 := (ht9.cell w5.heap.size 1 lx5 (by omega)).trans cx51
  replace lx5 : w5.heap.size < w9.heap.size := Nat.lt_of_lt_of_le lx5 ht9.size
  replace HO2 := hide (HO2.out.far ht9 (by omega))
  replace hh2 := Nat.le_trans hh2 ht9.size
  replace HO3 := hide (HO3.out.far ht9 (by omega))
  replace hh3 := Nat.le_trans hh3 ht9.size
  replace HO5 := hide (HO5.out.far ht9 (by omega))
  replace hh5 := Nat.le_trans hh5 ht9.size
  replace HW20 := hide (owns_turn HW20.out ht9 fun q hq => by have h1 := (HW20.out.lt q hq).1; have h2 := hu20 q hq; omega)
  replace hh20 := Nat.le_trans hh20 ht9.size
  replace HW40 := hide (owns_turn HW40.out ht9 fun q hq => by have h1 := (HW40.out.lt q hq).1; have h2 := hu40 q hq; omega)
  replace hh40 := Nat.le_trans hh40 ht9.size
  replace HW41 := hide (owns_turn HW41.out ht9 fun q hq => by have h1 := (HW41.out.lt q hq).1; have h2 := hu41 q hq; omega)
  replace hh41 := Nat.le_trans hh41 ht9.size
  replace hBw := hBw.trans (ht9.below (by omega) hBw.size)
  go_wp2_with fail
  refine (markInts L.length (1 + n4) _ _ V4.heap.size _ HW40.out (by omega) (by omega)).mono ?_; rintro x w43 ⟨rfl, hm43, hg43⟩
  have ht43 : Turn V4.heap.size w40.heap.size w9 w43 := turn_grown (g := 0) hg43 fun q hq => ⟨(HW40.out.lt q hq).1, hu40 q hq⟩
  clear hm43 hg43
  replace ca0 := (ht43.cell w.heap.size 0 la (by omega)).trans ca0
  replace ca1 := (ht43.cell w.heap.size 1 la (by omega)).trans ca1
  replace la : w.heap.size < w43.heap.size := Nat.lt_of_lt_of_le la ht43.size
  replace cx30 := (ht43.cell w3.heap.size 0 lx3 (by omega)).trans cx30
  replace cx31 := (ht43.cell w3.heap.size 1 lx3 (by omega)).trans cx31
  replace lx3 : w3.heap.size < w43.heap.size := Nat.lt_of_lt_of_le lx3 ht43.size
  replace cy0 := (ht43.cell w4.heap.size 0 ly (by omega)).trans cy0
  replace cy1 := (ht43.cell w4.heap.size 1 ly (by omega)).trans cy1
  replace ly : w4.heap.size < w43.heap.size := Nat.lt_of_lt_of_le ly ht43.size
  replace cx50 := (ht43.cell w5.heap.size 0 lx5 (by omega)).trans cx50
  replace cx51 := (ht43.cell w5.heap.size 1 lx5 (by omega)).trans cx51
  replace lx5 : w5.heap.size < w43.heap.size := Nat.lt_of_lt_of_le lx5 ht43.size
  replace HO2 := hide (HO2.out.far ht43 (by omega))
  replace hh2 := Nat.le_trans hh2 ht43.size
  replace HO3 := hide (HO3.out.far ht43 (by omega))
  replace hh3 := Nat.le_trans hh3 ht43.size
  replace HO5 := hide (HO5.out.far ht43 (by omega))
  replace hh5 := Nat.le_trans hh5 ht43.size
  replace HW20 := hide (owns_turn HW20.out ht43 fun q hq => by have h1 := (HW20.out.lt q hq).1; have h2 := hu20 q hq; omega)
  replace hh20 := Nat.le_trans hh20 ht43.size
  replace HW41 := hide (owns_turn HW41.out ht43 fun q hq => by have h1 := (HW41.out.lt q hq).1; have h2 := hu41 q hq; omega)
  replace hh41 := Nat.le_trans hh41 ht43.size
  replace hBw := hBw.trans (ht43.below (by omega) hBw.size)
  go_wp2_with fail
  refine (eqMem ⟨_, C5, _, T5⟩ ⟨_, C3, _, T3⟩ _ HO5.out.read HO3.out.read (HD3.out.trans HD5.out.symm)).mono ?_; rintro x w10 ⟨rfl, hb10⟩
  replace ca0 := (hb10.cell (p := ⟨w.heap.size, 0, none⟩) la).trans ca0
  replace ca1 := (hb10.cell (p := ⟨w.heap.size, 1, none⟩) la).trans ca1
  replace la : w.heap.size < w10.heap.size := Nat.lt_of_lt_of_le la hb10.size
  replace cx30 := (hb10.cell (p := ⟨w3.heap.size, 0, none⟩) lx3).trans cx30
  replace cx31 := (hb10.cell (p := ⟨w3.heap.size, 1, none⟩) lx3).trans cx31
  replace lx3 : w3.heap.size < w10.heap.size := Nat.lt_of_lt_of_le lx3 hb10.size
  replace cy0 := (hb10.cell (p := ⟨w4.heap.size, 0, none⟩) ly).trans cy0
  replace cy1 := (hb10.cell (p := ⟨w4.heap.size, 1, none⟩) ly).trans cy1
  replace ly : w4.heap.size < w10.heap.size := Nat.lt_of_lt_of_le ly hb10.size
  replace cx50 := (hb10.cell (p := ⟨w5.heap.size, 0, none⟩) lx5).trans cx50
  replace cx51 := (hb10.cell (p := ⟨w5.heap.size, 1, none⟩) lx5).trans cx51
  replace lx5 : w5.heap.size < w10.heap.size := Nat.lt_of_lt_of_le lx5 hb10.size
  replace HO2 := hide (HO2.out.new hb10)
  replace hh2 := Nat.le_trans hh2 hb10.size
  replace HO3 := hide (HO3.out.new hb10)
  replace hh3 := Nat.le_trans hh3 hb10.size
  replace HO5 := hide (HO5.out.new hb10)
  replace hh5 := Nat.le_trans hh5 hb10.size
  replace HW20 := hide (owns_new HW20.out hb10)
  replace hh20 := Nat.le_trans hh20 hb10.size
  replace HW41 := hide (owns_new HW41.out hb10)
  replace hh41 := Nat.le_trans hh41 hb10.size
  replace hBw := bchain hBw hb10
  go_wp2_with fail
  refine (markMem ⟨_, C5, _, T5⟩ 1 w40.heap.size w5.heap.size _ HO5.out (by omega) (by rw [HC5.out]; omega) hh5).mono ?_; rw [HC5.out]; rintro x w11 ⟨rfl, hm11, ht11⟩
  have HH := hide hm11
  clear hm11
  replace ca0 := (ht11.cell w.heap.size 0 la (by omega)).trans ca0
  replace ca1 := (ht11.cell w.heap.size 1 la (by omega)).trans ca1
  replace la : w.heap.size < w11.heap.size := Nat.lt_of_lt_of_le la ht11.size
  replace cx30 := (ht11.cell w3.heap.size 0 lx3 (by omega)).trans cx30
  replace cx31 := (ht11.cell w3.heap.size 1 lx3 (by omega)).trans cx31
  replace lx3 : w3.heap.size < w11.heap.size := Nat.lt_of_lt_of_le lx3 ht11.size
  replace cy0 := (ht11.cell w4.heap.size 0 ly (by omega)).trans cy0
  replace cy1 := (ht11.cell w4.heap.size 1 ly (by omega)).trans cy1
  replace ly : w4.heap.size < w11.heap.size := Nat.lt_of_lt_of_le ly ht11.size
  replace cx50 := (ht11.cell w5.heap.size 0 lx5 (by omega)).trans cx50
  replace cx51 := (ht11.cell w5.heap.size 1 lx5 (by omega)).trans cx51
  replace lx5 : w5.heap.size < w11.heap.size := Nat.lt_of_lt_of_le lx5 ht11.size
  replace HO2 := hide (HO2.out.far ht11 (by omega))
  replace hh2 := Nat.le_trans hh2 ht11.size
  replace HO3 := hide (HO3.out.far ht11 (by omega))
  replace hh3 := Nat.le_trans hh3 ht11.size
  replace HW20 := hide (owns_turn HW20.out ht11 fun q hq => by have h1 := (HW20.out.lt q hq).1; have h2 := hu20 q hq; omega)
  replace hh20 := Nat.le_trans hh20 ht11.size
  replace HW41 := hide (owns_turn HW41.out ht11 fun q hq => by have h1 := (HW41.out.lt q hq).1; have h2 := hu41 q hq; omega)
  replace hh41 := Nat.le_trans hh41 ht11.size
  replace hBw := hBw.trans (ht11.below (by omega) hBw.size)
  go_wp2_with fail
  refine (heldMem ⟨_, C5, _, T5⟩ 1 _ HH.out (by omega) (by rw [HC5.out]; omega)).mono ?_; rw [HC5.out]; rintro x w12 ⟨rfl, hb12⟩
  replace ca0 := (hb12.cell (p := ⟨w.heap.size, 0, none⟩) la).trans ca0
  replace ca1 := (hb12.cell (p := ⟨w.heap.size, 1, none⟩) la).trans ca1
  replace la : w.heap.size < w12.heap.size := Nat.lt_of_lt_of_le la hb12.size
  replace cx30 := (hb12.cell (p := ⟨w3.heap.size, 0, none⟩) lx3).trans cx30
  replace cx31 := (hb12.cell (p := ⟨w3.heap.size, 1, none⟩) lx3).trans cx31
  replace lx3 : w3.heap.size < w12.heap.size := Nat.lt_of_lt_of_le lx3 hb12.size
  replace cy0 := (hb12.cell (p := ⟨w4.heap.size, 0, none⟩) ly).trans cy0
  replace cy1 := (hb12.cell (p := ⟨w4.heap.size, 1, none⟩) ly).trans cy1
  replace ly : w4.heap.size < w12.heap.size := Nat.lt_of_lt_of_le ly hb12.size
  replace cx50 := (hb12.cell (p := ⟨w5.heap.size, 0, none⟩) lx5).trans cx50
  replace cx51 := (hb12.cell (p := ⟨w5.heap.size, 1, none⟩) lx5).trans cx51
  replace lx5 : w5.heap.size < w12.heap.size := Nat.lt_of_lt_of_le lx5 hb12.size
  replace HO2 := hide (HO2.out.new hb12)
  replace hh2 := Nat.le_trans hh2 hb12.size
  replace HO3 := hide (HO3.out.new hb12)
  replace hh3 := Nat.le_trans hh3 hb12.size
  replace HW20 := hide (owns_new HW20.out hb12)
  replace hh20 := Nat.le_trans hh20 hb12.size
  replace HW41 := hide (owns_new HW41.out hb12)
  replace hh41 := Nat.le_trans hh41 hb12.size
  replace HH := hide (HH.out.new hb12)
  replace hBw := bchain hBw hb12
  go_wp2_with fail
  refine (toMem ⟨_, cells, _, T⟩ _ (HR.out.new hBw) (by rw [HS.out]; exact hs)).mono ?_
  rintro x w13 ⟨⟨cv13, C13, tv13, T13⟩, rfl, hd13, ho13, hb13⟩
  obtain ⟨a13, p13, e13, _⟩ := owns_form ho13.cel; obtain ⟨b13, q13, f13, _⟩ := owns_form ho13.ths.row; simp only at e13 f13; subst e13 f13; have HO13 := hide ho13; have HD13 := hide hd13; clear ho13 hd13
  have oa_13 : w.heap.size < w12.heap.size := la
  have ox3_13 : w3.heap.size < w12.heap.size := lx3
  have oy_13 : w4.heap.size < w12.heap.size := ly
  have ox5_13 : w5.heap.size < w12.heap.size := lx5
  have o2_13 := hh2
  have o3_13 := hh3
  have o20_13 := hh20
  have o41_13 := hh41
  have ob_13 := hb13.size
  have ow_13 := hBw.size
  have hh13 : w13.heap.size ≤ w13.heap.size := Nat.le_refl _
  replace ca0 := (hb13.cell (p := ⟨w.heap.size, 0, none⟩) la).trans ca0
  replace ca1 := (hb13.cell (p := ⟨w.heap.size, 1, none⟩) la).trans ca1
  replace la : w.heap.size < w13.heap.size := Nat.lt_of_lt_of_le la hb13.size
  replace cx30 := (hb13.cell (p := ⟨w3.heap.size, 0, none⟩) lx3).trans cx30
  replace cx31 := (hb13.cell (p := ⟨w3.heap.size, 1, none⟩) lx3).trans cx31
  replace lx3 : w3.heap.size < w13.heap.size := Nat.lt_of_lt_of_le lx3 hb13.size
  replace cy0 := (hb13.cell (p := ⟨w4.heap.size, 0, none⟩) ly).trans cy0
  replace cy1 := (hb13.cell (p := ⟨w4.heap.size, 1, none⟩) ly).trans cy1
  replace ly : w4.heap.size < w13.heap.size := Nat.lt_of_lt_of_le ly hb13.size
  replace cx50 := (hb13.cell (p := ⟨w5.heap.size, 0, none⟩) lx5).trans cx50
  replace cx51 := (hb13.cell (p := ⟨w5.heap.size, 1, none⟩) lx5).trans cx51
  replace lx5 : w5.heap.size < w13.heap.size := Nat.lt_of_lt_of_le lx5 hb13.size
  replace HO2 := hide (HO2.out.new hb13)
  replace hh2 := Nat.le_trans hh2 hb13.size
  replace HO3 := hide (HO3.out.new hb13)
  replace hh3 := Nat.le_trans hh3 hb13.size
  replace HW20 := hide (owns_new HW20.out hb13)
  replace hh20 := Nat.le_trans hh20 hb13.size
  replace HW41 := hide (owns_new HW41.out hb13)
  replace hh41 := Nat.le_trans hh41 hb13.size
  replace HH := hide (HH.out.new hb13)
  replace hBw := bchain hBw hb13
  have HE13 : Hid ((⟨C13, T13.map Th.d⟩ : DMem) = ⟨cells, T.map Th.d⟩) := HD13.out
  go_wp2_with fail
  refine (toInts L _ _ (HP.out.new hBw) (by omega)).mono ?_
  rintro x w44 ⟨v44, rfl, ho44, hb44⟩
  obtain ⟨a44, p44, rfl, _⟩ := owns_form ho44
  have HW44 := hide ho44; have hu44 := fun q hq => (ho44.lt q hq).2; clear ho44
  have oa_44 : w.heap.size < w13.heap.size := la
  have ox3_44 : w3.heap.size < w13.heap.size := lx3
  have oy_44 : w4.heap.size < w13.heap.size := ly
  have ox5_44 : w5.heap.size < w13.heap.size := lx5
  have o2_44 := hh2
  have o3_44 := hh3
  have o13_44 := hh13
  have o20_44 := hh20
  have o41_44 := hh41
  have ob_44 := hb44.size
  have ow_44 := hBw.size
  have hh44 : w44.heap.size ≤ w44.heap.size := Nat.le_refl _
  replace ca0 := (hb44.cell (p := ⟨w.heap.size, 0, none⟩) la).trans ca0
  replace ca1 := (hb44.cell (p := ⟨w.heap.size, 1, none⟩) la).trans ca1
  replace la : w.heap.size < w44.heap.size := Nat.lt_of_lt_of_le la hb44.size
  replace cx30 := (hb44.cell (p := ⟨w3.heap.size, 0, none⟩) lx3).trans cx30
  replace cx31 := (hb44.cell (p := ⟨w3.heap.size, 1, none⟩) lx3).trans cx31
  replace lx3 : w3.heap.size < w44.heap.size := Nat.lt_of_lt_of_le lx3 hb44.size
  replace cy0 := (hb44.cell (p := ⟨w4.heap.size, 0, none⟩) ly).trans cy0
  replace cy1 := (hb44.cell (p := ⟨w4.heap.size, 1, none⟩) ly).trans cy1
  replace ly : w4.heap.size < w44.heap.size := Nat.lt_of_lt_of_le ly hb44.size
  replace cx50 := (hb44.cell (p := ⟨w5.heap.size, 0, none⟩) lx5).trans cx50
  replace cx51 := (hb44.cell (p := ⟨w5.heap.size, 1, none⟩) lx5).trans cx51
  replace lx5 : w5.heap.size < w44.heap.size := Nat.lt_of_lt_of_le lx5 hb44.size
  replace HO2 := hide (HO2.out.new hb44)
  replace hh2 := Nat.le_trans hh2 hb44.size
  replace HO3 := hide (HO3.out.new hb44)
  replace hh3 := Nat.le_trans hh3 hb44.size
  replace HO13 := hide (HO13.out.new hb44)
  replace hh13 := Nat.le_trans hh13 hb44.size
  replace HW20 := hide (owns_new HW20.out hb44)
  replace hh20 := Nat.le_trans hh20 hb44.size
  replace HW41 := hide (owns_new HW41.out hb44)
  replace hh41 := Nat.le_trans hh41 hb44.size
  replace HH := hide (HH.out.new hb44)
  replace hBw := bchain hBw hb44
  go_wp2_with fail
  refine (implPlayed _ _ C13 T13 _ L _ HO13.out.read (reads_of_owns HW44.out)).mono ?_; rw [HE13.out, ← HRR.out]
  rintro x w14 ⟨⟨cv14, C14, tv14, T14⟩, rfl, hd14, ho14, hb14⟩
  obtain ⟨a14, p14, e14, _⟩ := owns_form ho14.cel; obtain ⟨b14, q14, f14, _⟩ := owns_form ho14.ths.row; simp only at e14 f14; subst e14 f14; have HO14 := hide ho14; have HD14 := hide hd14; clear ho14 hd14
  have oa_14 : w.heap.size < w44.heap.size := la
  have ox3_14 : w3.heap.size < w44.heap.size := lx3
  have oy_14 : w4.heap.size < w44.heap.size := ly
  have ox5_14 : w5.heap.size < w44.heap.size := lx5
  have o2_14 := hh2
  have o3_14 := hh3
  have o13_14 := hh13
  have o20_14 := hh20
  have o41_14 := hh41
  have o44_14 := hh44
  have ob_14 := hb14.size
  have ow_14 := hBw.size
  have hh14 : w14.heap.size ≤ w14.heap.size := Nat.le_refl _
  replace ca0 := (hb14.cell (p := ⟨w.heap.size, 0, none⟩) la).trans ca0
  replace ca1 := (hb14.cell (p := ⟨w.heap.size, 1, none⟩) la).trans ca1
  replace la : w.heap.size < w14.heap.size := Nat.lt_of_lt_of_le la hb14.size
  replace cx30 := (hb14.cell (p := ⟨w3.heap.size, 0, none⟩) lx3).trans cx30
  replace cx31 := (hb14.cell (p := ⟨w3.heap.size, 1, none⟩) lx3).trans cx31
  replace lx3 : w3.heap.size < w14.heap.size := Nat.lt_of_lt_of_le lx3 hb14.size
  replace cy0 := (hb14.cell (p := ⟨w4.heap.size, 0, none⟩) ly).trans cy0
  replace cy1 := (hb14.cell (p := ⟨w4.heap.size, 1, none⟩) ly).trans cy1
  replace ly : w4.heap.size < w14.heap.size := Nat.lt_of_lt_of_le ly hb14.size
  replace cx50 := (hb14.cell (p := ⟨w5.heap.size, 0, none⟩) lx5).trans cx50
  replace cx51 := (hb14.cell (p := ⟨w5.heap.size, 1, none⟩) lx5).trans cx51
  replace lx5 : w5.heap.size < w14.heap.size := Nat.lt_of_lt_of_le lx5 hb14.size
  replace HO2 := hide (HO2.out.new hb14)
  replace hh2 := Nat.le_trans hh2 hb14.size
  replace HO3 := hide (HO3.out.new hb14)
  replace hh3 := Nat.le_trans hh3 hb14.size
  replace HO13 := hide (HO13.out.new hb14)
  replace hh13 := Nat.le_trans hh13 hb14.size
  replace HW20 := hide (owns_new HW20.out hb14)
  replace hh20 := Nat.le_trans hh20 hb14.size
  replace HW41 := hide (owns_new HW41.out hb14)
  replace hh41 := Nat.le_trans hh41 hb14.size
  replace HW44 := hide (owns_new HW44.out hb14)
  replace hh44 := Nat.le_trans hh44 hb14.size
  replace HH := hide (HH.out.new hb14)
  replace hBw := bchain hBw hb14
  go_wp2_with fail
  have hbV14 : Below w14.heap.size w14 (w14.alloc (.cells #[.slice a14 C14.length p14, .slice b14 T14.length q14] 27)) := (Below.refl _ _).alloc (Nat.le_refl _) _
  have cx140 : (w14.alloc (.cells #[.slice a14 C14.length p14, .slice b14 T14.length q14] 27)).cell? ⟨w14.heap.size, 0, none⟩ = some (.slice a14 C14.length p14) := by simp
  have cx141 : (w14.alloc (.cells #[.slice a14 C14.length p14, .slice b14 T14.length q14] 27)).cell? ⟨w14.heap.size, 1, none⟩ = some (.slice b14 T14.length q14) := by simp
  have lx14 : w14.heap.size < (w14.alloc (.cells #[.slice a14 C14.length p14, .slice b14 T14.length q14] 27)).heap.size := by simp
  generalize w14.alloc (.cells #[.slice a14 C14.length p14, .slice b14 T14.length q14] 27) = V14 at *
  replace ca0 := (hbV14.cell (p := ⟨w.heap.size, 0, none⟩) la).trans ca0
  replace ca1 := (hbV14.cell (p := ⟨w.heap.size, 1, none⟩) la).trans ca1
  replace la : w.heap.size < V14.heap.size := Nat.lt_of_lt_of_le la hbV14.size
  replace cx30 := (hbV14.cell (p := ⟨w3.heap.size, 0, none⟩) lx3).trans cx30
  replace cx31 := (hbV14.cell (p := ⟨w3.heap.size, 1, none⟩) lx3).trans cx31
  replace lx3 : w3.heap.size < V14.heap.size := Nat.lt_of_lt_of_le lx3 hbV14.size
  replace cy0 := (hbV14.cell (p := ⟨w4.heap.size, 0, none⟩) ly).trans cy0
  replace cy1 := (hbV14.cell (p := ⟨w4.heap.size, 1, none⟩) ly).trans cy1
  replace ly : w4.heap.size < V14.heap.size := Nat.lt_of_lt_of_le ly hbV14.size
  replace cx50 := (hbV14.cell (p := ⟨w5.heap.size, 0, none⟩) lx5).trans cx50
  replace cx51 := (hbV14.cell (p := ⟨w5.heap.size, 1, none⟩) lx5).trans cx51
  replace lx5 : w5.heap.size < V14.heap.size := Nat.lt_of_lt_of_le lx5 hbV14.size
  replace HO2 := hide (HO2.out.new hbV14)
  replace hh2 := Nat.le_trans hh2 hbV14.size
  replace HO3 := hide (HO3.out.new hbV14)
  replace hh3 := Nat.le_trans hh3 hbV14.size
  replace HO13 := hide (HO13.out.new hbV14)
  replace hh13 := Nat.le_trans hh13 hbV14.size
  replace HO14 := hide (HO14.out.new hbV14)
  replace hh14 := Nat.le_trans hh14 hbV14.size
  replace HW20 := hide (owns_new HW20.out hbV14)
  replace hh20 := Nat.le_trans hh20 hbV14.size
  replace HW41 := hide (owns_new HW41.out hbV14)
  replace hh41 := Nat.le_trans hh41 hbV14.size
  replace HW44 := hide (owns_new HW44.out hbV14)
  replace hh44 := Nat.le_trans hh44 hbV14.size
  replace HH := hide (HH.out.new hbV14)
  replace hBw := bchain hBw hbV14
  refine (eqMem ⟨_, C14, _, T14⟩ ⟨_, C3, _, T3⟩ _ HO14.out.read HO3.out.read (HD3.out.trans HD14.out.symm)).mono ?_; rintro x w15 ⟨rfl, hb15⟩
  replace ca0 := (hb15.cell (p := ⟨w.heap.size, 0, none⟩) la).trans ca0
  replace ca1 := (hb15.cell (p := ⟨w.heap.size, 1, none⟩) la).trans ca1
  replace la : w.heap.size < w15.heap.size := Nat.lt_of_lt_of_le la hb15.size
  replace cx30 := (hb15.cell (p := ⟨w3.heap.size, 0, none⟩) lx3).trans cx30
  replace cx31 := (hb15.cell (p := ⟨w3.heap.size, 1, none⟩) lx3).trans cx31
  replace lx3 : w3.heap.size < w15.heap.size := Nat.lt_of_lt_of_le lx3 hb15.size
  replace cy0 := (hb15.cell (p := ⟨w4.heap.size, 0, none⟩) ly).trans cy0
  replace cy1 := (hb15.cell (p := ⟨w4.heap.size, 1, none⟩) ly).trans cy1
  replace ly : w4.heap.size < w15.heap.size := Nat.lt_of_lt_of_le ly hb15.size
  replace cx50 := (hb15.cell (p := ⟨w5.heap.size, 0, none⟩) lx5).trans cx50
  replace cx51 := (hb15.cell (p := ⟨w5.heap.size, 1, none⟩) lx5).trans cx51
  replace lx5 : w5.heap.size < w15.heap.size := Nat.lt_of_lt_of_le lx5 hb15.size
  replace cx140 := (hb15.cell (p := ⟨w14.heap.size, 0, none⟩) lx14).trans cx140
  replace cx141 := (hb15.cell (p := ⟨w14.heap.size, 1, none⟩) lx14).trans cx141
  replace lx14 : w14.heap.size < w15.heap.size := Nat.lt_of_lt_of_le lx14 hb15.size
  replace HO2 := hide (HO2.out.new hb15)
  replace hh2 := Nat.le_trans hh2 hb15.size
  replace HO3 := hide (HO3.out.new hb15)
  replace hh3 := Nat.le_trans hh3 hb15.size
  replace HO13 := hide (HO13.out.new hb15)
  replace hh13 := Nat.le_trans hh13 hb15.size
  replace HO14 := hide (HO14.out.new hb15)
  replace hh14 := Nat.le_trans hh14 hb15.size
  replace HW20 := hide (owns_new HW20.out hb15)
  replace hh20 := Nat.le_trans hh20 hb15.size
  replace HW41 := hide (owns_new HW41.out hb15)
  replace hh41 := Nat.le_trans hh41 hb15.size
  replace HW44 := hide (owns_new HW44.out hb15)
  replace hh44 := Nat.le_trans hh44 hb15.size
  replace HH := hide (HH.out.new hb15)
  replace hBw := bchain hBw hb15
  go_wp2_with fail
  refine (heldMem ⟨_, C5, _, T5⟩ 1 _ HH.out (by omega) (by rw [HC5.out]; omega)).mono ?_; rw [HC5.out]; rintro x w16 ⟨rfl, hb16⟩
  replace ca0 := (hb16.cell (p := ⟨w.heap.size, 0, none⟩) la).trans ca0
  replace ca1 := (hb16.cell (p := ⟨w.heap.size, 1, none⟩) la).trans ca1
  replace la : w.heap.size < w16.heap.size := Nat.lt_of_lt_of_le la hb16.size
  replace cx30 := (hb16.cell (p := ⟨w3.heap.size, 0, none⟩) lx3).trans cx30
  replace cx31 := (hb16.cell (p := ⟨w3.heap.size, 1, none⟩) lx3).trans cx31
  replace lx3 : w3.heap.size < w16.heap.size := Nat.lt_of_lt_of_le lx3 hb16.size
  replace cy0 := (hb16.cell (p := ⟨w4.heap.size, 0, none⟩) ly).trans cy0
  replace cy1 := (hb16.cell (p := ⟨w4.heap.size, 1, none⟩) ly).trans cy1
  replace ly : w4.heap.size < w16.heap.size := Nat.lt_of_lt_of_le ly hb16.size
  replace cx50 := (hb16.cell (p := ⟨w5.heap.size, 0, none⟩) lx5).trans cx50
  replace cx51 := (hb16.cell (p := ⟨w5.heap.size, 1, none⟩) lx5).trans cx51
  replace lx5 : w5.heap.size < w16.heap.size := Nat.lt_of_lt_of_le lx5 hb16.size
  replace cx140 := (hb16.cell (p := ⟨w14.heap.size, 0, none⟩) lx14).trans cx140
  replace cx141 := (hb16.cell (p := ⟨w14.heap.size, 1, none⟩) lx14).trans cx141
  replace lx14 : w14.heap.size < w16.heap.size := Nat.lt_of_lt_of_le lx14 hb16.size
  replace HO2 := hide (HO2.out.new hb16)
  replace hh2 := Nat.le_trans hh2 hb16.size
  replace HO3 := hide (HO3.out.new hb16)
  replace hh3 := Nat.le_trans hh3 hb16.size
  replace HO13 := hide (HO13.out.new hb16)
  replace hh13 := Nat.le_trans hh13 hb16.size
  replace HO14 := hide (HO14.out.new hb16)
  replace hh14 := Nat.le_trans hh14 hb16.size
  replace HW20 := hide (owns_new HW20.out hb16)
  replace hh20 := Nat.le_trans hh20 hb16.size
  replace HW41 := hide (owns_new HW41.out hb16)
  replace hh41 := Nat.le_trans hh41 hb16.size
  replace HW44 := hide (owns_new HW44.out hb16)
  replace hh44 := Nat.le_trans hh44 hb16.size
  replace HH := hide (HH.out.new hb16)
  replace hBw := bchain hBw hb16
  go_wp2_with fail
  go_ret
  exact ⟨rfl, hBw⟩


theorem own : ownKnob Try.prog.godebug = none := by kernel_rfl
theorem laidOut : laidOutB Try.prog = true := by kernel_rfl

set_option maxRecDepth 100000 in
theorem lifted (os : Os) (started : os.Started) (H : Type) (enc : TypeId × Value → H) :
    ReturnsInHanded {} Try.checked os 6 .any (Rows.fnExactPlayedSpec.pre6 enc Try.prog Try.f6 Rows.fnExactPlayedRow.domain false) (Rows.fnExactPlayedSpec.post enc Try.prog Try.f6 false true false false) := by
  refine returnsInHanded_of_change (C := Try.checked) own started (by kernel_rfl) Try.func6
    (ChangeSpec.witness6 (enc := enc) (C := Try.checked) false ⟨#[], #[.agg #[.slice none 0 0, .slice none 0 0], .slice none 0 0], []⟩ 8 (by kernel_rfl) (by kernel_rfl) (by kernel_rfl) (by kernel_rfl)) ?_
  intro W base args ds gs before hval0 hW hcnd _
  have hval : ∀ (j : Nat) t v, Try.f6.params[j]? = some t → args[j]? = some v → Value.okWide Try.prog W .any base t v := hval0
  have hW' := hW
  obtain ⟨p, q, hA0, hV, rfl, hfz, hnd⟩ := hW
  have hA : DataW.TrodAll enc Try.prog W 0 (fun _ => true) true Try.f6.params.toList args.toList ds p := hA0
  rw [Try.params6] at hA hval
  obtain ⟨v0, vs0, d0, ds0, p0, q0, hargs, rfl, rfl, h0, r0⟩ := trodAll_cons hA
  obtain ⟨v1, vs1, d1, ds1, p1, q1, rfl, rfl, rfl, h1, r1⟩ := trodAll_cons r0
  obtain ⟨rfl, rfl, rfl⟩ := trodAll_nil r1
  obtain rfl : args = #[v0, v1] := by cases args; simp_all
  obtain ⟨rfl, rfl⟩ := trodVars_none hV
  have k0 := h0
  have lt0 : ∀ x ∈ p0, x.block < W.heap.size := by obtain ⟨m, hm⟩ := k0; exact DataW.trod_lt m _ _ _ hm
  have k1 := h1
  have lt1 : ∀ x ∈ p1, x.block < W.heap.size := by obtain ⟨m, hm⟩ := k1; exact DataW.trod_lt m _ _ _ hm
  obtain ⟨m, rfl, hrm⟩ := open_Memory (hval 0 47 v0 rfl rfl) h0
  obtain ⟨sa, sl, sc, rfl⟩ := okWide_slice Try.underlying24 (hval 1 24 v1 rfl rfl); obtain ⟨n1, hn1⟩ := h1; obtain ⟨L, hL⟩ := open_int64s (v := .slice sa sl sc) (by simpa [Value.cells] using hn1); clear hn1
  clear hA0 hval0
  refine (walk m (.slice sa sl sc) L W hrm hL).mono fun e W' ⟨he, bel⟩ => ?_
  subst he
  exact ⟨_, rfl, _, _, _, [], _, [], hW', trodAll_mk1 (shut_bool Try.underlying4 _), (trodAll_cons_mk (Below.trod laidOut (by kernel_rfl) (of_decide_eq_true (by kernel_rfl)) k0 bel lt0) (trodAll_cons_mk (Below.trod laidOut (by kernel_rfl) (of_decide_eq_true (by kernel_rfl)) k1 bel lt1) trodAll_mk0)), rfl, bel.frame _, fun h => by cases h⟩

theorem over : Rows.fnExactPlayedRow.holds Try.pinned (OpenSpec.ofChange Rows.fnExactPlayedSpec) :=
  OpenClaim.holds_of_wide 6 Try.f6 rfl rfl rfl rfl rfl rfl rfl ⟨rfl, rfl, rfl, rfl, rfl⟩ rfl rfl rfl rfl rfl (by kernel_rfl) Try.func6 (by kernel_rfl)
    (of_decide_eq_true (by kernel_rfl)) (by unfold Func.isWrapper; first | (rw [if_pos (by decide +kernel)]; kernel_rfl) | (rw [if_neg (by decide +kernel)]; exact ⟨rfl, rfl⟩))
    (fun os started H enc _ => lifted os started H enc)

end exactPlayed

theorem exactPlayed_proved : Rows.FnExactPlayedSaid := exactPlayed.over
#print axioms exactPlayed_proved
end Go.Proofs.Ytblbgnfnikcolaa
