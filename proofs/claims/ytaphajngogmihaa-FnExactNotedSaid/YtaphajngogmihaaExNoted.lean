/- The law FnExactNoted returns true at every argument and leaves it as it was: impl.Noted answers as its model, writes into no argument, and its answer owns its memory. No condition. -/
import Derived.Test.YtaphajngogmihaaTabX
import Derived.Test.YtaphajngogmihaaImplNoted
import Derived.Test.YtaphajngogmihaaTables
import Derived.WalkKit
import Derived.ProofKit
import Derived.OpenShut
import Derived.ShutString
import Derived.ChangeOld
import Derived.Below
import Derived.Lib.SmallJoins
import Derived.Deep.RegionHeld3
import Derived.Deep.Cut
import Derived.Deep.DeepCutAuto


namespace Go.Proofs.Ytaphajngogmihaa
open Go.RowKit
namespace exactNoted
open Go.ChangeShapes Go.WideShapes Go.ChangeAt Go.RowKit Go.Joins
set_option linter.unusedVariables false
set_option linter.unusedSimpArgs false

set_option maxRecDepth 100000 in
set_option maxHeartbeats 8000000 in
theorem walk (L : List Fd) (room : Int) (v : Value) (f : Fd) (w : World) (hr : Reads w v L.length 2 (fv L)) (hf : ∀ f ∈ L, f.fine) (hff : f.fine) :
    Calls Try.prog 5 #[.agg #[.int .i64 room, v], .agg #[.string f.n, .string f.v]] w fun x w' => x = .returned (.bool true) ∧ Below w.heap.size w w' := by
  have HR := hide hr; have HF := hide hf
  obtain ⟨ad, cap, rfl, _⟩ := hr.2
  clear hr hf
  obtain ⟨⟨⟨dr, dL⟩, db⟩, hD⟩ : ∃ D, D = notedD room L f := ⟨_, rfl⟩
  have hdl : dL.length ≤ L.length + 1 := by have := notedD_len room L f; rw [← hD] at this; exact this
  have HD := hide hD
  clear hD
  go_enter Try.func5, Try.ntmps5
  go_wp2_with fail
  generalize hV : (w.alloc (.cells #[.int .i64 room, .slice ad L.length cap] 31)).alloc (.cells #[.string f.n, .string f.v] 23) = V
  have HBW : Hid (Below w.heap.size w V) := by show Below _ _ _; rw [← hV]; exact bo_alloc ((Below.refl _ _).alloc (Nat.le_refl _) _) _
  have HA : Hid (RowIs V w.heap.size 31 [.int .i64 room, .slice ad L.length cap]) := by show RowIs _ _ _ _; rw [← hV]; exact (rowIs_new w 31 [.int .i64 room, .slice ad L.length cap]).alloc _
  have HB : Hid (RowIs V (w.heap.size + 1) 23 [.string f.n, .string f.v]) := by show RowIs _ _ _ _; rw [← hV]; simpa using rowIs_new (w.alloc (.cells #[.int .i64 room, .slice ad L.length cap] 31)) 23 [.string f.n, .string f.v]
  have hlV := HB.out.lt
  clear hV
  refine (szTable1 L room _ _ _ (HR.out.new HBW.out) HF.out (by omega) (by omega)).mono ?_
  by_cases hneg : (1048576 : Int) - L.length - szL L < 0
  · rw [if_pos hneg]; rintro x w1 ⟨rfl, hb1⟩
    go_wp2_with fail
    go_ret
    exact ⟨rfl, bchain HBW.out hb1⟩
  rw [if_neg hneg]; rintro x w1 ⟨rfl, hb1⟩
  have hLl : L.length ≤ 1048576 := by have := szL_pos L; omega
  have hlu : (1048576 : Int) - L.length - szL L ≤ 1048576 := by have := szL_pos L; omega
  generalize (1048576 : Int) - L.length - szL L = left at *
  replace HA := hide (HA.out.new hb1)
  replace HB := hide (HB.out.new hb1)
  replace HBW := hide (bchain HBW.out hb1)
  have zhb1 := hb1.size
  clear hb1
  have y0 := HB.out.cell (j := 0) rfl
  have y1 := HB.out.cell (j := 1) rfl
  go_wp2_with fail
  refine (szField1 f _ _ hff (by omega) (by omega)).mono ?_
  by_cases hneg2 : left - szF f < 0
  · rw [if_pos hneg2]; rintro x w2 ⟨rfl, hb2⟩
    go_wp2_with fail
    go_ret
    exact ⟨rfl, bchain HBW.out hb2⟩
  rw [if_neg hneg2]; rintro x w2 ⟨rfl, hb2⟩
  generalize left - szF f = left2 at *
  clear y0 y1
  replace HA := hide (HA.out.new hb2)
  replace HB := hide (HB.out.new hb2)
  replace HBW := hide (bchain HBW.out hb2)
  have zhb2 := hb2.size
  clear hb2
  go_upto_region 8 with fail
  go_cut [6, 7] (fun p b wx => ∃ q a c, p = .pointer (some ⟨q, 0, none⟩) ∧ b = .bool db ∧ TabX wx w2.heap.size wx.heap.size q a c dr dL ∧ Below w2.heap.size w2 wx)
  case first =>
    as_aux_lemma =>
      have x0 := HA.out.cell (j := 0) rfl
      have x1 := HA.out.cell (j := 1) rfl
      have y0 := HB.out.cell (j := 0) rfl
      have y1 := HB.out.cell (j := 1) rfl
      have hS0 := And.intro x0 (And.intro x1 (And.intro y0 y1))
      refine wp_region_held_drew (S := (fun u => u.cell? ⟨w.heap.size, 0, none⟩ = some (.int .i64 room) ∧ u.cell? ⟨w.heap.size, 1, none⟩ = some (.slice ad L.length cap) ∧ u.cell? ⟨w.heap.size + 1, 0, none⟩ = some (.string f.n) ∧ u.cell? ⟨w.heap.size + 1, 1, none⟩ = some (.string f.v))) (by kernel_rfl) hS0 (fun hS => ?_)
      clear x0 x1 y0 y1 hS0
      refine wpAnyH_take (i := 0) (v := ?_) rfl (by kernel_rfl) (by kernel_rfl) (by kernel_rfl) (fun _ _ _ h => h) (Or.inl ⟨by rfl, ?_⟩) hS ?_; rotate_left; focus (intro w hw; obtain ⟨l0, l1, l2, l3⟩ := hw; go_simp; try with_reducible rfl)
      refine wpAnyH_take (i := 2) (v := ?_) rfl (by kernel_rfl) (by kernel_rfl) (by kernel_rfl) (fun _ _ _ h => h) (Or.inl ⟨by rfl, ?_⟩) hS ?_; rotate_left; focus (intro w hw; obtain ⟨l0, l1, l2, l3⟩ := hw; go_simp; try with_reducible rfl)
      have hbd : Below w2.heap.size w2 (World.drew w2) := (Below.refl _ _).drew
      refine wpAnyH_ready (rs := [1, 8]) (by kernel_rfl) (by simp) ?_
      refine AllReadyH.cons rfl (fun K hK => ?_) (AllReadyH.cons rfl (fun K hK => ?_) AllReadyH.nil)
      · skip
        go_simp
        refine (toTable1 L room _ _ (HR.out.new (HBW.out.trans (hbd.mono HBW.out.size))) hLl).mono ?_; rintro x wc0 ⟨vt, rfl, hot, hbt⟩
        obtain ⟨at1, pt1, rfl, _⟩ := owns_form hot
        have HRD := hide (reads_of_owns hot)
        clear hot
        have hbt0 := hbd.trans (hbt.mono hbd.size)
        have hz0 := hbd.size
        have hy0 := hbt.size
        refine hK.out _ _ ⟨(HA.out.new hbt0).cell (j := 0) rfl, (HA.out.new hbt0).cell (j := 1) rfl, (HB.out.new hbt0).cell (j := 0) rfl, (HB.out.new hbt0).cell (j := 1) rfl⟩ (fun hS => ?_)
        clear hK K
        clear hbt
        refine wpAnyH_ready (rs := [3, 8]) (by kernel_rfl) (by simp) ?_
        refine AllReadyH.cons rfl (fun K hK => ?_) (AllReadyH.cons rfl (fun K hK => ?_) AllReadyH.nil)
        · skip
          go_simp
          refine (toField1 f _).mono ?_; rintro x wc1 ⟨rfl, hbt⟩
          replace HRD := hide (HRD.out.new hbt)
          have hbt1 := hbt0.trans (hbt.mono hbt0.size)
          have hz1 := hbt0.size
          have hy1 := hbt.size
          refine hK.out _ _ ⟨(HA.out.new hbt1).cell (j := 0) rfl, (HA.out.new hbt1).cell (j := 1) rfl, (HB.out.new hbt1).cell (j := 0) rfl, (HB.out.new hbt1).cell (j := 1) rfl⟩ (fun hS => ?_)
          clear hK K
          clear hbt
          refine wpAnyH_ready (rs := [4, 8]) (by kernel_rfl) (by simp) ?_
          refine AllReadyH.cons rfl (fun K hK => ?_) (AllReadyH.cons rfl (fun K hK => ?_) AllReadyH.nil)
          · skip
            go_simp
            have hc := specNoted L room (.slice at1 L.length pt1) f _ HRD.out HF.out hff
            rw [← HD.out] at hc
            dsimp only at hc
            refine hc.mono ?_; rintro x wc2 ⟨vz, rfl, hoz, hbt⟩
            clear hc
            obtain ⟨az, pz, rfl, _⟩ := owns_form hoz
            have HZ := hide hoz
            clear hoz
            have hbt2 := hbt1.trans (hbt.mono hbt1.size)
            have hz2 := hbt1.size
            have hy2 := hbt.size
            refine hK.out _ _ ⟨(HA.out.new hbt2).cell (j := 0) rfl, (HA.out.new hbt2).cell (j := 1) rfl, (HB.out.new hbt2).cell (j := 0) rfl, (HB.out.new hbt2).cell (j := 1) rfl⟩ (fun hS => ?_)
            clear hK K
            clear hbt
            refine wpAnyH_take (i := 5) (v := ?_) rfl (by kernel_rfl) (by kernel_rfl) (by kernel_rfl) (fun _ _ _ h => h) (Or.inl ⟨by rfl, ?_⟩) hS ?_; rotate_left; focus (intro w hw; clear hw; go_simp; try with_reducible rfl)
            refine wpAnyH_take (i := 6) (v := ?_) rfl (by kernel_rfl) (by kernel_rfl) (by kernel_rfl) (fun _ _ _ h => h) (Or.inl ⟨by rfl, ?_⟩) hS ?_; rotate_left; focus (intro w hw; clear hw; go_simp; try with_reducible rfl)
            refine wpAnyH_take (i := 7) (v := ?_) rfl (by kernel_rfl) (by kernel_rfl) (by kernel_rfl) (fun _ _ _ h => h) (Or.inl ⟨by rfl, ?_⟩) hS ?_; rotate_left; focus (intro w hw; clear hw; go_simp; try with_reducible rfl)
            refine wpAnyH_ready (rs := [8]) (by kernel_rfl) (by simp) ?_; refine AllReadyH.cons rfl (fun K hK => ?_) AllReadyH.nil; go_simp
            have hbz : Below w2.heap.size w2 (wc2.alloc (.cells #[.int .i64 0, .slice none 0 0] 36)) := bo_alloc hbt2 _
            have hez : RowIs (wc2.alloc (.cells #[.int .i64 0, .slice none 0 0] 36)) wc2.heap.size 36 [.int .i64 0, .slice none 0 0] := rowIs_new wc2 36 [.int .i64 0, .slice none 0 0]
            have hzg : w2.heap.size ≤ wc2.heap.size := hbt2.size
            have haz : (Value.slice az dL.length pz).ownBlock ≠ some wc2.heap.size := fun hq => by have := (HZ.out.lt _ hq).2; omega
            replace HZ := hide (owns_new HZ.out (bo_alloc (Below.refl wc2.heap.size wc2) (.cells #[.int .i64 0, .slice none 0 0] 36)))
            refine hK.out _ _ ⟨(HA.out.new hbz).cell (j := 0) rfl, (HA.out.new hbz).cell (j := 1) rfl, (HB.out.new hbz).cell (j := 0) rfl, (HB.out.new hbz).cell (j := 1) rfl⟩ (fun hS => ?_)
            clear hK K
            generalize wc2.alloc (.cells #[.int .i64 0, .slice none 0 0] 36) = wz at *
            have e0 := hez.cell (j := 0) rfl
            have e1 := hez.cell (j := 1) rfl
            have e2 := hez.frozen 0
            have e3 := hez.frozen 1
            refine wpAnyH_ready (rs := [9]) (by kernel_rfl) (by simp) ?_; refine AllReadyH.cons rfl (fun K hK => ?_) AllReadyH.nil; go_simp
            have HTT := hide (tabX_set (room := dr) hez (owns_base HZ.out (base' := w2.heap.size) (fun q hq => by have := (HZ.out.lt q hq).1; omega)) haz (by omega))
            have hbs := (hbz.setCell (p := ⟨wc2.heap.size, 0, none⟩) (show w2.heap.size ≤ wc2.heap.size by omega) (.int .i64 dr)).setCell (p := ⟨wc2.heap.size, 1, none⟩) (show w2.heap.size ≤ wc2.heap.size by omega) (.slice az dL.length pz)
            refine hK.out _ _ ⟨(HA.out.new hbs).cell (j := 0) rfl, (HA.out.new hbs).cell (j := 1) rfl, (HB.out.new hbs).cell (j := 0) rfl, (HB.out.new hbs).cell (j := 1) rfl⟩ (fun hS => ?_)
            clear hK K
            refine wpAnyH_take (i := 10) (v := ?_) rfl (by kernel_rfl) (by kernel_rfl) (by kernel_rfl) (fun _ _ _ h => h) (Or.inl ⟨by rfl, ?_⟩) hS ?_; rotate_left; focus (intro w hw; clear hw; go_simp; try with_reducible rfl)
            refine wpAnyH_done (by kernel_rfl) ?_ _
            go_wp2_with fail
            go_meet
            exact ⟨_, _, _, rfl, rfl, HTT.out, hbs⟩
          · skip
            go_simp
            have hba : Below w2.heap.size w2 (wc1.alloc (.cells #[.int .i64 0, .slice none 0 0] 36)) := bo_alloc hbt1 _
            have hea : RowIs (wc1.alloc (.cells #[.int .i64 0, .slice none 0 0] 36)) wc1.heap.size 36 [.int .i64 0, .slice none 0 0] := rowIs_new wc1 36 [.int .i64 0, .slice none 0 0]
            have hag : w2.heap.size ≤ wc1.heap.size := hbt1.size
            replace HRD := hide (HRD.out.new (bo_alloc (Below.refl wc1.heap.size wc1) (.cells #[.int .i64 0, .slice none 0 0] 36)))
            refine hK.out _ _ ⟨(HA.out.new hba).cell (j := 0) rfl, (HA.out.new hba).cell (j := 1) rfl, (HB.out.new hba).cell (j := 0) rfl, (HB.out.new hba).cell (j := 1) rfl⟩ (fun hS => ?_)
            clear hK K
            have hal := hea.lt
            generalize wc1.alloc (.cells #[.int .i64 0, .slice none 0 0] 36) = wa at *
            refine wpAnyH_ready (rs := [4]) (by kernel_rfl) (by simp) ?_
            refine AllReadyH.cons rfl (fun K hK => ?_) AllReadyH.nil
            go_simp
            have hc := specNoted L room (.slice at1 L.length pt1) f _ HRD.out HF.out hff
            rw [← HD.out] at hc
            dsimp only at hc
            refine hc.mono ?_; rintro x wc2 ⟨vz, rfl, hoz, hbt⟩
            clear hc
            obtain ⟨az, pz, rfl, _⟩ := owns_form hoz
            have HZ := hide hoz
            clear hoz
            have hbt2 := hba.trans (hbt.mono hba.size)
            have hz2 := hba.size
            have hy2 := hbt.size
            replace hea := hea.new hbt
            refine hK.out _ _ ⟨(HA.out.new hbt2).cell (j := 0) rfl, (HA.out.new hbt2).cell (j := 1) rfl, (HB.out.new hbt2).cell (j := 0) rfl, (HB.out.new hbt2).cell (j := 1) rfl⟩ (fun hS => ?_)
            clear hK K
            clear hbt
            refine wpAnyH_take (i := 5) (v := ?_) rfl (by kernel_rfl) (by kernel_rfl) (by kernel_rfl) (fun _ _ _ h => h) (Or.inl ⟨by rfl, ?_⟩) hS ?_; rotate_left; focus (intro w hw; clear hw; go_simp; try with_reducible rfl)
            refine wpAnyH_take (i := 6) (v := ?_) rfl (by kernel_rfl) (by kernel_rfl) (by kernel_rfl) (fun _ _ _ h => h) (Or.inl ⟨by rfl, ?_⟩) hS ?_; rotate_left; focus (intro w hw; clear hw; go_simp; try with_reducible rfl)
            refine wpAnyH_take (i := 7) (v := ?_) rfl (by kernel_rfl) (by kernel_rfl) (by kernel_rfl) (fun _ _ _ h => h) (Or.inl ⟨by rfl, ?_⟩) hS ?_; rotate_left; focus (intro w hw; clear hw; go_simp; try with_reducible rfl)
            have hbz := hbt2
            have hez := hea
            have haz : (Value.slice az dL.length pz).ownBlock ≠ some wc1.heap.size := fun hq => by have := (HZ.out.lt _ hq).1; omega
            have e0 := hez.cell (j := 0) rfl
            have e1 := hez.cell (j := 1) rfl
            have e2 := hez.frozen 0
            have e3 := hez.frozen 1
            refine wpAnyH_ready (rs := [9]) (by kernel_rfl) (by simp) ?_; refine AllReadyH.cons rfl (fun K hK => ?_) AllReadyH.nil; go_simp
            have HTT := hide (tabX_set (room := dr) hez (owns_base HZ.out (base' := w2.heap.size) (fun q hq => by have := (HZ.out.lt q hq).1; omega)) haz (by omega))
            have hbs := (hbz.setCell (p := ⟨wc1.heap.size, 0, none⟩) (show w2.heap.size ≤ wc1.heap.size by omega) (.int .i64 dr)).setCell (p := ⟨wc1.heap.size, 1, none⟩) (show w2.heap.size ≤ wc1.heap.size by omega) (.slice az dL.length pz)
            refine hK.out _ _ ⟨(HA.out.new hbs).cell (j := 0) rfl, (HA.out.new hbs).cell (j := 1) rfl, (HB.out.new hbs).cell (j := 0) rfl, (HB.out.new hbs).cell (j := 1) rfl⟩ (fun hS => ?_)
            clear hK K
            refine wpAnyH_take (i := 10) (v := ?_) rfl (by kernel_rfl) (by kernel_rfl) (by kernel_rfl) (fun _ _ _ h => h) (Or.inl ⟨by rfl, ?_⟩) hS ?_; rotate_left; focus (intro w hw; clear hw; go_simp; try with_reducible rfl)
            refine wpAnyH_done (by kernel_rfl) ?_ _
            go_wp2_with fail
            go_meet
            exact ⟨_, _, _, rfl, rfl, HTT.out, hbs⟩
        · skip
          go_simp
          have hba : Below w2.heap.size w2 (wc0.alloc (.cells #[.int .i64 0, .slice none 0 0] 36)) := bo_alloc hbt0 _
          have hea : RowIs (wc0.alloc (.cells #[.int .i64 0, .slice none 0 0] 36)) wc0.heap.size 36 [.int .i64 0, .slice none 0 0] := rowIs_new wc0 36 [.int .i64 0, .slice none 0 0]
          have hag : w2.heap.size ≤ wc0.heap.size := hbt0.size
          replace HRD := hide (HRD.out.new (bo_alloc (Below.refl wc0.heap.size wc0) (.cells #[.int .i64 0, .slice none 0 0] 36)))
          refine hK.out _ _ ⟨(HA.out.new hba).cell (j := 0) rfl, (HA.out.new hba).cell (j := 1) rfl, (HB.out.new hba).cell (j := 0) rfl, (HB.out.new hba).cell (j := 1) rfl⟩ (fun hS => ?_)
          clear hK K
          have hal := hea.lt
          generalize wc0.alloc (.cells #[.int .i64 0, .slice none 0 0] 36) = wa at *
          refine wpAnyH_ready (rs := [3]) (by kernel_rfl) (by simp) ?_
          refine AllReadyH.cons rfl (fun K hK => ?_) AllReadyH.nil
          go_simp
          refine (toField1 f _).mono ?_; rintro x wc1 ⟨rfl, hbt⟩
          replace HRD := hide (HRD.out.new hbt)
          have hbt1 := hba.trans (hbt.mono hba.size)
          have hz1 := hba.size
          have hy1 := hbt.size
          replace hea := hea.new hbt
          refine hK.out _ _ ⟨(HA.out.new hbt1).cell (j := 0) rfl, (HA.out.new hbt1).cell (j := 1) rfl, (HB.out.new hbt1).cell (j := 0) rfl, (HB.out.new hbt1).cell (j := 1) rfl⟩ (fun hS => ?_)
          clear hK K
          clear hbt
          refine wpAnyH_ready (rs := [4]) (by kernel_rfl) (by simp) ?_
          refine AllReadyH.cons rfl (fun K hK => ?_) AllReadyH.nil
          go_simp
          have hc := specNoted L room (.slice at1 L.length pt1) f _ HRD.out HF.out hff
          rw [← HD.out] at hc
          dsimp only at hc
          refine hc.mono ?_; rintro x wc2 ⟨vz, rfl, hoz, hbt⟩
          clear hc
          obtain ⟨az, pz, rfl, _⟩ := owns_form hoz
          have HZ := hide hoz
          clear hoz
          have hbt2 := hbt1.trans (hbt.mono hbt1.size)
          have hz2 := hbt1.size
          have hy2 := hbt.size
          replace hea := hea.new hbt
          refine hK.out _ _ ⟨(HA.out.new hbt2).cell (j := 0) rfl, (HA.out.new hbt2).cell (j := 1) rfl, (HB.out.new hbt2).cell (j := 0) rfl, (HB.out.new hbt2).cell (j := 1) rfl⟩ (fun hS => ?_)
          clear hK K
          clear hbt
          refine wpAnyH_take (i := 5) (v := ?_) rfl (by kernel_rfl) (by kernel_rfl) (by kernel_rfl) (fun _ _ _ h => h) (Or.inl ⟨by rfl, ?_⟩) hS ?_; rotate_left; focus (intro w hw; clear hw; go_simp; try with_reducible rfl)
          refine wpAnyH_take (i := 6) (v := ?_) rfl (by kernel_rfl) (by kernel_rfl) (by kernel_rfl) (fun _ _ _ h => h) (Or.inl ⟨by rfl, ?_⟩) hS ?_; rotate_left; focus (intro w hw; clear hw; go_simp; try with_reducible rfl)
          refine wpAnyH_take (i := 7) (v := ?_) rfl (by kernel_rfl) (by kernel_rfl) (by kernel_rfl) (fun _ _ _ h => h) (Or.inl ⟨by rfl, ?_⟩) hS ?_; rotate_left; focus (intro w hw; clear hw; go_simp; try with_reducible rfl)
          have hbz := hbt2
          have hez := hea
          have haz : (Value.slice az dL.length pz).ownBlock ≠ some wc0.heap.size := fun hq => by have := (HZ.out.lt _ hq).1; omega
          have e0 := hez.cell (j := 0) rfl
          have e1 := hez.cell (j := 1) rfl
          have e2 := hez.frozen 0
          have e3 := hez.frozen 1
          refine wpAnyH_ready (rs := [9]) (by kernel_rfl) (by simp) ?_; refine AllReadyH.cons rfl (fun K hK => ?_) AllReadyH.nil; go_simp
          have HTT := hide (tabX_set (room := dr) hez (owns_base HZ.out (base' := w2.heap.size) (fun q hq => by have := (HZ.out.lt q hq).1; omega)) haz (by omega))
          have hbs := (hbz.setCell (p := ⟨wc0.heap.size, 0, none⟩) (show w2.heap.size ≤ wc0.heap.size by omega) (.int .i64 dr)).setCell (p := ⟨wc0.heap.size, 1, none⟩) (show w2.heap.size ≤ wc0.heap.size by omega) (.slice az dL.length pz)
          refine hK.out _ _ ⟨(HA.out.new hbs).cell (j := 0) rfl, (HA.out.new hbs).cell (j := 1) rfl, (HB.out.new hbs).cell (j := 0) rfl, (HB.out.new hbs).cell (j := 1) rfl⟩ (fun hS => ?_)
          clear hK K
          refine wpAnyH_take (i := 10) (v := ?_) rfl (by kernel_rfl) (by kernel_rfl) (by kernel_rfl) (fun _ _ _ h => h) (Or.inl ⟨by rfl, ?_⟩) hS ?_; rotate_left; focus (intro w hw; clear hw; go_simp; try with_reducible rfl)
          refine wpAnyH_done (by kernel_rfl) ?_ _
          go_wp2_with fail
          go_meet
          exact ⟨_, _, _, rfl, rfl, HTT.out, hbs⟩
      · skip
        go_simp
        have hba : Below w2.heap.size w2 (World.drew (w2.alloc (.cells #[.int .i64 0, .slice none 0 0] 36))) := bo_alloc hbd _
        have hea : RowIs (World.drew (w2.alloc (.cells #[.int .i64 0, .slice none 0 0] 36))) w2.heap.size 36 [.int .i64 0, .slice none 0 0] := rowIs_new (World.drew w2) 36 [.int .i64 0, .slice none 0 0]
        have hag : w2.heap.size ≤ w2.heap.size := hbd.size
        refine hK.out _ _ ⟨(HA.out.new hba).cell (j := 0) rfl, (HA.out.new hba).cell (j := 1) rfl, (HB.out.new hba).cell (j := 0) rfl, (HB.out.new hba).cell (j := 1) rfl⟩ (fun hS => ?_)
        clear hK K
        have hal := hea.lt
        generalize World.drew (w2.alloc (.cells #[.int .i64 0, .slice none 0 0] 36)) = wa at *
        refine wpAnyH_ready (rs := [1]) (by kernel_rfl) (by simp) ?_
        refine AllReadyH.cons rfl (fun K hK => ?_) AllReadyH.nil
        go_simp
        refine (toTable1 L room _ _ (HR.out.new (HBW.out.trans (hba.mono HBW.out.size))) hLl).mono ?_; rintro x wc0 ⟨vt, rfl, hot, hbt⟩
        obtain ⟨at1, pt1, rfl, _⟩ := owns_form hot
        have HRD := hide (reads_of_owns hot)
        clear hot
        have hbt0 := hba.trans (hbt.mono hba.size)
        have hz0 := hba.size
        have hy0 := hbt.size
        replace hea := hea.new hbt
        refine hK.out _ _ ⟨(HA.out.new hbt0).cell (j := 0) rfl, (HA.out.new hbt0).cell (j := 1) rfl, (HB.out.new hbt0).cell (j := 0) rfl, (HB.out.new hbt0).cell (j := 1) rfl⟩ (fun hS => ?_)
        clear hK K
        clear hbt
        refine wpAnyH_ready (rs := [3]) (by kernel_rfl) (by simp) ?_
        refine AllReadyH.cons rfl (fun K hK => ?_) AllReadyH.nil
        go_simp
        refine (toField1 f _).mono ?_; rintro x wc1 ⟨rfl, hbt⟩
        replace HRD := hide (HRD.out.new hbt)
        have hbt1 := hbt0.trans (hbt.mono hbt0.size)
        have hz1 := hbt0.size
        have hy1 := hbt.size
        replace hea := hea.new hbt
        refine hK.out _ _ ⟨(HA.out.new hbt1).cell (j := 0) rfl, (HA.out.new hbt1).cell (j := 1) rfl, (HB.out.new hbt1).cell (j := 0) rfl, (HB.out.new hbt1).cell (j := 1) rfl⟩ (fun hS => ?_)
        clear hK K
        clear hbt
        refine wpAnyH_ready (rs := [4]) (by kernel_rfl) (by simp) ?_
        refine AllReadyH.cons rfl (fun K hK => ?_) AllReadyH.nil
        go_simp
        have hc := specNoted L room (.slice at1 L.length pt1) f _ HRD.out HF.out hff
        rw [← HD.out] at hc
        dsimp only at hc
        refine hc.mono ?_; rintro x wc2 ⟨vz, rfl, hoz, hbt⟩
        clear hc
        obtain ⟨az, pz, rfl, _⟩ := owns_form hoz
        have HZ := hide hoz
        clear hoz
        have hbt2 := hbt1.trans (hbt.mono hbt1.size)
        have hz2 := hbt1.size
        have hy2 := hbt.size
        replace hea := hea.new hbt
        refine hK.out _ _ ⟨(HA.out.new hbt2).cell (j := 0) rfl, (HA.out.new hbt2).cell (j := 1) rfl, (HB.out.new hbt2).cell (j := 0) rfl, (HB.out.new hbt2).cell (j := 1) rfl⟩ (fun hS => ?_)
        clear hK K
        clear hbt
        refine wpAnyH_take (i := 5) (v := ?_) rfl (by kernel_rfl) (by kernel_rfl) (by kernel_rfl) (fun _ _ _ h => h) (Or.inl ⟨by rfl, ?_⟩) hS ?_; rotate_left; focus (intro w hw; clear hw; go_simp; try with_reducible rfl)
        refine wpAnyH_take (i := 6) (v := ?_) rfl (by kernel_rfl) (by kernel_rfl) (by kernel_rfl) (fun _ _ _ h => h) (Or.inl ⟨by rfl, ?_⟩) hS ?_; rotate_left; focus (intro w hw; clear hw; go_simp; try with_reducible rfl)
        refine wpAnyH_take (i := 7) (v := ?_) rfl (by kernel_rfl) (by kernel_rfl) (by kernel_rfl) (fun _ _ _ h => h) (Or.inl ⟨by rfl, ?_⟩) hS ?_; rotate_left; focus (intro w hw; clear hw; go_simp; try with_reducible rfl)
        have hbz := hbt2
        have hez := hea
        have haz : (Value.slice az dL.length pz).ownBlock ≠ some w2.heap.size := fun hq => by have := (HZ.out.lt _ hq).1; omega
        have e0 := hez.cell (j := 0) rfl
        have e1 := hez.cell (j := 1) rfl
        have e2 := hez.frozen 0
        have e3 := hez.frozen 1
        refine wpAnyH_ready (rs := [9]) (by kernel_rfl) (by simp) ?_; refine AllReadyH.cons rfl (fun K hK => ?_) AllReadyH.nil; go_simp
        have HTT := hide (tabX_set (room := dr) hez (owns_base HZ.out (base' := w2.heap.size) (fun q hq => by have := (HZ.out.lt q hq).1; omega)) haz (by omega))
        have hbs := (hbz.setCell (p := ⟨w2.heap.size, 0, none⟩) (show w2.heap.size ≤ w2.heap.size by omega) (.int .i64 dr)).setCell (p := ⟨w2.heap.size, 1, none⟩) (show w2.heap.size ≤ w2.heap.size by omega) (.slice az dL.length pz)
        refine hK.out _ _ ⟨(HA.out.new hbs).cell (j := 0) rfl, (HA.out.new hbs).cell (j := 1) rfl, (HB.out.new hbs).cell (j := 0) rfl, (HB.out.new hbs).cell (j := 1) rfl⟩ (fun hS => ?_)
        clear hK K
        refine wpAnyH_take (i := 10) (v := ?_) rfl (by kernel_rfl) (by kernel_rfl) (by kernel_rfl) (fun _ _ _ h => h) (Or.inl ⟨by rfl, ?_⟩) hS ?_; rotate_left; focus (intro w hw; clear hw; go_simp; try with_reducible rfl)
        refine wpAnyH_done (by kernel_rfl) ?_ _
        go_wp2_with fail
        go_meet
        exact ⟨_, _, _, rfl, rfl, HTT.out, hbs⟩
  obtain ⟨g6, a6, p6, rfl, rfl, t6, hb6⟩ := hcut
  generalize wc = w60 at *
  have T6 := hide t6
  have glo6 := t6.glo
  have ghi6 := t6.ghi
  clear t6
  replace HA := hide (HA.out.new hb6)
  replace HB := hide (HB.out.new hb6)
  replace HBW := hide (bchain HBW.out hb6)
  have zhb6 := hb6.size
  clear hb6
  have x0 := HA.out.cell (j := 0) rfl
  have x1 := HA.out.cell (j := 1) rfl
  go_wp2_with fail
  refine (toTable1 L room _ _ (HR.out.new HBW.out) hLl).mono ?_
  rintro x w8 ⟨vt, rfl, hoz, hb81⟩
  obtain ⟨a8, p8, rfl, _⟩ := owns_form hoz
  clear x0 x1
  replace HA := hide (HA.out.new hb81)
  replace HB := hide (HB.out.new hb81)
  replace T6 := hide (T6.out.new hb81)
  replace HBW := hide (bchain HBW.out hb81)
  have zhb81 := hb81.size
  clear hb81
  have t8 := tabX_new (room := room) (p := p8) hoz (by omega)
  clear hoz
  have hb8 : Below w8.heap.size w8 (w8.alloc (.cells #[.int .i64 room, .slice a8 L.length p8] 36)) := (Below.refl _ _).alloc (Nat.le_refl _) _
  go_upto_region 10 with fail
  generalize w8.alloc (.cells #[.int .i64 room, .slice a8 L.length p8] 36) = w80 at *
  have T8 := hide t8
  have glo8 := t8.glo
  have ghi8 := t8.ghi
  clear t8
  replace HA := hide (HA.out.new hb8)
  replace HB := hide (HB.out.new hb8)
  replace T6 := hide (T6.out.new hb8)
  replace HBW := hide (bchain HBW.out hb8)
  have zhb8 := hb8.size
  clear hb8
  generalize w8.heap.size = g8 at *
  go_upto_region 10 with fail
  go_cut [9, 10] (fun p b wx => ∃ q a c, p = .pointer (some ⟨q, 0, none⟩) ∧ b = .bool db ∧ TabX wx w80.heap.size wx.heap.size q a c dr dL ∧ Below w80.heap.size w80 wx)
  case first =>
    as_aux_lemma =>
      have x0 := T8.out.row.cell (j := 0) rfl
      have x1 := T8.out.row.cell (j := 1) rfl
      have y0 := HB.out.cell (j := 0) rfl
      have y1 := HB.out.cell (j := 1) rfl
      have hS0 := And.intro x0 (And.intro x1 (And.intro y0 y1))
      refine wp_region_held_drew (S := (fun u => u.cell? ⟨g8, 0, none⟩ = some (.int .i64 room) ∧ u.cell? ⟨g8, 1, none⟩ = some (.slice a8 L.length p8) ∧ u.cell? ⟨w.heap.size + 1, 0, none⟩ = some (.string f.n) ∧ u.cell? ⟨w.heap.size + 1, 1, none⟩ = some (.string f.v))) (by kernel_rfl) hS0 (fun hS => ?_)
      clear x0 x1 y0 y1 hS0
      refine wpAnyH_take (i := 0) (v := ?_) rfl (by kernel_rfl) (by kernel_rfl) (by kernel_rfl) (fun _ _ _ h => h) (Or.inl ⟨by rfl, ?_⟩) hS ?_; rotate_left; focus (intro w hw; obtain ⟨l0, l1, l2, l3⟩ := hw; go_simp; try with_reducible rfl)
      refine wpAnyH_take (i := 1) (v := ?_) rfl (by kernel_rfl) (by kernel_rfl) (by kernel_rfl) (fun _ _ _ h => h) (Or.inl ⟨by rfl, ?_⟩) hS ?_; rotate_left; focus (intro w hw; obtain ⟨l0, l1, l2, l3⟩ := hw; go_simp; try with_reducible rfl)
      have hbd : Below w80.heap.size w80 (World.drew w80) := (Below.refl _ _).drew
      refine wpAnyH_ready (rs := [2, 7]) (by kernel_rfl) (by simp) ?_
      refine AllReadyH.cons rfl (fun K hK => ?_) (AllReadyH.cons rfl (fun K hK => ?_) AllReadyH.nil)
      · skip
        go_simp
        refine (toField1 f _).mono ?_; rintro x wc0 ⟨rfl, hbt⟩
        have hbt0 := hbd.trans (hbt.mono hbd.size)
        have hz0 := hbd.size
        have hy0 := hbt.size
        refine hK.out _ _ ⟨(T8.out.row.new hbt0).cell (j := 0) rfl, (T8.out.row.new hbt0).cell (j := 1) rfl, (HB.out.new hbt0).cell (j := 0) rfl, (HB.out.new hbt0).cell (j := 1) rfl⟩ (fun hS => ?_)
        clear hK K
        clear hbt
        refine wpAnyH_ready (rs := [3, 7]) (by kernel_rfl) (by simp) ?_
        refine AllReadyH.cons rfl (fun K hK => ?_) (AllReadyH.cons rfl (fun K hK => ?_) AllReadyH.nil)
        · skip
          go_simp
          have hc := implNoted L room (.slice a8 L.length p8) f _ (T8.out.new hbt0).read HF.out hff
          rw [← HD.out] at hc
          dsimp only at hc
          refine hc.mono ?_; rintro x wc1 ⟨vz, rfl, hoz, hbt⟩
          clear hc
          obtain ⟨az, pz, rfl, _⟩ := owns_form hoz
          have HZ := hide hoz
          clear hoz
          have hbt1 := hbt0.trans (hbt.mono hbt0.size)
          have hz1 := hbt0.size
          have hy1 := hbt.size
          refine hK.out _ _ ⟨(T8.out.row.new hbt1).cell (j := 0) rfl, (T8.out.row.new hbt1).cell (j := 1) rfl, (HB.out.new hbt1).cell (j := 0) rfl, (HB.out.new hbt1).cell (j := 1) rfl⟩ (fun hS => ?_)
          clear hK K
          clear hbt
          refine wpAnyH_take (i := 4) (v := ?_) rfl (by kernel_rfl) (by kernel_rfl) (by kernel_rfl) (fun _ _ _ h => h) (Or.inl ⟨by rfl, ?_⟩) hS ?_; rotate_left; focus (intro w hw; clear hw; go_simp; try with_reducible rfl)
          refine wpAnyH_take (i := 5) (v := ?_) rfl (by kernel_rfl) (by kernel_rfl) (by kernel_rfl) (fun _ _ _ h => h) (Or.inl ⟨by rfl, ?_⟩) hS ?_; rotate_left; focus (intro w hw; clear hw; go_simp; try with_reducible rfl)
          refine wpAnyH_take (i := 6) (v := ?_) rfl (by kernel_rfl) (by kernel_rfl) (by kernel_rfl) (fun _ _ _ h => h) (Or.inl ⟨by rfl, ?_⟩) hS ?_; rotate_left; focus (intro w hw; clear hw; go_simp; try with_reducible rfl)
          refine wpAnyH_ready (rs := [7]) (by kernel_rfl) (by simp) ?_; refine AllReadyH.cons rfl (fun K hK => ?_) AllReadyH.nil; go_simp
          have hbz : Below w80.heap.size w80 (wc1.alloc (.cells #[.int .i64 0, .slice none 0 0] 36)) := bo_alloc hbt1 _
          have hez : RowIs (wc1.alloc (.cells #[.int .i64 0, .slice none 0 0] 36)) wc1.heap.size 36 [.int .i64 0, .slice none 0 0] := rowIs_new wc1 36 [.int .i64 0, .slice none 0 0]
          have hzg : w80.heap.size ≤ wc1.heap.size := hbt1.size
          have haz : (Value.slice az dL.length pz).ownBlock ≠ some wc1.heap.size := fun hq => by have := (HZ.out.lt _ hq).2; omega
          replace HZ := hide (owns_new HZ.out (bo_alloc (Below.refl wc1.heap.size wc1) (.cells #[.int .i64 0, .slice none 0 0] 36)))
          refine hK.out _ _ ⟨(T8.out.row.new hbz).cell (j := 0) rfl, (T8.out.row.new hbz).cell (j := 1) rfl, (HB.out.new hbz).cell (j := 0) rfl, (HB.out.new hbz).cell (j := 1) rfl⟩ (fun hS => ?_)
          clear hK K
          generalize wc1.alloc (.cells #[.int .i64 0, .slice none 0 0] 36) = wz at *
          have e0 := hez.cell (j := 0) rfl
          have e1 := hez.cell (j := 1) rfl
          have e2 := hez.frozen 0
          have e3 := hez.frozen 1
          refine wpAnyH_ready (rs := [8]) (by kernel_rfl) (by simp) ?_; refine AllReadyH.cons rfl (fun K hK => ?_) AllReadyH.nil; go_simp
          have HTT := hide (tabX_set (room := dr) hez (owns_base HZ.out (base' := w80.heap.size) (fun q hq => by have := (HZ.out.lt q hq).1; omega)) haz (by omega))
          have hbs := (hbz.setCell (p := ⟨wc1.heap.size, 0, none⟩) (show w80.heap.size ≤ wc1.heap.size by omega) (.int .i64 dr)).setCell (p := ⟨wc1.heap.size, 1, none⟩) (show w80.heap.size ≤ wc1.heap.size by omega) (.slice az dL.length pz)
          refine hK.out _ _ ⟨(T8.out.row.new hbs).cell (j := 0) rfl, (T8.out.row.new hbs).cell (j := 1) rfl, (HB.out.new hbs).cell (j := 0) rfl, (HB.out.new hbs).cell (j := 1) rfl⟩ (fun hS => ?_)
          clear hK K
          refine wpAnyH_take (i := 9) (v := ?_) rfl (by kernel_rfl) (by kernel_rfl) (by kernel_rfl) (fun _ _ _ h => h) (Or.inl ⟨by rfl, ?_⟩) hS ?_; rotate_left; focus (intro w hw; clear hw; go_simp; try with_reducible rfl)
          refine wpAnyH_done (by kernel_rfl) ?_ _
          go_wp2_with fail
          go_meet
          exact ⟨_, _, _, rfl, rfl, HTT.out, hbs⟩
        · skip
          go_simp
          have hba : Below w80.heap.size w80 (wc0.alloc (.cells #[.int .i64 0, .slice none 0 0] 36)) := bo_alloc hbt0 _
          have hea : RowIs (wc0.alloc (.cells #[.int .i64 0, .slice none 0 0] 36)) wc0.heap.size 36 [.int .i64 0, .slice none 0 0] := rowIs_new wc0 36 [.int .i64 0, .slice none 0 0]
          have hag : w80.heap.size ≤ wc0.heap.size := hbt0.size
          refine hK.out _ _ ⟨(T8.out.row.new hba).cell (j := 0) rfl, (T8.out.row.new hba).cell (j := 1) rfl, (HB.out.new hba).cell (j := 0) rfl, (HB.out.new hba).cell (j := 1) rfl⟩ (fun hS => ?_)
          clear hK K
          have hal := hea.lt
          generalize wc0.alloc (.cells #[.int .i64 0, .slice none 0 0] 36) = wa at *
          refine wpAnyH_ready (rs := [3]) (by kernel_rfl) (by simp) ?_
          refine AllReadyH.cons rfl (fun K hK => ?_) AllReadyH.nil
          go_simp
          have hc := implNoted L room (.slice a8 L.length p8) f _ (T8.out.new hba).read HF.out hff
          rw [← HD.out] at hc
          dsimp only at hc
          refine hc.mono ?_; rintro x wc1 ⟨vz, rfl, hoz, hbt⟩
          clear hc
          obtain ⟨az, pz, rfl, _⟩ := owns_form hoz
          have HZ := hide hoz
          clear hoz
          have hbt1 := hba.trans (hbt.mono hba.size)
          have hz1 := hba.size
          have hy1 := hbt.size
          replace hea := hea.new hbt
          refine hK.out _ _ ⟨(T8.out.row.new hbt1).cell (j := 0) rfl, (T8.out.row.new hbt1).cell (j := 1) rfl, (HB.out.new hbt1).cell (j := 0) rfl, (HB.out.new hbt1).cell (j := 1) rfl⟩ (fun hS => ?_)
          clear hK K
          clear hbt
          refine wpAnyH_take (i := 4) (v := ?_) rfl (by kernel_rfl) (by kernel_rfl) (by kernel_rfl) (fun _ _ _ h => h) (Or.inl ⟨by rfl, ?_⟩) hS ?_; rotate_left; focus (intro w hw; clear hw; go_simp; try with_reducible rfl)
          refine wpAnyH_take (i := 5) (v := ?_) rfl (by kernel_rfl) (by kernel_rfl) (by kernel_rfl) (fun _ _ _ h => h) (Or.inl ⟨by rfl, ?_⟩) hS ?_; rotate_left; focus (intro w hw; clear hw; go_simp; try with_reducible rfl)
          refine wpAnyH_take (i := 6) (v := ?_) rfl (by kernel_rfl) (by kernel_rfl) (by kernel_rfl) (fun _ _ _ h => h) (Or.inl ⟨by rfl, ?_⟩) hS ?_; rotate_left; focus (intro w hw; clear hw; go_simp; try with_reducible rfl)
          have hbz := hbt1
          have hez := hea
          have haz : (Value.slice az dL.length pz).ownBlock ≠ some wc0.heap.size := fun hq => by have := (HZ.out.lt _ hq).1; omega
          have e0 := hez.cell (j := 0) rfl
          have e1 := hez.cell (j := 1) rfl
          have e2 := hez.frozen 0
          have e3 := hez.frozen 1
          refine wpAnyH_ready (rs := [8]) (by kernel_rfl) (by simp) ?_; refine AllReadyH.cons rfl (fun K hK => ?_) AllReadyH.nil; go_simp
          have HTT := hide (tabX_set (room := dr) hez (owns_base HZ.out (base' := w80.heap.size) (fun q hq => by have := (HZ.out.lt q hq).1; omega)) haz (by omega))
          have hbs := (hbz.setCell (p := ⟨wc0.heap.size, 0, none⟩) (show w80.heap.size ≤ wc0.heap.size by omega) (.int .i64 dr)).setCell (p := ⟨wc0.heap.size, 1, none⟩) (show w80.heap.size ≤ wc0.heap.size by omega) (.slice az dL.length pz)
          refine hK.out _ _ ⟨(T8.out.row.new hbs).cell (j := 0) rfl, (T8.out.row.new hbs).cell (j := 1) rfl, (HB.out.new hbs).cell (j := 0) rfl, (HB.out.new hbs).cell (j := 1) rfl⟩ (fun hS => ?_)
          clear hK K
          refine wpAnyH_take (i := 9) (v := ?_) rfl (by kernel_rfl) (by kernel_rfl) (by kernel_rfl) (fun _ _ _ h => h) (Or.inl ⟨by rfl, ?_⟩) hS ?_; rotate_left; focus (intro w hw; clear hw; go_simp; try with_reducible rfl)
          refine wpAnyH_done (by kernel_rfl) ?_ _
          go_wp2_with fail
          go_meet
          exact ⟨_, _, _, rfl, rfl, HTT.out, hbs⟩
      · skip
        go_simp
        have hba : Below w80.heap.size w80 (World.drew (w80.alloc (.cells #[.int .i64 0, .slice none 0 0] 36))) := bo_alloc hbd _
        have hea : RowIs (World.drew (w80.alloc (.cells #[.int .i64 0, .slice none 0 0] 36))) w80.heap.size 36 [.int .i64 0, .slice none 0 0] := rowIs_new (World.drew w80) 36 [.int .i64 0, .slice none 0 0]
        have hag : w80.heap.size ≤ w80.heap.size := hbd.size
        refine hK.out _ _ ⟨(T8.out.row.new hba).cell (j := 0) rfl, (T8.out.row.new hba).cell (j := 1) rfl, (HB.out.new hba).cell (j := 0) rfl, (HB.out.new hba).cell (j := 1) rfl⟩ (fun hS => ?_)
        clear hK K
        have hal := hea.lt
        generalize World.drew (w80.alloc (.cells #[.int .i64 0, .slice none 0 0] 36)) = wa at *
        refine wpAnyH_ready (rs := [2]) (by kernel_rfl) (by simp) ?_
        refine AllReadyH.cons rfl (fun K hK => ?_) AllReadyH.nil
        go_simp
        refine (toField1 f _).mono ?_; rintro x wc0 ⟨rfl, hbt⟩
        have hbt0 := hba.trans (hbt.mono hba.size)
        have hz0 := hba.size
        have hy0 := hbt.size
        replace hea := hea.new hbt
        refine hK.out _ _ ⟨(T8.out.row.new hbt0).cell (j := 0) rfl, (T8.out.row.new hbt0).cell (j := 1) rfl, (HB.out.new hbt0).cell (j := 0) rfl, (HB.out.new hbt0).cell (j := 1) rfl⟩ (fun hS => ?_)
        clear hK K
        clear hbt
        refine wpAnyH_ready (rs := [3]) (by kernel_rfl) (by simp) ?_
        refine AllReadyH.cons rfl (fun K hK => ?_) AllReadyH.nil
        go_simp
        have hc := implNoted L room (.slice a8 L.length p8) f _ (T8.out.new hbt0).read HF.out hff
        rw [← HD.out] at hc
        dsimp only at hc
        refine hc.mono ?_; rintro x wc1 ⟨vz, rfl, hoz, hbt⟩
        clear hc
        obtain ⟨az, pz, rfl, _⟩ := owns_form hoz
        have HZ := hide hoz
        clear hoz
        have hbt1 := hbt0.trans (hbt.mono hbt0.size)
        have hz1 := hbt0.size
        have hy1 := hbt.size
        replace hea := hea.new hbt
        refine hK.out _ _ ⟨(T8.out.row.new hbt1).cell (j := 0) rfl, (T8.out.row.new hbt1).cell (j := 1) rfl, (HB.out.new hbt1).cell (j := 0) rfl, (HB.out.new hbt1).cell (j := 1) rfl⟩ (fun hS => ?_)
        clear hK K
        clear hbt
        refine wpAnyH_take (i := 4) (v := ?_) rfl (by kernel_rfl) (by kernel_rfl) (by kernel_rfl) (fun _ _ _ h => h) (Or.inl ⟨by rfl, ?_⟩) hS ?_; rotate_left; focus (intro w hw; clear hw; go_simp; try with_reducible rfl)
        refine wpAnyH_take (i := 5) (v := ?_) rfl (by kernel_rfl) (by kernel_rfl) (by kernel_rfl) (fun _ _ _ h => h) (Or.inl ⟨by rfl, ?_⟩) hS ?_; rotate_left; focus (intro w hw; clear hw; go_simp; try with_reducible rfl)
        refine wpAnyH_take (i := 6) (v := ?_) rfl (by kernel_rfl) (by kernel_rfl) (by kernel_rfl) (fun _ _ _ h => h) (Or.inl ⟨by rfl, ?_⟩) hS ?_; rotate_left; focus (intro w hw; clear hw; go_simp; try with_reducible rfl)
        have hbz := hbt1
        have hez := hea
        have haz : (Value.slice az dL.length pz).ownBlock ≠ some w80.heap.size := fun hq => by have := (HZ.out.lt _ hq).1; omega
        have e0 := hez.cell (j := 0) rfl
        have e1 := hez.cell (j := 1) rfl
        have e2 := hez.frozen 0
        have e3 := hez.frozen 1
        refine wpAnyH_ready (rs := [8]) (by kernel_rfl) (by simp) ?_; refine AllReadyH.cons rfl (fun K hK => ?_) AllReadyH.nil; go_simp
        have HTT := hide (tabX_set (room := dr) hez (owns_base HZ.out (base' := w80.heap.size) (fun q hq => by have := (HZ.out.lt q hq).1; omega)) haz (by omega))
        have hbs := (hbz.setCell (p := ⟨w80.heap.size, 0, none⟩) (show w80.heap.size ≤ w80.heap.size by omega) (.int .i64 dr)).setCell (p := ⟨w80.heap.size, 1, none⟩) (show w80.heap.size ≤ w80.heap.size by omega) (.slice az dL.length pz)
        refine hK.out _ _ ⟨(T8.out.row.new hbs).cell (j := 0) rfl, (T8.out.row.new hbs).cell (j := 1) rfl, (HB.out.new hbs).cell (j := 0) rfl, (HB.out.new hbs).cell (j := 1) rfl⟩ (fun hS => ?_)
        clear hK K
        refine wpAnyH_take (i := 9) (v := ?_) rfl (by kernel_rfl) (by kernel_rfl) (by kernel_rfl) (fun _ _ _ h => h) (Or.inl ⟨by rfl, ?_⟩) hS ?_; rotate_left; focus (intro w hw; clear hw; go_simp; try with_reducible rfl)
        refine wpAnyH_done (by kernel_rfl) ?_ _
        go_wp2_with fail
        go_meet
        exact ⟨_, _, _, rfl, rfl, HTT.out, hbs⟩
  obtain ⟨g9, a9, p9, rfl, rfl, t9, hb9⟩ := hcut
  generalize wc = w90 at *
  have T9 := hide t9
  have glo9 := t9.glo
  have ghi9 := t9.ghi
  clear t9
  replace HA := hide (HA.out.new hb9)
  replace HB := hide (HB.out.new hb9)
  replace T6 := hide (T6.out.new hb9)
  replace T8 := hide (T8.out.new hb9)
  replace HBW := hide (bchain HBW.out hb9)
  have zhb9 := hb9.size
  clear hb9
  have t0 := T9.out.row.cell (j := 0) rfl
  have t1 := T9.out.row.cell (j := 1) rfl
  have s0 := T6.out.row.cell (j := 0) rfl
  have s1 := T6.out.row.cell (j := 1) rfl
  go_wp2_with fail
  refine (eqTable1 dL dr _ _ _ T9.out.read T6.out.read).mono ?_; rintro x w10 ⟨rfl, hb10⟩
  clear t0 t1 s0 s1
  replace HA := hide (HA.out.new hb10)
  replace HB := hide (HB.out.new hb10)
  replace T6 := hide (T6.out.new hb10)
  replace T8 := hide (T8.out.new hb10)
  replace T9 := hide (T9.out.new hb10)
  replace HBW := hide (bchain HBW.out hb10)
  have zhb10 := hb10.size
  clear hb10
  go_upto_region 13 with fail
  have t0 := T8.out.row.cell (j := 0) rfl
  have t1 := T8.out.row.cell (j := 1) rfl
  have x0 := HA.out.cell (j := 0) rfl
  have x1 := HA.out.cell (j := 1) rfl
  have hgA := HA.out.lt
  have hg8 := T8.out.row.lt
  go_region_held3 (fun w' => w'.cell? ⟨g8, 0, none⟩ = some (.int .i64 room) ∧ w'.cell? ⟨g8, 1, none⟩ = some (.slice a8 L.length p8) ∧ w'.cell? ⟨w.heap.size, 0, none⟩ = some (.int .i64 room) ∧ w'.cell? ⟨w.heap.size, 1, none⟩ = some (.slice ad L.length cap)) (first | go_keep | (simp [*, go_sem]; done))
    (first
      | (go_at_call 13; refine (toTable1 L room _ _ (HR.out.new (bo_drewN _ HBW.out)) hLl).mono ?_; rintro x w11 ⟨v11, rfl, ho11, hb11⟩; obtain ⟨a11, p11, rfl, _⟩ := owns_form ho11; have HO11 := hide (reads_of_owns ho11); clear ho11; have hz11 := hb11.size; (try simp at hz11); have k0 := fun o => hb11.cell (p := ⟨w.heap.size, o, none⟩) (by first | (simp; done) | (simp; omega) | omega); have k1 := fun o => hb11.cell (p := ⟨g8, o, none⟩) (by first | (simp; done) | (simp; omega) | omega))
      | (go_at_call 15; refine (eqTable1 L room _ _ _ (T8.out.read.new (bchain (bo_drewN _ (Below.refl _ _)) hb11)) HO11.out).mono ?_; rintro x w12 ⟨rfl, hb12⟩; have hz12 := hb12.size; (try simp at hz12); have k2 := fun o => hb12.cell (p := ⟨w.heap.size, o, none⟩) (by first | (simp; done) | (simp; omega) | omega); have k3 := fun o => hb12.cell (p := ⟨g8, o, none⟩) (by first | (simp; done) | (simp; omega) | omega)))
  have hbq : Below w10.heap.size w10 w12 := bchain (bchain (bo_drewN _ (Below.refl _ _)) hb11) hb12
  clear k0 k1 k2 k3 hb11 hb12 HO11 hgA hg8
  clear t0 t1 x0 x1
  replace HA := hide (HA.out.new hbq)
  replace HB := hide (HB.out.new hbq)
  replace T6 := hide (T6.out.new hbq)
  replace T8 := hide (T8.out.new hbq)
  replace T9 := hide (T9.out.new hbq)
  replace HBW := hide (bchain HBW.out hbq)
  have zhbq := hbq.size
  clear hbq
  have t0 := T8.out.row.cell (j := 0) rfl
  have t1 := T8.out.row.cell (j := 1) rfl
  go_wp2_with fail
  clear t0 t1
  refine (markTable1 L.length 1 room _ _ _ _ T8.out.own (by omega)).mono ?_; rintro x w13 ⟨rfl, hm13, hg13⟩
  have ht13 := turn_grown (g := 0) (lo := w60.heap.size) (hi := w80.heap.size) hg13 (fun q hq => ⟨(T8.out.own.lt q hq).1, T8.out.up q hq⟩)
  clear hm13 hg13 T8
  replace HA := hide (HA.out.kept (ht13.block _ HA.out.lt (by omega)))
  replace HB := hide (HB.out.kept (ht13.block _ HB.out.lt (by omega)))
  replace T6 := hide (T6.out.turn ht13 (by omega))
  replace T9 := hide (T9.out.turn ht13 (by omega))
  replace HBW := hide (HBW.out.trans (ht13.below (by omega) HBW.out.size))
  have zht13 := ht13.size
  clear ht13
  obtain ⟨m8, hm8⟩ : ∃ m : Int, m = ((1 + L.length * 2 : Nat) : Int) := ⟨_, rfl⟩
  rw [← hm8]
  have hn8 : 0 ≤ m8 := by omega
  have HN8 := hide hm8
  clear hm8
  have t0 := T9.out.row.cell (j := 0) rfl
  have t1 := T9.out.row.cell (j := 1) rfl
  have s0 := T6.out.row.cell (j := 0) rfl
  have s1 := T6.out.row.cell (j := 1) rfl
  go_wp2_with fail
  refine (eqTable1 dL dr _ _ _ T9.out.read T6.out.read).mono ?_; rintro x w14 ⟨rfl, hb14⟩
  clear t0 t1 s0 s1
  replace HA := hide (HA.out.new hb14)
  replace HB := hide (HB.out.new hb14)
  replace T6 := hide (T6.out.new hb14)
  replace T9 := hide (T9.out.new hb14)
  replace HBW := hide (bchain HBW.out hb14)
  have zhb14 := hb14.size
  clear hb14
  have t0 := T9.out.row.cell (j := 0) rfl
  have t1 := T9.out.row.cell (j := 1) rfl
  go_wp2_with fail
  clear t0 t1
  refine (markTable1 dL.length 1 dr _ _ _ _ T9.out.own (by omega)).mono ?_; rintro x w15 ⟨rfl, hm15, hg15⟩
  have ht15 := turn_grown (g := 0) (lo := w80.heap.size) (hi := w90.heap.size) hg15 (fun q hq => ⟨(T9.out.own.lt q hq).1, T9.out.up q hq⟩)
  have HM := hide hm15
  have HQ := hide (T9.out.row.kept (hg15.block _ T9.out.row.lt (fun e => T9.out.ap e.symm)))
  clear hm15 hg15 T9
  replace HA := hide (HA.out.kept (ht15.block _ HA.out.lt (by omega)))
  replace HB := hide (HB.out.kept (ht15.block _ HB.out.lt (by omega)))
  replace T6 := hide (T6.out.turn ht15 (by omega))
  replace HBW := hide (HBW.out.trans (ht15.below (by omega) HBW.out.size))
  have zht15 := ht15.size
  clear ht15
  obtain ⟨m9, hm9⟩ : ∃ m : Int, m = ((1 + dL.length * 2 : Nat) : Int) := ⟨_, rfl⟩
  rw [← hm9]
  have hn9 : 0 ≤ m9 := by omega
  have HN9 := hide hm9
  clear hm9
  have t0 := HQ.out.cell (j := 0) rfl
  have t1 := HQ.out.cell (j := 1) rfl
  go_wp2_with fail
  clear t0 t1
  refine (heldTable1 dL.length 1 dr _ _ (reads_of_owns HM.out) (by omega)).mono ?_; rw [← HN9.out]; rintro x w16 ⟨rfl, hb16⟩
  replace HA := hide (HA.out.new hb16)
  replace HB := hide (HB.out.new hb16)
  replace HQ := hide (HQ.out.new hb16)
  replace T6 := hide (T6.out.new hb16)
  replace HM := hide (owns_new HM.out hb16)
  replace HBW := hide (bchain HBW.out hb16)
  have zhb16 := hb16.size
  clear hb16
  go_upto_region 27 with fail
  go_cut [14, 15] (fun p b wx => ∃ q a c, p = .pointer (some ⟨q, 0, none⟩) ∧ b = .bool db ∧ TabX wx w16.heap.size wx.heap.size q a c dr dL ∧ Below w16.heap.size w16 wx)
  case first =>
    as_aux_lemma =>
      have x0 := HA.out.cell (j := 0) rfl
      have x1 := HA.out.cell (j := 1) rfl
      have y0 := HB.out.cell (j := 0) rfl
      have y1 := HB.out.cell (j := 1) rfl
      have hS0 := And.intro x0 (And.intro x1 (And.intro y0 y1))
      refine wp_region_held_drew (S := (fun u => u.cell? ⟨w.heap.size, 0, none⟩ = some (.int .i64 room) ∧ u.cell? ⟨w.heap.size, 1, none⟩ = some (.slice ad L.length cap) ∧ u.cell? ⟨w.heap.size + 1, 0, none⟩ = some (.string f.n) ∧ u.cell? ⟨w.heap.size + 1, 1, none⟩ = some (.string f.v))) (by kernel_rfl) hS0 (fun hS => ?_)
      clear x0 x1 y0 y1 hS0
      refine wpAnyH_take (i := 0) (v := ?_) rfl (by kernel_rfl) (by kernel_rfl) (by kernel_rfl) (fun _ _ _ h => h) (Or.inl ⟨by rfl, ?_⟩) hS ?_; rotate_left; focus (intro w hw; obtain ⟨l0, l1, l2, l3⟩ := hw; go_simp; try with_reducible rfl)
      refine wpAnyH_take (i := 2) (v := ?_) rfl (by kernel_rfl) (by kernel_rfl) (by kernel_rfl) (fun _ _ _ h => h) (Or.inl ⟨by rfl, ?_⟩) hS ?_; rotate_left; focus (intro w hw; obtain ⟨l0, l1, l2, l3⟩ := hw; go_simp; try with_reducible rfl)
      have hbd : Below w16.heap.size w16 (World.drew w16) := (Below.refl _ _).drew
      refine wpAnyH_ready (rs := [1, 8]) (by kernel_rfl) (by simp) ?_
      refine AllReadyH.cons rfl (fun K hK => ?_) (AllReadyH.cons rfl (fun K hK => ?_) AllReadyH.nil)
      · skip
        go_simp
        refine (toTable1 L room _ _ (HR.out.new (HBW.out.trans (hbd.mono HBW.out.size))) hLl).mono ?_; rintro x wc0 ⟨vt, rfl, hot, hbt⟩
        obtain ⟨at1, pt1, rfl, _⟩ := owns_form hot
        have HRD := hide (reads_of_owns hot)
        clear hot
        have hbt0 := hbd.trans (hbt.mono hbd.size)
        have hz0 := hbd.size
        have hy0 := hbt.size
        refine hK.out _ _ ⟨(HA.out.new hbt0).cell (j := 0) rfl, (HA.out.new hbt0).cell (j := 1) rfl, (HB.out.new hbt0).cell (j := 0) rfl, (HB.out.new hbt0).cell (j := 1) rfl⟩ (fun hS => ?_)
        clear hK K
        clear hbt
        refine wpAnyH_ready (rs := [3, 8]) (by kernel_rfl) (by simp) ?_
        refine AllReadyH.cons rfl (fun K hK => ?_) (AllReadyH.cons rfl (fun K hK => ?_) AllReadyH.nil)
        · skip
          go_simp
          refine (toField1 f _).mono ?_; rintro x wc1 ⟨rfl, hbt⟩
          replace HRD := hide (HRD.out.new hbt)
          have hbt1 := hbt0.trans (hbt.mono hbt0.size)
          have hz1 := hbt0.size
          have hy1 := hbt.size
          refine hK.out _ _ ⟨(HA.out.new hbt1).cell (j := 0) rfl, (HA.out.new hbt1).cell (j := 1) rfl, (HB.out.new hbt1).cell (j := 0) rfl, (HB.out.new hbt1).cell (j := 1) rfl⟩ (fun hS => ?_)
          clear hK K
          clear hbt
          refine wpAnyH_ready (rs := [4, 8]) (by kernel_rfl) (by simp) ?_
          refine AllReadyH.cons rfl (fun K hK => ?_) (AllReadyH.cons rfl (fun K hK => ?_) AllReadyH.nil)
          · skip
            go_simp
            have hc := implNoted L room (.slice at1 L.length pt1) f _ HRD.out HF.out hff
            rw [← HD.out] at hc
            dsimp only at hc
            refine hc.mono ?_; rintro x wc2 ⟨vz, rfl, hoz, hbt⟩
            clear hc
            obtain ⟨az, pz, rfl, _⟩ := owns_form hoz
            have HZ := hide hoz
            clear hoz
            have hbt2 := hbt1.trans (hbt.mono hbt1.size)
            have hz2 := hbt1.size
            have hy2 := hbt.size
            refine hK.out _ _ ⟨(HA.out.new hbt2).cell (j := 0) rfl, (HA.out.new hbt2).cell (j := 1) rfl, (HB.out.new hbt2).cell (j := 0) rfl, (HB.out.new hbt2).cell (j := 1) rfl⟩ (fun hS => ?_)
            clear hK K
            clear hbt
            refine wpAnyH_take (i := 5) (v := ?_) rfl (by kernel_rfl) (by kernel_rfl) (by kernel_rfl) (fun _ _ _ h => h) (Or.inl ⟨by rfl, ?_⟩) hS ?_; rotate_left; focus (intro w hw; clear hw; go_simp; try with_reducible rfl)
            refine wpAnyH_take (i := 6) (v := ?_) rfl (by kernel_rfl) (by kernel_rfl) (by kernel_rfl) (fun _ _ _ h => h) (Or.inl ⟨by rfl, ?_⟩) hS ?_; rotate_left; focus (intro w hw; clear hw; go_simp; try with_reducible rfl)
            refine wpAnyH_take (i := 7) (v := ?_) rfl (by kernel_rfl) (by kernel_rfl) (by kernel_rfl) (fun _ _ _ h => h) (Or.inl ⟨by rfl, ?_⟩) hS ?_; rotate_left; focus (intro w hw; clear hw; go_simp; try with_reducible rfl)
            refine wpAnyH_ready (rs := [8]) (by kernel_rfl) (by simp) ?_; refine AllReadyH.cons rfl (fun K hK => ?_) AllReadyH.nil; go_simp
            have hbz : Below w16.heap.size w16 (wc2.alloc (.cells #[.int .i64 0, .slice none 0 0] 36)) := bo_alloc hbt2 _
            have hez : RowIs (wc2.alloc (.cells #[.int .i64 0, .slice none 0 0] 36)) wc2.heap.size 36 [.int .i64 0, .slice none 0 0] := rowIs_new wc2 36 [.int .i64 0, .slice none 0 0]
            have hzg : w16.heap.size ≤ wc2.heap.size := hbt2.size
            have haz : (Value.slice az dL.length pz).ownBlock ≠ some wc2.heap.size := fun hq => by have := (HZ.out.lt _ hq).2; omega
            replace HZ := hide (owns_new HZ.out (bo_alloc (Below.refl wc2.heap.size wc2) (.cells #[.int .i64 0, .slice none 0 0] 36)))
            refine hK.out _ _ ⟨(HA.out.new hbz).cell (j := 0) rfl, (HA.out.new hbz).cell (j := 1) rfl, (HB.out.new hbz).cell (j := 0) rfl, (HB.out.new hbz).cell (j := 1) rfl⟩ (fun hS => ?_)
            clear hK K
            generalize wc2.alloc (.cells #[.int .i64 0, .slice none 0 0] 36) = wz at *
            have e0 := hez.cell (j := 0) rfl
            have e1 := hez.cell (j := 1) rfl
            have e2 := hez.frozen 0
            have e3 := hez.frozen 1
            refine wpAnyH_ready (rs := [9]) (by kernel_rfl) (by simp) ?_; refine AllReadyH.cons rfl (fun K hK => ?_) AllReadyH.nil; go_simp
            have HTT := hide (tabX_set (room := dr) hez (owns_base HZ.out (base' := w16.heap.size) (fun q hq => by have := (HZ.out.lt q hq).1; omega)) haz (by omega))
            have hbs := (hbz.setCell (p := ⟨wc2.heap.size, 0, none⟩) (show w16.heap.size ≤ wc2.heap.size by omega) (.int .i64 dr)).setCell (p := ⟨wc2.heap.size, 1, none⟩) (show w16.heap.size ≤ wc2.heap.size by omega) (.slice az dL.length pz)
            refine hK.out _ _ ⟨(HA.out.new hbs).cell (j := 0) rfl, (HA.out.new hbs).cell (j := 1) rfl, (HB.out.new hbs).cell (j := 0) rfl, (HB.out.new hbs).cell (j := 1) rfl⟩ (fun hS => ?_)
            clear hK K
            refine wpAnyH_take (i := 10) (v := ?_) rfl (by kernel_rfl) (by kernel_rfl) (by kernel_rfl) (fun _ _ _ h => h) (Or.inl ⟨by rfl, ?_⟩) hS ?_; rotate_left; focus (intro w hw; clear hw; go_simp; try with_reducible rfl)
            refine wpAnyH_done (by kernel_rfl) ?_ _
            go_wp2_with fail
            go_meet
            exact ⟨_, _, _, rfl, rfl, HTT.out, hbs⟩
          · skip
            go_simp
            have hba : Below w16.heap.size w16 (wc1.alloc (.cells #[.int .i64 0, .slice none 0 0] 36)) := bo_alloc hbt1 _
            have hea : RowIs (wc1.alloc (.cells #[.int .i64 0, .slice none 0 0] 36)) wc1.heap.size 36 [.int .i64 0, .slice none 0 0] := rowIs_new wc1 36 [.int .i64 0, .slice none 0 0]
            have hag : w16.heap.size ≤ wc1.heap.size := hbt1.size
            replace HRD := hide (HRD.out.new (bo_alloc (Below.refl wc1.heap.size wc1) (.cells #[.int .i64 0, .slice none 0 0] 36)))
            refine hK.out _ _ ⟨(HA.out.new hba).cell (j := 0) rfl, (HA.out.new hba).cell (j := 1) rfl, (HB.out.new hba).cell (j := 0) rfl, (HB.out.new hba).cell (j := 1) rfl⟩ (fun hS => ?_)
            clear hK K
            have hal := hea.lt
            generalize wc1.alloc (.cells #[.int .i64 0, .slice none 0 0] 36) = wa at *
            refine wpAnyH_ready (rs := [4]) (by kernel_rfl) (by simp) ?_
            refine AllReadyH.cons rfl (fun K hK => ?_) AllReadyH.nil
            go_simp
            have hc := implNoted L room (.slice at1 L.length pt1) f _ HRD.out HF.out hff
            rw [← HD.out] at hc
            dsimp only at hc
            refine hc.mono ?_; rintro x wc2 ⟨vz, rfl, hoz, hbt⟩
            clear hc
            obtain ⟨az, pz, rfl, _⟩ := owns_form hoz
            have HZ := hide hoz
            clear hoz
            have hbt2 := hba.trans (hbt.mono hba.size)
            have hz2 := hba.size
            have hy2 := hbt.size
            replace hea := hea.new hbt
            refine hK.out _ _ ⟨(HA.out.new hbt2).cell (j := 0) rfl, (HA.out.new hbt2).cell (j := 1) rfl, (HB.out.new hbt2).cell (j := 0) rfl, (HB.out.new hbt2).cell (j := 1) rfl⟩ (fun hS => ?_)
            clear hK K
            clear hbt
            refine wpAnyH_take (i := 5) (v := ?_) rfl (by kernel_rfl) (by kernel_rfl) (by kernel_rfl) (fun _ _ _ h => h) (Or.inl ⟨by rfl, ?_⟩) hS ?_; rotate_left; focus (intro w hw; clear hw; go_simp; try with_reducible rfl)
            refine wpAnyH_take (i := 6) (v := ?_) rfl (by kernel_rfl) (by kernel_rfl) (by kernel_rfl) (fun _ _ _ h => h) (Or.inl ⟨by rfl, ?_⟩) hS ?_; rotate_left; focus (intro w hw; clear hw; go_simp; try with_reducible rfl)
            refine wpAnyH_take (i := 7) (v := ?_) rfl (by kernel_rfl) (by kernel_rfl) (by kernel_rfl) (fun _ _ _ h => h) (Or.inl ⟨by rfl, ?_⟩) hS ?_; rotate_left; focus (intro w hw; clear hw; go_simp; try with_reducible rfl)
            have hbz := hbt2
            have hez := hea
            have haz : (Value.slice az dL.length pz).ownBlock ≠ some wc1.heap.size := fun hq => by have := (HZ.out.lt _ hq).1; omega
            have e0 := hez.cell (j := 0) rfl
            have e1 := hez.cell (j := 1) rfl
            have e2 := hez.frozen 0
            have e3 := hez.frozen 1
            refine wpAnyH_ready (rs := [9]) (by kernel_rfl) (by simp) ?_; refine AllReadyH.cons rfl (fun K hK => ?_) AllReadyH.nil; go_simp
            have HTT := hide (tabX_set (room := dr) hez (owns_base HZ.out (base' := w16.heap.size) (fun q hq => by have := (HZ.out.lt q hq).1; omega)) haz (by omega))
            have hbs := (hbz.setCell (p := ⟨wc1.heap.size, 0, none⟩) (show w16.heap.size ≤ wc1.heap.size by omega) (.int .i64 dr)).setCell (p := ⟨wc1.heap.size, 1, none⟩) (show w16.heap.size ≤ wc1.heap.size by omega) (.slice az dL.length pz)
            refine hK.out _ _ ⟨(HA.out.new hbs).cell (j := 0) rfl, (HA.out.new hbs).cell (j := 1) rfl, (HB.out.new hbs).cell (j := 0) rfl, (HB.out.new hbs).cell (j := 1) rfl⟩ (fun hS => ?_)
            clear hK K
            refine wpAnyH_take (i := 10) (v := ?_) rfl (by kernel_rfl) (by kernel_rfl) (by kernel_rfl) (fun _ _ _ h => h) (Or.inl ⟨by rfl, ?_⟩) hS ?_; rotate_left; focus (intro w hw; clear hw; go_simp; try with_reducible rfl)
            refine wpAnyH_done (by kernel_rfl) ?_ _
            go_wp2_with fail
            go_meet
            exact ⟨_, _, _, rfl, rfl, HTT.out, hbs⟩
        · skip
          go_simp
          have hba : Below w16.heap.size w16 (wc0.alloc (.cells #[.int .i64 0, .slice none 0 0] 36)) := bo_alloc hbt0 _
          have hea : RowIs (wc0.alloc (.cells #[.int .i64 0, .slice none 0 0] 36)) wc0.heap.size 36 [.int .i64 0, .slice none 0 0] := rowIs_new wc0 36 [.int .i64 0, .slice none 0 0]
          have hag : w16.heap.size ≤ wc0.heap.size := hbt0.size
          replace HRD := hide (HRD.out.new (bo_alloc (Below.refl wc0.heap.size wc0) (.cells #[.int .i64 0, .slice none 0 0] 36)))
          refine hK.out _ _ ⟨(HA.out.new hba).cell (j := 0) rfl, (HA.out.new hba).cell (j := 1) rfl, (HB.out.new hba).cell (j := 0) rfl, (HB.out.new hba).cell (j := 1) rfl⟩ (fun hS => ?_)
          clear hK K
          have hal := hea.lt
          generalize wc0.alloc (.cells #[.int .i64 0, .slice none 0 0] 36) = wa at *
          refine wpAnyH_ready (rs := [3]) (by kernel_rfl) (by simp) ?_
          refine AllReadyH.cons rfl (fun K hK => ?_) AllReadyH.nil
          go_simp
          refine (toField1 f _).mono ?_; rintro x wc1 ⟨rfl, hbt⟩
          replace HRD := hide (HRD.out.new hbt)
          have hbt1 := hba.trans (hbt.mono hba.size)
          have hz1 := hba.size
          have hy1 := hbt.size
          replace hea := hea.new hbt
          refine hK.out _ _ ⟨(HA.out.new hbt1).cell (j := 0) rfl, (HA.out.new hbt1).cell (j := 1) rfl, (HB.out.new hbt1).cell (j := 0) rfl, (HB.out.new hbt1).cell (j := 1) rfl⟩ (fun hS => ?_)
          clear hK K
          clear hbt
          refine wpAnyH_ready (rs := [4]) (by kernel_rfl) (by simp) ?_
          refine AllReadyH.cons rfl (fun K hK => ?_) AllReadyH.nil
          go_simp
          have hc := implNoted L room (.slice at1 L.length pt1) f _ HRD.out HF.out hff
          rw [← HD.out] at hc
          dsimp only at hc
          refine hc.mono ?_; rintro x wc2 ⟨vz, rfl, hoz, hbt⟩
          clear hc
          obtain ⟨az, pz, rfl, _⟩ := owns_form hoz
          have HZ := hide hoz
          clear hoz
          have hbt2 := hbt1.trans (hbt.mono hbt1.size)
          have hz2 := hbt1.size
          have hy2 := hbt.size
          replace hea := hea.new hbt
          refine hK.out _ _ ⟨(HA.out.new hbt2).cell (j := 0) rfl, (HA.out.new hbt2).cell (j := 1) rfl, (HB.out.new hbt2).cell (j := 0) rfl, (HB.out.new hbt2).cell (j := 1) rfl⟩ (fun hS => ?_)
          clear hK K
          clear hbt
          refine wpAnyH_take (i := 5) (v := ?_) rfl (by kernel_rfl) (by kernel_rfl) (by kernel_rfl) (fun _ _ _ h => h) (Or.inl ⟨by rfl, ?_⟩) hS ?_; rotate_left; focus (intro w hw; clear hw; go_simp; try with_reducible rfl)
          refine wpAnyH_take (i := 6) (v := ?_) rfl (by kernel_rfl) (by kernel_rfl) (by kernel_rfl) (fun _ _ _ h => h) (Or.inl ⟨by rfl, ?_⟩) hS ?_; rotate_left; focus (intro w hw; clear hw; go_simp; try with_reducible rfl)
          refine wpAnyH_take (i := 7) (v := ?_) rfl (by kernel_rfl) (by kernel_rfl) (by kernel_rfl) (fun _ _ _ h => h) (Or.inl ⟨by rfl, ?_⟩) hS ?_; rotate_left; focus (intro w hw; clear hw; go_simp; try with_reducible rfl)
          have hbz := hbt2
          have hez := hea
          have haz : (Value.slice az dL.length pz).ownBlock ≠ some wc0.heap.size := fun hq => by have := (HZ.out.lt _ hq).1; omega
          have e0 := hez.cell (j := 0) rfl
          have e1 := hez.cell (j := 1) rfl
          have e2 := hez.frozen 0
          have e3 := hez.frozen 1
          refine wpAnyH_ready (rs := [9]) (by kernel_rfl) (by simp) ?_; refine AllReadyH.cons rfl (fun K hK => ?_) AllReadyH.nil; go_simp
          have HTT := hide (tabX_set (room := dr) hez (owns_base HZ.out (base' := w16.heap.size) (fun q hq => by have := (HZ.out.lt q hq).1; omega)) haz (by omega))
          have hbs := (hbz.setCell (p := ⟨wc0.heap.size, 0, none⟩) (show w16.heap.size ≤ wc0.heap.size by omega) (.int .i64 dr)).setCell (p := ⟨wc0.heap.size, 1, none⟩) (show w16.heap.size ≤ wc0.heap.size by omega) (.slice az dL.length pz)
          refine hK.out _ _ ⟨(HA.out.new hbs).cell (j := 0) rfl, (HA.out.new hbs).cell (j := 1) rfl, (HB.out.new hbs).cell (j := 0) rfl, (HB.out.new hbs).cell (j := 1) rfl⟩ (fun hS => ?_)
          clear hK K
          refine wpAnyH_take (i := 10) (v := ?_) rfl (by kernel_rfl) (by kernel_rfl) (by kernel_rfl) (fun _ _ _ h => h) (Or.inl ⟨by rfl, ?_⟩) hS ?_; rotate_left; focus (intro w hw; clear hw; go_simp; try with_reducible rfl)
          refine wpAnyH_done (by kernel_rfl) ?_ _
          go_wp2_with fail
          go_meet
          exact ⟨_, _, _, rfl, rfl, HTT.out, hbs⟩
      · skip
        go_simp
        have hba : Below w16.heap.size w16 (World.drew (w16.alloc (.cells #[.int .i64 0, .slice none 0 0] 36))) := bo_alloc hbd _
        have hea : RowIs (World.drew (w16.alloc (.cells #[.int .i64 0, .slice none 0 0] 36))) w16.heap.size 36 [.int .i64 0, .slice none 0 0] := rowIs_new (World.drew w16) 36 [.int .i64 0, .slice none 0 0]
        have hag : w16.heap.size ≤ w16.heap.size := hbd.size
        refine hK.out _ _ ⟨(HA.out.new hba).cell (j := 0) rfl, (HA.out.new hba).cell (j := 1) rfl, (HB.out.new hba).cell (j := 0) rfl, (HB.out.new hba).cell (j := 1) rfl⟩ (fun hS => ?_)
        clear hK K
        have hal := hea.lt
        generalize World.drew (w16.alloc (.cells #[.int .i64 0, .slice none 0 0] 36)) = wa at *
        refine wpAnyH_ready (rs := [1]) (by kernel_rfl) (by simp) ?_
        refine AllReadyH.cons rfl (fun K hK => ?_) AllReadyH.nil
        go_simp
        refine (toTable1 L room _ _ (HR.out.new (HBW.out.trans (hba.mono HBW.out.size))) hLl).mono ?_; rintro x wc0 ⟨vt, rfl, hot, hbt⟩
        obtain ⟨at1, pt1, rfl, _⟩ := owns_form hot
        have HRD := hide (reads_of_owns hot)
        clear hot
        have hbt0 := hba.trans (hbt.mono hba.size)
        have hz0 := hba.size
        have hy0 := hbt.size
        replace hea := hea.new hbt
        refine hK.out _ _ ⟨(HA.out.new hbt0).cell (j := 0) rfl, (HA.out.new hbt0).cell (j := 1) rfl, (HB.out.new hbt0).cell (j := 0) rfl, (HB.out.new hbt0).cell (j := 1) rfl⟩ (fun hS => ?_)
        clear hK K
        clear hbt
        refine wpAnyH_ready (rs := [3]) (by kernel_rfl) (by simp) ?_
        refine AllReadyH.cons rfl (fun K hK => ?_) AllReadyH.nil
        go_simp
        refine (toField1 f _).mono ?_; rintro x wc1 ⟨rfl, hbt⟩
        replace HRD := hide (HRD.out.new hbt)
        have hbt1 := hbt0.trans (hbt.mono hbt0.size)
        have hz1 := hbt0.size
        have hy1 := hbt.size
        replace hea := hea.new hbt
        refine hK.out _ _ ⟨(HA.out.new hbt1).cell (j := 0) rfl, (HA.out.new hbt1).cell (j := 1) rfl, (HB.out.new hbt1).cell (j := 0) rfl, (HB.out.new hbt1).cell (j := 1) rfl⟩ (fun hS => ?_)
        clear hK K
        clear hbt
        refine wpAnyH_ready (rs := [4]) (by kernel_rfl) (by simp) ?_
        refine AllReadyH.cons rfl (fun K hK => ?_) AllReadyH.nil
        go_simp
        have hc := implNoted L room (.slice at1 L.length pt1) f _ HRD.out HF.out hff
        rw [← HD.out] at hc
        dsimp only at hc
        refine hc.mono ?_; rintro x wc2 ⟨vz, rfl, hoz, hbt⟩
        clear hc
        obtain ⟨az, pz, rfl, _⟩ := owns_form hoz
        have HZ := hide hoz
        clear hoz
        have hbt2 := hbt1.trans (hbt.mono hbt1.size)
        have hz2 := hbt1.size
        have hy2 := hbt.size
        replace hea := hea.new hbt
        refine hK.out _ _ ⟨(HA.out.new hbt2).cell (j := 0) rfl, (HA.out.new hbt2).cell (j := 1) rfl, (HB.out.new hbt2).cell (j := 0) rfl, (HB.out.new hbt2).cell (j := 1) rfl⟩ (fun hS => ?_)
        clear hK K
        clear hbt
        refine wpAnyH_take (i := 5) (v := ?_) rfl (by kernel_rfl) (by kernel_rfl) (by kernel_rfl) (fun _ _ _ h => h) (Or.inl ⟨by rfl, ?_⟩) hS ?_; rotate_left; focus (intro w hw; clear hw; go_simp; try with_reducible rfl)
        refine wpAnyH_take (i := 6) (v := ?_) rfl (by kernel_rfl) (by kernel_rfl) (by kernel_rfl) (fun _ _ _ h => h) (Or.inl ⟨by rfl, ?_⟩) hS ?_; rotate_left; focus (intro w hw; clear hw; go_simp; try with_reducible rfl)
        refine wpAnyH_take (i := 7) (v := ?_) rfl (by kernel_rfl) (by kernel_rfl) (by kernel_rfl) (fun _ _ _ h => h) (Or.inl ⟨by rfl, ?_⟩) hS ?_; rotate_left; focus (intro w hw; clear hw; go_simp; try with_reducible rfl)
        have hbz := hbt2
        have hez := hea
        have haz : (Value.slice az dL.length pz).ownBlock ≠ some w16.heap.size := fun hq => by have := (HZ.out.lt _ hq).1; omega
        have e0 := hez.cell (j := 0) rfl
        have e1 := hez.cell (j := 1) rfl
        have e2 := hez.frozen 0
        have e3 := hez.frozen 1
        refine wpAnyH_ready (rs := [9]) (by kernel_rfl) (by simp) ?_; refine AllReadyH.cons rfl (fun K hK => ?_) AllReadyH.nil; go_simp
        have HTT := hide (tabX_set (room := dr) hez (owns_base HZ.out (base' := w16.heap.size) (fun q hq => by have := (HZ.out.lt q hq).1; omega)) haz (by omega))
        have hbs := (hbz.setCell (p := ⟨w16.heap.size, 0, none⟩) (show w16.heap.size ≤ w16.heap.size by omega) (.int .i64 dr)).setCell (p := ⟨w16.heap.size, 1, none⟩) (show w16.heap.size ≤ w16.heap.size by omega) (.slice az dL.length pz)
        refine hK.out _ _ ⟨(HA.out.new hbs).cell (j := 0) rfl, (HA.out.new hbs).cell (j := 1) rfl, (HB.out.new hbs).cell (j := 0) rfl, (HB.out.new hbs).cell (j := 1) rfl⟩ (fun hS => ?_)
        clear hK K
        refine wpAnyH_take (i := 10) (v := ?_) rfl (by kernel_rfl) (by kernel_rfl) (by kernel_rfl) (fun _ _ _ h => h) (Or.inl ⟨by rfl, ?_⟩) hS ?_; rotate_left; focus (intro w hw; clear hw; go_simp; try with_reducible rfl)
        refine wpAnyH_done (by kernel_rfl) ?_ _
        go_wp2_with fail
        go_meet
        exact ⟨_, _, _, rfl, rfl, HTT.out, hbs⟩
  obtain ⟨g14, a14, p14, rfl, rfl, t14, hb14⟩ := hcut
  generalize wc = w140 at *
  have T14 := hide t14
  have glo14 := t14.glo
  have ghi14 := t14.ghi
  clear t14
  replace HA := hide (HA.out.new hb14)
  replace HB := hide (HB.out.new hb14)
  replace HQ := hide (HQ.out.new hb14)
  replace T6 := hide (T6.out.new hb14)
  replace HM := hide (owns_new HM.out hb14)
  replace HBW := hide (bchain HBW.out hb14)
  have zhb14 := hb14.size
  clear hb14
  have t0 := T14.out.row.cell (j := 0) rfl
  have t1 := T14.out.row.cell (j := 1) rfl
  have s0 := T6.out.row.cell (j := 0) rfl
  have s1 := T6.out.row.cell (j := 1) rfl
  go_wp2_with fail
  refine (eqTable1 dL dr _ _ _ T14.out.read T6.out.read).mono ?_; rintro x w17 ⟨rfl, hb17⟩
  clear t0 t1 s0 s1
  replace HA := hide (HA.out.new hb17)
  replace HB := hide (HB.out.new hb17)
  replace HQ := hide (HQ.out.new hb17)
  replace T6 := hide (T6.out.new hb17)
  replace T14 := hide (T14.out.new hb17)
  replace HM := hide (owns_new HM.out hb17)
  replace HBW := hide (bchain HBW.out hb17)
  have zhb17 := hb17.size
  clear hb17
  have t0 := HQ.out.cell (j := 0) rfl
  have t1 := HQ.out.cell (j := 1) rfl
  go_wp2_with fail
  clear t0 t1
  refine (heldTable1 dL.length 1 dr _ _ (reads_of_owns HM.out) (by omega)).mono ?_; rw [← HN9.out]; rintro x w18 ⟨rfl, hb18⟩
  replace HA := hide (HA.out.new hb18)
  replace HB := hide (HB.out.new hb18)
  replace HQ := hide (HQ.out.new hb18)
  replace T6 := hide (T6.out.new hb18)
  replace T14 := hide (T14.out.new hb18)
  replace HM := hide (owns_new HM.out hb18)
  replace HBW := hide (bchain HBW.out hb18)
  have zhb18 := hb18.size
  clear hb18
  go_wp2_with fail
  go_ret
  exact ⟨rfl, HBW.out⟩


theorem own : ownKnob Try.prog.godebug = none := by kernel_rfl
theorem laidOut : laidOutB Try.prog = true := by kernel_rfl

set_option maxRecDepth 100000 in
theorem lifted (os : Os) (started : os.Started) (H : Type) (enc : TypeId × Value → H) :
    ReturnsInHanded {} Try.checked os 5 .any (Rows.fnExactNotedSpec.pre6 enc Try.prog Try.f5 Rows.fnExactNotedRow.domain false) (Rows.fnExactNotedSpec.post enc Try.prog Try.f5 false true false false) := by
  refine returnsInHanded_of_change (C := Try.checked) own started (by kernel_rfl) Try.func5
    (ChangeSpec.witness6 (enc := enc) (C := Try.checked) false ⟨#[], #[.agg #[.int .i64 0, .slice none 0 0], .agg #[.string ⟨#[]⟩, .string ⟨#[]⟩]], []⟩ 8 (by kernel_rfl) (by kernel_rfl) (by kernel_rfl) (by kernel_rfl)) ?_
  intro W base args ds gs before hval0 hW hcnd _
  have hval : ∀ (j : Nat) t v, Try.f5.params[j]? = some t → args[j]? = some v → Value.okWide Try.prog W .any base t v := hval0
  have hW' := hW
  obtain ⟨p, q, hA0, hV, rfl, hfz, hnd⟩ := hW
  have hA : DataW.TrodAll enc Try.prog W 0 (fun _ => true) true Try.f5.params.toList args.toList ds p := hA0
  rw [Try.params5] at hA hval
  obtain ⟨v0, vs0, d0, ds0, p0, q0, hargs, rfl, rfl, h0, r0⟩ := trodAll_cons hA
  obtain ⟨v1, vs1, d1, ds1, p1, q1, rfl, rfl, rfl, h1, r1⟩ := trodAll_cons r0
  obtain ⟨rfl, rfl, rfl⟩ := trodAll_nil r1
  obtain rfl : args = #[v0, v1] := by cases args; simp_all
  obtain ⟨rfl, rfl⟩ := trodVars_none hV
  have k0 := h0
  have lt0 : ∀ x ∈ p0, x.block < W.heap.size := by obtain ⟨m, hm⟩ := k0; exact DataW.trod_lt m _ _ _ hm
  have k1 := h1
  have lt1 : ∀ x ∈ p1, x.block < W.heap.size := by obtain ⟨m, hm⟩ := k1; exact DataW.trod_lt m _ _ _ hm
  obtain ⟨room, rv, L, rfl, hL, hfL⟩ := open_Table (hval 0 31 v0 rfl rfl) h0
  obtain ⟨f, rfl, hff⟩ := open_Field (hval 1 23 v1 rfl rfl) h1
  clear hA0 hval0
  refine (walk L room rv f W hL hfL hff).mono fun e W' ⟨he, bel⟩ => ?_
  subst he
  exact ⟨_, rfl, _, _, _, [], _, [], hW', trodAll_mk1 (shut_bool Try.underlying4 _), (trodAll_cons_mk (Below.trod laidOut (by kernel_rfl) (of_decide_eq_true (by kernel_rfl)) k0 bel lt0) (trodAll_cons_mk (Below.trod laidOut (by kernel_rfl) (of_decide_eq_true (by kernel_rfl)) k1 bel lt1) trodAll_mk0)), rfl, bel.frame _, fun h => by cases h⟩

theorem over : Rows.fnExactNotedRow.holds Try.pinned (OpenSpec.ofChange Rows.fnExactNotedSpec) :=
  OpenClaim.holds_of_wide 5 Try.f5 rfl rfl rfl rfl rfl rfl rfl ⟨rfl, rfl, rfl, rfl, rfl⟩ rfl rfl rfl rfl rfl (by kernel_rfl) Try.func5 (by kernel_rfl)
    (of_decide_eq_true (by kernel_rfl)) (by unfold Func.isWrapper; first | (rw [if_pos (by decide +kernel)]; kernel_rfl) | (rw [if_neg (by decide +kernel)]; exact ⟨rfl, rfl⟩))
    (fun os started H enc _ => lifted os started H enc)

end exactNoted

theorem exactNoted_proved : Rows.FnExactNotedSaid := exactNoted.over
#print axioms exactNoted_proved
end Go.Proofs.Ytaphajngogmihaa
