/- Several small texts of one level, one behind the other. -/
import Derived.Test.YtkhclhnejnpkeaaGreatQNgG20
import Derived.Test.YtkhclhnejnpkeaaGreatQNgG18
import Derived.Test.YtkhclhnejnpkeaaGreatQNgG10
import Derived.Test.YtkhclhnejnpkeaaGreatQNgG19
import Derived.Test.YtkhclhnejnpkeaaGreatQNgG12
import Derived.Test.YtkhclhnejnpkeaaGreatQNgG7
/- NewGate of the model (by gen_gatenew.py). -/
namespace Go.Proofs.YtkhclhnejnpkeaaGreat
open Go.RowKit
set_option maxRecDepth 100000
set_option linter.unusedSimpArgs false
set_option linter.unusedVariables false
set_option maxHeartbeats 8000000 in
theorem specNewGate (L : List TenantD) (n : Int) (v : Value) (w : World) (hr : RdR tenantS w v L) :
    Calls Tryz.prog 12 #[v, .int .i64 n] w fun x w' => ∃ y, x = .returned y ∧ NewG w' w.heap.size L n y ∧ Below w.heap.size w w' := by
  obtain ⟨ad, cap, rfl, _, _⟩ := hr.form
  have HR := hide hr
  clear hr
  have HRZ : Hid (RowIs (w.alloc (.cells #[.int .i64 0, .slice none 0 0, .slice none 0 0, .slice none 0 0, .slice none 0 0, .bool false] 35)) w.heap.size 35 [.int .i64 0, .slice none 0 0, .slice none 0 0, .slice none 0 0, .slice none 0 0, .bool false]) := rowIs_new w 35 [.int .i64 0, .slice none 0 0, .slice none 0 0, .slice none 0 0, .slice none 0 0, .bool false]
  have HB : Hid (Below w.heap.size w (w.alloc (.cells #[.int .i64 0, .slice none 0 0, .slice none 0 0, .slice none 0 0, .slice none 0 0, .bool false] 35))) := (Below.refl _ _).alloc (Nat.le_refl _) _
  have hW1 : w.heap.size + 1 ≤ (w.alloc (.cells #[.int .i64 0, .slice none 0 0, .slice none 0 0, .slice none 0 0, .slice none 0 0, .bool false] 35)).heap.size := by simp
  have HW1 := hide hW1
  clear hW1
  go_enter Tryz.func12, Tryz.ntmps12
  go_upto_region 1 with fail
  generalize w.alloc (.cells #[.int .i64 0, .slice none 0 0, .slice none 0 0, .slice none 0 0, .slice none 0 0, .bool false] 35) = W1 at *
  go_wp2_with fail
  refine (specTenantsOk L _ _ (HR.out.new HB.out)).mono ?_; rintro e w2 ⟨rfl, hb⟩
  replace HRZ := hide (HRZ.out.new hb)
  replace HB := hide (bchain HB.out hb)
  have HW2 : Hid (w.heap.size + 1 ≤ w2.heap.size) := Nat.le_trans HW1.out hb.size
  clear hb HW1
  cases t0 : okTs L
  · have HN : Hid (¬ (okTs L = true ∧ inB n 1 4 = true)) := fun h => by rw [t0] at h; cases h.1
    skip
    have z0 := RowIs.cell (j := 0) HRZ.out rfl
    have z1 := RowIs.cell (j := 1) HRZ.out rfl
    have z2 := RowIs.cell (j := 2) HRZ.out rfl
    have z3 := RowIs.cell (j := 3) HRZ.out rfl
    have z4 := RowIs.cell (j := 4) HRZ.out rfl
    have z5 := RowIs.cell (j := 5) HRZ.out rfl
    have zf := fun j => RowIs.frozen HRZ.out j
    have HRF : Hid (RowIs ((((((w2.setCell ⟨w.heap.size, 0, none⟩ (.int .i64 0)).setCell ⟨w.heap.size, 1, none⟩ (.slice none 0 0)).setCell ⟨w.heap.size, 2, none⟩ (.slice none 0 0)).setCell ⟨w.heap.size, 3, none⟩ (.slice none 0 0)).setCell ⟨w.heap.size, 4, none⟩ (.slice none 0 0)).setCell ⟨w.heap.size, 5, none⟩ (.bool false)) w.heap.size 35 [.int .i64 0, .slice none 0 0, .slice none 0 0, .slice none 0 0, .slice none 0 0, .bool false]) := (((((HRZ.out.set 0 (.int .i64 0)).set 1 (.slice none 0 0)).set 2 (.slice none 0 0)).set 3 (.slice none 0 0)).set 4 (.slice none 0 0)).set 5 (.bool false)
    have HBF := hide ((((((HB.out.setCell (p := ⟨w.heap.size, 0, none⟩) (Nat.le_refl _) (.int .i64 0)).setCell (p := ⟨w.heap.size, 1, none⟩) (Nat.le_refl _) (.slice none 0 0)).setCell (p := ⟨w.heap.size, 2, none⟩) (Nat.le_refl _) (.slice none 0 0)).setCell (p := ⟨w.heap.size, 3, none⟩) (Nat.le_refl _) (.slice none 0 0)).setCell (p := ⟨w.heap.size, 4, none⟩) (Nat.le_refl _) (.slice none 0 0)).setCell (p := ⟨w.heap.size, 5, none⟩) (Nat.le_refl _) (.bool false))
    have HRZ9 := HRZ
    go_wp2_with fail
    generalize ((((((w2.setCell ⟨w.heap.size, 0, none⟩ (.int .i64 0)).setCell ⟨w.heap.size, 1, none⟩ (.slice none 0 0)).setCell ⟨w.heap.size, 2, none⟩ (.slice none 0 0)).setCell ⟨w.heap.size, 3, none⟩ (.slice none 0 0)).setCell ⟨w.heap.size, 4, none⟩ (.slice none 0 0)).setCell ⟨w.heap.size, 5, none⟩ (.bool false)) = W9 at *
    clear z0 z1 z2 z3 z4 z5 zf
    have z0 := RowIs.cell (j := 0) HRF.out rfl
    have z1 := RowIs.cell (j := 1) HRF.out rfl
    have z2 := RowIs.cell (j := 2) HRF.out rfl
    have z3 := RowIs.cell (j := 3) HRF.out rfl
    have z4 := RowIs.cell (j := 4) HRF.out rfl
    have z5 := RowIs.cell (j := 5) HRF.out rfl
    refine bodyPost_ret (v := .tuple #[.agg #[.int .i64 0, .slice none 0 0, .slice none 0 0, .slice none 0 0, .slice none 0 0, .bool false], .bool false]) (by simp [results, Tryz.results12, go_sem, *]) rfl ?_
    exact ⟨_, rfl, .inr ⟨HN.out, rfl⟩, HBF.out⟩
  have HT := hide t0
  clear t0
  go_wp2_with fail
  refine (specIn n 1 4 _).mono ?_; rintro e wq ⟨rfl, hsame⟩; obtain rfl := hsame.symm; clear hsame
  cases t1 : inB n 1 4
  · have HN : Hid (¬ (okTs L = true ∧ inB n 1 4 = true)) := fun h => by rw [t1] at h; cases h.2
    have z0 := RowIs.cell (j := 0) HRZ.out rfl
    have z1 := RowIs.cell (j := 1) HRZ.out rfl
    have z2 := RowIs.cell (j := 2) HRZ.out rfl
    have z3 := RowIs.cell (j := 3) HRZ.out rfl
    have z4 := RowIs.cell (j := 4) HRZ.out rfl
    have z5 := RowIs.cell (j := 5) HRZ.out rfl
    have zf := fun j => RowIs.frozen HRZ.out j
    have HRF : Hid (RowIs ((((((w2.setCell ⟨w.heap.size, 0, none⟩ (.int .i64 0)).setCell ⟨w.heap.size, 1, none⟩ (.slice none 0 0)).setCell ⟨w.heap.size, 2, none⟩ (.slice none 0 0)).setCell ⟨w.heap.size, 3, none⟩ (.slice none 0 0)).setCell ⟨w.heap.size, 4, none⟩ (.slice none 0 0)).setCell ⟨w.heap.size, 5, none⟩ (.bool false)) w.heap.size 35 [.int .i64 0, .slice none 0 0, .slice none 0 0, .slice none 0 0, .slice none 0 0, .bool false]) := (((((HRZ.out.set 0 (.int .i64 0)).set 1 (.slice none 0 0)).set 2 (.slice none 0 0)).set 3 (.slice none 0 0)).set 4 (.slice none 0 0)).set 5 (.bool false)
    have HBF := hide ((((((HB.out.setCell (p := ⟨w.heap.size, 0, none⟩) (Nat.le_refl _) (.int .i64 0)).setCell (p := ⟨w.heap.size, 1, none⟩) (Nat.le_refl _) (.slice none 0 0)).setCell (p := ⟨w.heap.size, 2, none⟩) (Nat.le_refl _) (.slice none 0 0)).setCell (p := ⟨w.heap.size, 3, none⟩) (Nat.le_refl _) (.slice none 0 0)).setCell (p := ⟨w.heap.size, 4, none⟩) (Nat.le_refl _) (.slice none 0 0)).setCell (p := ⟨w.heap.size, 5, none⟩) (Nat.le_refl _) (.bool false))
    have HRZ9 := HRZ
    go_wp2_with fail
    generalize ((((((w2.setCell ⟨w.heap.size, 0, none⟩ (.int .i64 0)).setCell ⟨w.heap.size, 1, none⟩ (.slice none 0 0)).setCell ⟨w.heap.size, 2, none⟩ (.slice none 0 0)).setCell ⟨w.heap.size, 3, none⟩ (.slice none 0 0)).setCell ⟨w.heap.size, 4, none⟩ (.slice none 0 0)).setCell ⟨w.heap.size, 5, none⟩ (.bool false)) = W9 at *
    clear z0 z1 z2 z3 z4 z5 zf
    have z0 := RowIs.cell (j := 0) HRF.out rfl
    have z1 := RowIs.cell (j := 1) HRF.out rfl
    have z2 := RowIs.cell (j := 2) HRF.out rfl
    have z3 := RowIs.cell (j := 3) HRF.out rfl
    have z4 := RowIs.cell (j := 4) HRF.out rfl
    have z5 := RowIs.cell (j := 5) HRF.out rfl
    refine bodyPost_ret (v := .tuple #[.agg #[.int .i64 0, .slice none 0 0, .slice none 0 0, .slice none 0 0, .slice none 0 0, .bool false], .bool false]) (by simp [results, Tryz.results12, go_sem, *]) rfl ?_
    exact ⟨_, rfl, .inr ⟨HN.out, rfl⟩, HBF.out⟩
  have hn := inB_true t1
  have HT1 := hide t1
  clear t1
  go_wp2_with fail
  refine (specCopy15 L _ _ (HR.out.new HB.out) HT.out).mono ?_; rintro e w3 ⟨vt, rfl, ho, hb⟩
  obtain ⟨at_, pt, rfl, _, _⟩ := ho.form
  have hz2 := HW2.out
  have HOT := hide (ho.wide (lo' := w.heap.size + 1) hz2 (Nat.le_refl _))
  have HW3 : Hid (w.heap.size + 1 ≤ w3.heap.size) := Nat.le_trans hz2 hb.size
  replace HRZ := hide (HRZ.out.new hb)
  replace HB := hide (bchain HB.out hb)
  clear ho hb hz2 HW2
  go_upto_region 4 with fail
  have hX : Below w3.heap.size w3 (w3.alloc (.cells #[.int .i64 0, .slice at_ L.length pt, .slice none 0 0, .slice none 0 0, .slice none 0 0, .bool false] 35)) := (Below.refl _ _).alloc (Nat.le_refl _) _
  have HRG := hide (rowIs_new w3 35 [.int .i64 0, .slice at_ L.length pt, .slice none 0 0, .slice none 0 0, .slice none 0 0, .bool false])
  replace HOT := hide (HOT.out.new hX)
  replace HRZ := hide (HRZ.out.new hX)
  replace HB := hide (bchain HB.out hX)
  have hgw : w.heap.size + 1 ≤ w3.heap.size := HW3.out
  have HGX : Hid (w3.heap.size + 1 ≤ (w3.alloc (.cells #[.int .i64 0, .slice at_ L.length pt, .slice none 0 0, .slice none 0 0, .slice none 0 0, .bool false] 35)).heap.size) := by show _ ≤ _; simp
  clear hX HW3
  generalize w3.heap.size = gb at *
  generalize w3.alloc (.cells #[.int .i64 0, .slice at_ L.length pt, .slice none 0 0, .slice none 0 0, .slice none 0 0, .bool false] 35) = W4 at *
  obtain ⟨m1, hm1⟩ : ∃ m, m = gb + 1 := ⟨_, rfl⟩
  have hm2 : gb < m1 := by omega
  have HM1 := hide hm1
  have HOR : Hid (W4.ownsRow m1 65 16 (.slice none 0 0) 0 (rowNs 0)) := World.ownsRow_nil W4 m1 65 16
  clear hm1 HGX
  skip
  go_loopw [1] (fun i wr => ∃ (k : Nat) (a : Option Addr) (p : Nat), i = .int .i64 (n - k) ∧ (k : Int) ≤ n ∧ Hid (wr.ownsRow m1 65 16 (.slice a k p) k (rowNs k)) ∧ Hid (RowIs wr gb 35 [.int .i64 0, .slice at_ L.length pt, .slice a k p, .slice none 0 0, .slice none 0 0, .bool false]) ∧ Hid (OwX tenantS wr (w.heap.size + 1) gb (.slice at_ L.length pt) L) ∧ Hid (RowIs wr w.heap.size 35 [.int .i64 0, .slice none 0 0, .slice none 0 0, .slice none 0 0, .slice none 0 0, .bool false]) ∧ Hid (Below w.heap.size w wr)) (fun i _ => (intOf i).toNat)
  case atStart => exact ⟨0, none, 0, by simp, by omega, HOR, HRG, HOT, HRZ, HB⟩
  case round =>
    clear HOR HRG HOT HRZ HB
    obtain ⟨k, a, p, rfl, hk, HO, HRG, HOT, HRZ, HB⟩ := hrel
    by_cases hlt : (k : Int) < n
    rotate_left
    · have hkn : (k : Int) = n := by omega
      have hc9 : ¬ 0 < n - (k : Int) := by omega
      have HKN : Hid (n.toNat = k) := by show _ = _; omega
      have y0 := RowIs.cell (j := 0) HRG.out rfl
      have y1 := RowIs.cell (j := 1) HRG.out rfl
      have y2 := RowIs.cell (j := 2) HRG.out rfl
      have y3 := RowIs.cell (j := 3) HRG.out rfl
      have y4 := RowIs.cell (j := 4) HRG.out rfl
      have y5 := RowIs.cell (j := 5) HRG.out rfl
      have z0 := RowIs.cell (j := 0) HRZ.out rfl
      have z1 := RowIs.cell (j := 1) HRZ.out rfl
      have z2 := RowIs.cell (j := 2) HRZ.out rfl
      have z3 := RowIs.cell (j := 3) HRZ.out rfl
      have z4 := RowIs.cell (j := 4) HRZ.out rfl
      have z5 := RowIs.cell (j := 5) HRZ.out rfl
      have zf := fun j => RowIs.frozen HRZ.out j
      have hgne : w.heap.size ≠ gb := by omega
      have HRF : Hid (RowIs ((((((wr.setCell ⟨w.heap.size, 0, none⟩ (.int .i64 0)).setCell ⟨w.heap.size, 1, none⟩ (.slice at_ L.length pt)).setCell ⟨w.heap.size, 2, none⟩ (.slice a k p)).setCell ⟨w.heap.size, 3, none⟩ (.slice none 0 0)).setCell ⟨w.heap.size, 4, none⟩ (.slice none 0 0)).setCell ⟨w.heap.size, 5, none⟩ (.bool false)) w.heap.size 35 [.int .i64 0, .slice at_ L.length pt, .slice a k p, .slice none 0 0, .slice none 0 0, .bool false]) := ((((((HRZ.out.set 0 (.int .i64 0)).set 1 (.slice at_ L.length pt)).set 2 (.slice a k p)).set 3 (.slice none 0 0)).set 4 (.slice none 0 0)).set 5 (.bool false))
      have HBF := hide ((((((HB.out.setCell (p := ⟨w.heap.size, 0, none⟩) (Nat.le_refl _) (.int .i64 0)).setCell (p := ⟨w.heap.size, 1, none⟩) (Nat.le_refl _) (.slice at_ L.length pt)).setCell (p := ⟨w.heap.size, 2, none⟩) (Nat.le_refl _) (.slice a k p)).setCell (p := ⟨w.heap.size, 3, none⟩) (Nat.le_refl _) (.slice none 0 0)).setCell (p := ⟨w.heap.size, 4, none⟩) (Nat.le_refl _) (.slice none 0 0)).setCell (p := ⟨w.heap.size, 5, none⟩) (Nat.le_refl _) (.bool false))
      have HOTF := hide ((((((HOT.out.far ⟨w.heap.size, 0, none⟩ (.int .i64 0) (.inl (show w.heap.size < w.heap.size + 1 by omega))).far ⟨w.heap.size, 1, none⟩ (.slice at_ L.length pt) (.inl (show w.heap.size < w.heap.size + 1 by omega))).far ⟨w.heap.size, 2, none⟩ (.slice a k p) (.inl (show w.heap.size < w.heap.size + 1 by omega))).far ⟨w.heap.size, 3, none⟩ (.slice none 0 0) (.inl (show w.heap.size < w.heap.size + 1 by omega))).far ⟨w.heap.size, 4, none⟩ (.slice none 0 0) (.inl (show w.heap.size < w.heap.size + 1 by omega))).far ⟨w.heap.size, 5, none⟩ (.bool false) (.inl (show w.heap.size < w.heap.size + 1 by omega)))
      have HOF := hide (owns_apart (owns_apart (owns_apart (owns_apart (owns_apart (owns_apart HO.out ⟨w.heap.size, 0, none⟩ (.int .i64 0) (fun e => by have := (owns_lt HO.out _ (by simpa using e)).1; omega)) ⟨w.heap.size, 1, none⟩ (.slice at_ L.length pt) (fun e => by have := (owns_lt HO.out _ (by simpa using e)).1; omega)) ⟨w.heap.size, 2, none⟩ (.slice a k p) (fun e => by have := (owns_lt HO.out _ (by simpa using e)).1; omega)) ⟨w.heap.size, 3, none⟩ (.slice none 0 0) (fun e => by have := (owns_lt HO.out _ (by simpa using e)).1; omega)) ⟨w.heap.size, 4, none⟩ (.slice none 0 0) (fun e => by have := (owns_lt HO.out _ (by simpa using e)).1; omega)) ⟨w.heap.size, 5, none⟩ (.bool false) (fun e => by have := (owns_lt HO.out _ (by simpa using e)).1; omega))
      have HGL : Hid (gb < (((((((wr.setCell ⟨w.heap.size, 0, none⟩ (.int .i64 0)).setCell ⟨w.heap.size, 1, none⟩ (.slice at_ L.length pt)).setCell ⟨w.heap.size, 2, none⟩ (.slice a k p)).setCell ⟨w.heap.size, 3, none⟩ (.slice none 0 0)).setCell ⟨w.heap.size, 4, none⟩ (.slice none 0 0)).setCell ⟨w.heap.size, 5, none⟩ (.bool false))).heap.size) := by show _ < _; have := HRG.out.lt; simpa using this
      clear hkn
      go_wp2_with fail
      generalize ((((((wr.setCell ⟨w.heap.size, 0, none⟩ (.int .i64 0)).setCell ⟨w.heap.size, 1, none⟩ (.slice at_ L.length pt)).setCell ⟨w.heap.size, 2, none⟩ (.slice a k p)).setCell ⟨w.heap.size, 3, none⟩ (.slice none 0 0)).setCell ⟨w.heap.size, 4, none⟩ (.slice none 0 0)).setCell ⟨w.heap.size, 5, none⟩ (.bool false)) = W9 at *
      clear z0 z1 z2 z3 z4 z5 zf y0 y1 y2 y3 y4 y5
      have z0 := RowIs.cell (j := 0) HRF.out rfl
      have z1 := RowIs.cell (j := 1) HRF.out rfl
      have z2 := RowIs.cell (j := 2) HRF.out rfl
      have z3 := RowIs.cell (j := 3) HRF.out rfl
      have z4 := RowIs.cell (j := 4) HRF.out rfl
      have z5 := RowIs.cell (j := 5) HRF.out rfl
      refine bodyPost_ret (v := .tuple #[.agg #[.int .i64 0, .slice at_ L.length pt, .slice a k p, .slice none 0 0, .slice none 0 0, .bool false], .bool true]) (by simp [results, Tryz.results12, go_sem, *]) rfl ?_
      refine ⟨_, rfl, .inl ⟨HT.out, HT1.out, _, _, m1, rfl, by omega, by have := HM1.out; have := HGL.out; omega, HOTF.out.wide (by omega) (by omega), ?_⟩, HBF.out⟩
      rw [HKN.out]
      exact rowNs_own HOF.out
    · have hc9 : 0 < n - (k : Int) := by omega
      have hk4 : k < 4 := by omega
      go_wp2_with fail
      refine (specNewConn 4 _).mono ?_; rintro e w5 ⟨rfl, hb⟩
      have hnc : newCn 4 = (⟨⟨4, 0, []⟩, 400, [], 400, [], 2000, 2000, 500, [], false, false⟩, true) := by unfold newCn; rw [if_pos (by decide)]
      rw [hnc]
      dsimp only [cnv]
      replace HO := hide (owns_new HO.out hb)
      replace HRG := hide (HRG.out.new hb)
      replace HOT := hide (HOT.out.new hb)
      replace HRZ := hide (HRZ.out.new hb)
      replace HB := hide (bchain HB.out hb)
      clear hb hnc
      go_upto_region 7 with fail
      have hX : Below w5.heap.size w5 (w5.alloc (.cells #[.int .i64 4, .int .i64 0, .slice none 0 0, .int .i64 400, .slice none 0 0, .int .i64 400, .slice none 0 0, .int .i64 2000, .int .i64 2000, .int .i64 500, .slice none 0 0, .bool false, .bool false] 63)) := (Below.refl _ _).alloc (Nat.le_refl _) _
      have HRC := hide (rowIs_new w5 63 [.int .i64 4, .int .i64 0, .slice none 0 0, .int .i64 400, .slice none 0 0, .int .i64 400, .slice none 0 0, .int .i64 2000, .int .i64 2000, .int .i64 500, .slice none 0 0, .bool false, .bool false])
      replace HO := hide (owns_new HO.out hX)
      replace HRG := hide (HRG.out.new hX)
      replace HOT := hide (HOT.out.new hX)
      replace HRZ := hide (HRZ.out.new hX)
      replace HB := hide (bchain HB.out hX)
      clear hX
      generalize w5.heap.size = gc at *
      generalize w5.alloc (.cells #[.int .i64 4, .int .i64 0, .slice none 0 0, .int .i64 400, .slice none 0 0, .int .i64 400, .slice none 0 0, .int .i64 2000, .int .i64 2000, .int .i64 500, .slice none 0 0, .bool false, .bool false] 63) = W6 at *
      have c0 := RowIs.cell (j := 0) HRC.out rfl
      have c1 := RowIs.cell (j := 1) HRC.out rfl
      have c2 := RowIs.cell (j := 2) HRC.out rfl
      have c3 := RowIs.cell (j := 3) HRC.out rfl
      have c4 := RowIs.cell (j := 4) HRC.out rfl
      have c5 := RowIs.cell (j := 5) HRC.out rfl
      have c6 := RowIs.cell (j := 6) HRC.out rfl
      have c7 := RowIs.cell (j := 7) HRC.out rfl
      have c8 := RowIs.cell (j := 8) HRC.out rfl
      have c9 := RowIs.cell (j := 9) HRC.out rfl
      have c10 := RowIs.cell (j := 10) HRC.out rfl
      have c11 := RowIs.cell (j := 11) HRC.out rfl
      have c12 := RowIs.cell (j := 12) HRC.out rfl
      have y2 := RowIs.cell (j := 2) HRG.out rfl
      have hX : Below W6.heap.size W6 (W6.alloc (.cells #[.int .i64 4, .int .i64 0, .slice none 0 0, .int .i64 400, .slice none 0 0, .int .i64 400, .slice none 0 0, .int .i64 2000, .int .i64 2000, .int .i64 500, .slice none 0 0, .bool false, .bool false, .string ⟨#[]⟩, .string ⟨#[]⟩, .bool false] 65)) := (Below.refl _ _).alloc (Nat.le_refl _) _
      have hownX := owns_new HO.out hX
      have hRd : Reads (W6.alloc (.cells #[.int .i64 4, .int .i64 0, .slice none 0 0, .int .i64 400, .slice none 0 0, .int .i64 400, .slice none 0 0, .int .i64 2000, .int .i64 2000, .int .i64 500, .slice none 0 0, .bool false, .bool false, .string ⟨#[]⟩, .string ⟨#[]⟩, .bool false] 65)) (.slice (some ⟨W6.heap.size, 0, none⟩) 1 1) 1 16 [.int .i64 4, .int .i64 0, .slice none 0 0, .int .i64 400, .slice none 0 0, .int .i64 400, .slice none 0 0, .int .i64 2000, .int .i64 2000, .int .i64 500, .slice none 0 0, .bool false, .bool false, .string ⟨#[]⟩, .string ⟨#[]⟩, .bool false] := reads_of_owns (owns_lit W6 65 16 1 #[.int .i64 4, .int .i64 0, .slice none 0 0, .int .i64 400, .slice none 0 0, .int .i64 400, .slice none 0 0, .int .i64 2000, .int .i64 2000, .int .i64 500, .slice none 0 0, .bool false, .bool false, .string ⟨#[]⟩, .string ⟨#[]⟩, .bool false] rfl (by omega))
      have hone : ∀ y9 ∈ ([.int .i64 4, .int .i64 0, .slice none 0 0, .int .i64 400, .slice none 0 0, .int .i64 400, .slice none 0 0, .int .i64 2000, .int .i64 2000, .int .i64 500, .slice none 0 0, .bool false, .bool false, .string ⟨#[]⟩, .string ⟨#[]⟩, .bool false] : List Value), y9.oneCell' = true := by intro y9 hy9; simp at hy9; rcases hy9 with rfl | rfl | rfl | rfl | rfl | rfl | rfl | rfl | rfl | rfl | rfl | rfl | rfl | rfl | rfl | rfl <;> rfl
      have HRGX := hide (HRG.out.new hX)
      have HOTX := hide (HOT.out.new hX)
      have HRZX := hide (HRZ.out.new hX)
      have HBX := hide (bchain HB.out hX)
      have hbs : m1 ≤ (W6.alloc (.cells #[.int .i64 4, .int .i64 0, .slice none 0 0, .int .i64 400, .slice none 0 0, .int .i64 400, .slice none 0 0, .int .i64 2000, .int .i64 2000, .int .i64 500, .slice none 0 0, .bool false, .bool false, .string ⟨#[]⟩, .string ⟨#[]⟩, .bool false] 65)).heap.size := by have := HRGX.out.lt; have := HM1.out; omega
      go_wp2_with (at_builtin; refine wpList_app _ (by rfl) _ _ 31 (by rfl) 65 (.agg #[.int .i64 0, .int .i64 0, .slice none 0 0, .int .i64 0, .slice none 0 0, .int .i64 0, .slice none 0 0, .int .i64 0, .int .i64 0, .int .i64 0, .slice none 0 0, .bool false, .bool false, .string ⟨#[]⟩, .string ⟨#[]⟩, .bool false]) 16 200 Tryz.underlying31 (by kernel_rfl) rfl (by decide) m1 _ k (rowNs k) (by rfl) hownX _ 1 [.int .i64 4, .int .i64 0, .slice none 0 0, .int .i64 400, .slice none 0 0, .int .i64 400, .slice none 0 0, .int .i64 2000, .int .i64 2000, .int .i64 500, .slice none 0 0, .bool false, .bool false, .string ⟨#[]⟩, .string ⟨#[]⟩, .bool false] (by rfl) hRd hone (by omega) (by decide) hbs ?_)
      intro ad7 cap7 w7 hown7 hg7 hat7
      have hkeep : ∀ q, q < m1 → q < (W6.alloc (.cells #[.int .i64 4, .int .i64 0, .slice none 0 0, .int .i64 400, .slice none 0 0, .int .i64 400, .slice none 0 0, .int .i64 2000, .int .i64 2000, .int .i64 500, .slice none 0 0, .bool false, .bool false, .string ⟨#[]⟩, .string ⟨#[]⟩, .bool false] 65)).heap.size → w7.heap[q]? = (W6.alloc (.cells #[.int .i64 4, .int .i64 0, .slice none 0 0, .int .i64 400, .slice none 0 0, .int .i64 400, .slice none 0 0, .int .i64 2000, .int .i64 2000, .int .i64 500, .slice none 0 0, .bool false, .bool false, .string ⟨#[]⟩, .string ⟨#[]⟩, .bool false] 65)).heap[q]? := fun q hq hl => hg7.block q hl (fun e => by have := (hownX.lt q e.symm).1; omega)
      have HB7 : Hid (Below w.heap.size w w7) := by
        have hb := HBX.out
        exact ⟨hg7.os.trans hb.os, hg7.tape.trans hb.tape, hg7.output.trans hb.output, Nat.le_trans hb.size hg7.size, fun q hq => (hkeep q (by omega) (by have := hb.size; omega)).trans (hb.block q hq)⟩
      have HRG7 := hide (HRGX.out.kept (hkeep _ hm2 HRGX.out.lt))
      have HRZ7 := hide (HRZX.out.kept (hkeep _ (by omega) HRZX.out.lt))
      have HOT7 := hide (show OwX tenantS w7 (w.heap.size + 1) gb (.slice at_ L.length pt) L by
        obtain ⟨bs, b1, b2, b3⟩ := HOTX.out
        exact ⟨bs, b1.keep hg7.size (fun b hb => hkeep b (by have := b3 b hb; omega) (b1.lt b hb)), b2, b3⟩)
      rw [← rowNs_succ] at hown7
      have HO7 := hide hown7
      clear hown7 hg7 hat7 hownX hRd hX hbs hone HRGX HOTX HRZX HBX HO HRG HOT HRZ HB HRC y2 hkeep c0 c1 c2 c3 c4 c5 c6 c7 c8 c9 c10 c11 c12
      have y2 := RowIs.cell (j := 2) HRG7.out rfl
      have yf := RowIs.frozen HRG7.out 2
      have yl := HRG7.out.lt
      have HRG8 := hide (show RowIs (w7.setCell ⟨gb, 2, none⟩ (.slice ad7 (k + 1) cap7)) gb 35 [.int .i64 0, .slice at_ L.length pt, .slice ad7 (k + 1) cap7, .slice none 0 0, .slice none 0 0, .bool false] from HRG7.out.set 2 (.slice ad7 (k + 1) cap7))
      have HRZ8 := hide (HRZ7.out.far ⟨gb, 2, none⟩ (.slice ad7 (k + 1) cap7) (show gb ≠ w.heap.size by omega))
      have HOT8 := hide (HOT7.out.far ⟨gb, 2, none⟩ (.slice ad7 (k + 1) cap7) (.inr (Nat.le_refl gb)))
      have HO8 := hide (owns_apart HO7.out ⟨gb, 2, none⟩ (.slice ad7 (k + 1) cap7) (fun e => by have := (owns_lt HO7.out _ e).1; dsimp only at this; omega))
      have HB8 := hide (HB7.out.setCell (p := ⟨gb, 2, none⟩) (show w.heap.size ≤ gb by omega) (.slice ad7 (k + 1) cap7))
      clear HRG7 HRZ7 HOT7 HO7 HB7
      go_wp2_with fail
      go_roundw
      case rel => exact ⟨k + 1, ad7, cap7, int_eq (by omega), by omega, HO8, HRG8, HOT8, HRZ8, HB8⟩
      case measure => simp [intOf]; omega
end Go.Proofs.YtkhclhnejnpkeaaGreat
/- NewGate of the program (by gen_gatenew.py). -/
namespace Go.Proofs.YtkhclhnejnpkeaaGreat
open Go.RowKit
set_option maxRecDepth 100000
set_option linter.unusedSimpArgs false
set_option linter.unusedVariables false
set_option maxHeartbeats 8000000 in
theorem implNewGate (L : List TenantD) (n : Int) (v : Value) (w : World) (hr : RdR tenantS w v L) :
    Calls Tryz.prog 14 #[v, .int .i64 n] w fun x w' => ∃ y, x = .returned y ∧ NewG w' w.heap.size L n y ∧ Below w.heap.size w w' := by
  obtain ⟨ad, cap, rfl, _, _⟩ := hr.form
  have HR := hide hr
  clear hr
  have HRZ : Hid (RowIs (w.alloc (.cells #[.int .i64 0, .slice none 0 0, .slice none 0 0, .slice none 0 0, .slice none 0 0, .bool false] 35)) w.heap.size 35 [.int .i64 0, .slice none 0 0, .slice none 0 0, .slice none 0 0, .slice none 0 0, .bool false]) := rowIs_new w 35 [.int .i64 0, .slice none 0 0, .slice none 0 0, .slice none 0 0, .slice none 0 0, .bool false]
  have HB : Hid (Below w.heap.size w (w.alloc (.cells #[.int .i64 0, .slice none 0 0, .slice none 0 0, .slice none 0 0, .slice none 0 0, .bool false] 35))) := (Below.refl _ _).alloc (Nat.le_refl _) _
  have hW1 : w.heap.size + 1 ≤ (w.alloc (.cells #[.int .i64 0, .slice none 0 0, .slice none 0 0, .slice none 0 0, .slice none 0 0, .bool false] 35)).heap.size := by simp
  have HW1 := hide hW1
  clear hW1
  go_enter Tryz.func14, Tryz.ntmps14
  go_upto_region 1 with fail
  generalize w.alloc (.cells #[.int .i64 0, .slice none 0 0, .slice none 0 0, .slice none 0 0, .slice none 0 0, .bool false] 35) = W1 at *
  go_wp2_with fail
  refine (implTenantsOk L _ _ (HR.out.new HB.out)).mono ?_; rintro e w2 ⟨rfl, hb⟩
  replace HRZ := hide (HRZ.out.new hb)
  replace HB := hide (bchain HB.out hb)
  have HW2 : Hid (w.heap.size + 1 ≤ w2.heap.size) := Nat.le_trans HW1.out hb.size
  clear hb HW1
  cases t0 : okTs L
  · have HN : Hid (¬ (okTs L = true ∧ inB n 1 4 = true)) := fun h => by rw [t0] at h; cases h.1
    skip
    have z0 := RowIs.cell (j := 0) HRZ.out rfl
    have z1 := RowIs.cell (j := 1) HRZ.out rfl
    have z2 := RowIs.cell (j := 2) HRZ.out rfl
    have z3 := RowIs.cell (j := 3) HRZ.out rfl
    have z4 := RowIs.cell (j := 4) HRZ.out rfl
    have z5 := RowIs.cell (j := 5) HRZ.out rfl
    have zf := fun j => RowIs.frozen HRZ.out j
    have HRF : Hid (RowIs ((((((w2.setCell ⟨w.heap.size, 0, none⟩ (.int .i64 0)).setCell ⟨w.heap.size, 1, none⟩ (.slice none 0 0)).setCell ⟨w.heap.size, 2, none⟩ (.slice none 0 0)).setCell ⟨w.heap.size, 3, none⟩ (.slice none 0 0)).setCell ⟨w.heap.size, 4, none⟩ (.slice none 0 0)).setCell ⟨w.heap.size, 5, none⟩ (.bool false)) w.heap.size 35 [.int .i64 0, .slice none 0 0, .slice none 0 0, .slice none 0 0, .slice none 0 0, .bool false]) := (((((HRZ.out.set 0 (.int .i64 0)).set 1 (.slice none 0 0)).set 2 (.slice none 0 0)).set 3 (.slice none 0 0)).set 4 (.slice none 0 0)).set 5 (.bool false)
    have HBF := hide ((((((HB.out.setCell (p := ⟨w.heap.size, 0, none⟩) (Nat.le_refl _) (.int .i64 0)).setCell (p := ⟨w.heap.size, 1, none⟩) (Nat.le_refl _) (.slice none 0 0)).setCell (p := ⟨w.heap.size, 2, none⟩) (Nat.le_refl _) (.slice none 0 0)).setCell (p := ⟨w.heap.size, 3, none⟩) (Nat.le_refl _) (.slice none 0 0)).setCell (p := ⟨w.heap.size, 4, none⟩) (Nat.le_refl _) (.slice none 0 0)).setCell (p := ⟨w.heap.size, 5, none⟩) (Nat.le_refl _) (.bool false))
    have HRZ9 := HRZ
    go_wp2_with fail
    generalize ((((((w2.setCell ⟨w.heap.size, 0, none⟩ (.int .i64 0)).setCell ⟨w.heap.size, 1, none⟩ (.slice none 0 0)).setCell ⟨w.heap.size, 2, none⟩ (.slice none 0 0)).setCell ⟨w.heap.size, 3, none⟩ (.slice none 0 0)).setCell ⟨w.heap.size, 4, none⟩ (.slice none 0 0)).setCell ⟨w.heap.size, 5, none⟩ (.bool false)) = W9 at *
    clear z0 z1 z2 z3 z4 z5 zf
    have z0 := RowIs.cell (j := 0) HRF.out rfl
    have z1 := RowIs.cell (j := 1) HRF.out rfl
    have z2 := RowIs.cell (j := 2) HRF.out rfl
    have z3 := RowIs.cell (j := 3) HRF.out rfl
    have z4 := RowIs.cell (j := 4) HRF.out rfl
    have z5 := RowIs.cell (j := 5) HRF.out rfl
    refine bodyPost_ret (v := .tuple #[.agg #[.int .i64 0, .slice none 0 0, .slice none 0 0, .slice none 0 0, .slice none 0 0, .bool false], .bool false]) (by simp [results, Tryz.results14, go_sem, *]) rfl ?_
    exact ⟨_, rfl, .inr ⟨HN.out, rfl⟩, HBF.out⟩
  have HT := hide t0
  have hl8 : L.length ≤ 8 := (okTs_iff.1 t0).1
  have HTA : Hid (∀ f ∈ L, okTn f = true) := fun f hf => by obtain ⟨i, hi, rfl⟩ := List.getElem_of_mem hf; have := ((okTs_iff.1 t0).2 i hi).1; rwa [tn_get hi] at this
  clear t0
  go_wp2_with fail
  refine (implWithin n 1 4 _).mono ?_; rintro e wq ⟨rfl, hsame⟩; obtain rfl := hsame.symm; clear hsame
  cases t1 : inB n 1 4
  · have HN : Hid (¬ (okTs L = true ∧ inB n 1 4 = true)) := fun h => by rw [t1] at h; cases h.2
    have z0 := RowIs.cell (j := 0) HRZ.out rfl
    have z1 := RowIs.cell (j := 1) HRZ.out rfl
    have z2 := RowIs.cell (j := 2) HRZ.out rfl
    have z3 := RowIs.cell (j := 3) HRZ.out rfl
    have z4 := RowIs.cell (j := 4) HRZ.out rfl
    have z5 := RowIs.cell (j := 5) HRZ.out rfl
    have zf := fun j => RowIs.frozen HRZ.out j
    have HRF : Hid (RowIs ((((((w2.setCell ⟨w.heap.size, 0, none⟩ (.int .i64 0)).setCell ⟨w.heap.size, 1, none⟩ (.slice none 0 0)).setCell ⟨w.heap.size, 2, none⟩ (.slice none 0 0)).setCell ⟨w.heap.size, 3, none⟩ (.slice none 0 0)).setCell ⟨w.heap.size, 4, none⟩ (.slice none 0 0)).setCell ⟨w.heap.size, 5, none⟩ (.bool false)) w.heap.size 35 [.int .i64 0, .slice none 0 0, .slice none 0 0, .slice none 0 0, .slice none 0 0, .bool false]) := (((((HRZ.out.set 0 (.int .i64 0)).set 1 (.slice none 0 0)).set 2 (.slice none 0 0)).set 3 (.slice none 0 0)).set 4 (.slice none 0 0)).set 5 (.bool false)
    have HBF := hide ((((((HB.out.setCell (p := ⟨w.heap.size, 0, none⟩) (Nat.le_refl _) (.int .i64 0)).setCell (p := ⟨w.heap.size, 1, none⟩) (Nat.le_refl _) (.slice none 0 0)).setCell (p := ⟨w.heap.size, 2, none⟩) (Nat.le_refl _) (.slice none 0 0)).setCell (p := ⟨w.heap.size, 3, none⟩) (Nat.le_refl _) (.slice none 0 0)).setCell (p := ⟨w.heap.size, 4, none⟩) (Nat.le_refl _) (.slice none 0 0)).setCell (p := ⟨w.heap.size, 5, none⟩) (Nat.le_refl _) (.bool false))
    have HRZ9 := HRZ
    go_wp2_with fail
    generalize ((((((w2.setCell ⟨w.heap.size, 0, none⟩ (.int .i64 0)).setCell ⟨w.heap.size, 1, none⟩ (.slice none 0 0)).setCell ⟨w.heap.size, 2, none⟩ (.slice none 0 0)).setCell ⟨w.heap.size, 3, none⟩ (.slice none 0 0)).setCell ⟨w.heap.size, 4, none⟩ (.slice none 0 0)).setCell ⟨w.heap.size, 5, none⟩ (.bool false)) = W9 at *
    clear z0 z1 z2 z3 z4 z5 zf
    have z0 := RowIs.cell (j := 0) HRF.out rfl
    have z1 := RowIs.cell (j := 1) HRF.out rfl
    have z2 := RowIs.cell (j := 2) HRF.out rfl
    have z3 := RowIs.cell (j := 3) HRF.out rfl
    have z4 := RowIs.cell (j := 4) HRF.out rfl
    have z5 := RowIs.cell (j := 5) HRF.out rfl
    refine bodyPost_ret (v := .tuple #[.agg #[.int .i64 0, .slice none 0 0, .slice none 0 0, .slice none 0 0, .slice none 0 0, .bool false], .bool false]) (by simp [results, Tryz.results14, go_sem, *]) rfl ?_
    exact ⟨_, rfl, .inr ⟨HN.out, rfl⟩, HBF.out⟩
  have hn := inB_true t1
  have HT1 := hide t1
  clear t1
  go_wp2_with fail
  refine (implEachTenant L _ _ (HR.out.new HB.out) HTA.out hl8).mono ?_; rintro e w3 ⟨vt, rfl, ho, hb⟩
  obtain ⟨at_, pt, rfl, _, _⟩ := ho.form
  have hz2 := HW2.out
  have HOT := hide (ho.wide (lo' := w.heap.size + 1) hz2 (Nat.le_refl _))
  have HW3 : Hid (w.heap.size + 1 ≤ w3.heap.size) := Nat.le_trans hz2 hb.size
  replace HRZ := hide (HRZ.out.new hb)
  replace HB := hide (bchain HB.out hb)
  clear ho hb hz2 HW2
  go_upto_region 4 with fail
  have hX : Below w3.heap.size w3 (w3.alloc (.cells #[.int .i64 0, .slice at_ L.length pt, .slice none 0 0, .slice none 0 0, .slice none 0 0, .bool false] 35)) := (Below.refl _ _).alloc (Nat.le_refl _) _
  have HRG := hide (rowIs_new w3 35 [.int .i64 0, .slice at_ L.length pt, .slice none 0 0, .slice none 0 0, .slice none 0 0, .bool false])
  replace HOT := hide (HOT.out.new hX)
  replace HRZ := hide (HRZ.out.new hX)
  replace HB := hide (bchain HB.out hX)
  have hgw : w.heap.size + 1 ≤ w3.heap.size := HW3.out
  have HGX : Hid (w3.heap.size + 1 ≤ (w3.alloc (.cells #[.int .i64 0, .slice at_ L.length pt, .slice none 0 0, .slice none 0 0, .slice none 0 0, .bool false] 35)).heap.size) := by show _ ≤ _; simp
  clear hX HW3
  generalize w3.heap.size = gb at *
  generalize w3.alloc (.cells #[.int .i64 0, .slice at_ L.length pt, .slice none 0 0, .slice none 0 0, .slice none 0 0, .bool false] 35) = W4 at *
  obtain ⟨m1, hm1⟩ : ∃ m, m = gb + 1 := ⟨_, rfl⟩
  have hm2 : gb < m1 := by omega
  have HM1 := hide hm1
  have HOR : Hid (W4.ownsRow m1 65 16 (.slice none 0 0) 0 (rowNs 0)) := World.ownsRow_nil W4 m1 65 16
  clear hm1 HGX
  go_wp2_with fail
  go_loopw [22] (fun i wr => ∃ (k : Nat) (a : Option Addr) (p : Nat), i = .int .i64 (k : Int) ∧ (k : Int) ≤ n ∧ Hid (wr.ownsRow m1 65 16 (.slice a k p) k (rowNs k)) ∧ Hid (RowIs wr gb 35 [.int .i64 0, .slice at_ L.length pt, .slice a k p, .slice none 0 0, .slice none 0 0, .bool false]) ∧ Hid (OwX tenantS wr (w.heap.size + 1) gb (.slice at_ L.length pt) L) ∧ Hid (RowIs wr w.heap.size 35 [.int .i64 0, .slice none 0 0, .slice none 0 0, .slice none 0 0, .slice none 0 0, .bool false]) ∧ Hid (Below w.heap.size w wr)) (fun i _ => (n - intOf i).toNat)
  case atStart => exact ⟨0, none, 0, rfl, by omega, HOR, HRG, HOT, HRZ, HB⟩
  case round =>
    clear HOR HRG HOT HRZ HB
    obtain ⟨k, a, p, rfl, hk, HO, HRG, HOT, HRZ, HB⟩ := hrel
    by_cases hlt : (k : Int) < n
    rotate_left
    · have hkn : (k : Int) = n := by omega
      have hc9 : ¬ (k : Int) < n := by omega
      have HKN : Hid (n.toNat = k) := by show _ = _; omega
      have y0 := RowIs.cell (j := 0) HRG.out rfl
      have y1 := RowIs.cell (j := 1) HRG.out rfl
      have y2 := RowIs.cell (j := 2) HRG.out rfl
      have y3 := RowIs.cell (j := 3) HRG.out rfl
      have y4 := RowIs.cell (j := 4) HRG.out rfl
      have y5 := RowIs.cell (j := 5) HRG.out rfl
      have z0 := RowIs.cell (j := 0) HRZ.out rfl
      have z1 := RowIs.cell (j := 1) HRZ.out rfl
      have z2 := RowIs.cell (j := 2) HRZ.out rfl
      have z3 := RowIs.cell (j := 3) HRZ.out rfl
      have z4 := RowIs.cell (j := 4) HRZ.out rfl
      have z5 := RowIs.cell (j := 5) HRZ.out rfl
      have zf := fun j => RowIs.frozen HRZ.out j
      have hgne : w.heap.size ≠ gb := by omega
      have HRF : Hid (RowIs ((((((wr.setCell ⟨w.heap.size, 0, none⟩ (.int .i64 0)).setCell ⟨w.heap.size, 1, none⟩ (.slice at_ L.length pt)).setCell ⟨w.heap.size, 2, none⟩ (.slice a k p)).setCell ⟨w.heap.size, 3, none⟩ (.slice none 0 0)).setCell ⟨w.heap.size, 4, none⟩ (.slice none 0 0)).setCell ⟨w.heap.size, 5, none⟩ (.bool false)) w.heap.size 35 [.int .i64 0, .slice at_ L.length pt, .slice a k p, .slice none 0 0, .slice none 0 0, .bool false]) := ((((((HRZ.out.set 0 (.int .i64 0)).set 1 (.slice at_ L.length pt)).set 2 (.slice a k p)).set 3 (.slice none 0 0)).set 4 (.slice none 0 0)).set 5 (.bool false))
      have HBF := hide ((((((HB.out.setCell (p := ⟨w.heap.size, 0, none⟩) (Nat.le_refl _) (.int .i64 0)).setCell (p := ⟨w.heap.size, 1, none⟩) (Nat.le_refl _) (.slice at_ L.length pt)).setCell (p := ⟨w.heap.size, 2, none⟩) (Nat.le_refl _) (.slice a k p)).setCell (p := ⟨w.heap.size, 3, none⟩) (Nat.le_refl _) (.slice none 0 0)).setCell (p := ⟨w.heap.size, 4, none⟩) (Nat.le_refl _) (.slice none 0 0)).setCell (p := ⟨w.heap.size, 5, none⟩) (Nat.le_refl _) (.bool false))
      have HOTF := hide ((((((HOT.out.far ⟨w.heap.size, 0, none⟩ (.int .i64 0) (.inl (show w.heap.size < w.heap.size + 1 by omega))).far ⟨w.heap.size, 1, none⟩ (.slice at_ L.length pt) (.inl (show w.heap.size < w.heap.size + 1 by omega))).far ⟨w.heap.size, 2, none⟩ (.slice a k p) (.inl (show w.heap.size < w.heap.size + 1 by omega))).far ⟨w.heap.size, 3, none⟩ (.slice none 0 0) (.inl (show w.heap.size < w.heap.size + 1 by omega))).far ⟨w.heap.size, 4, none⟩ (.slice none 0 0) (.inl (show w.heap.size < w.heap.size + 1 by omega))).far ⟨w.heap.size, 5, none⟩ (.bool false) (.inl (show w.heap.size < w.heap.size + 1 by omega)))
      have HOF := hide (owns_apart (owns_apart (owns_apart (owns_apart (owns_apart (owns_apart HO.out ⟨w.heap.size, 0, none⟩ (.int .i64 0) (fun e => by have := (owns_lt HO.out _ (by simpa using e)).1; omega)) ⟨w.heap.size, 1, none⟩ (.slice at_ L.length pt) (fun e => by have := (owns_lt HO.out _ (by simpa using e)).1; omega)) ⟨w.heap.size, 2, none⟩ (.slice a k p) (fun e => by have := (owns_lt HO.out _ (by simpa using e)).1; omega)) ⟨w.heap.size, 3, none⟩ (.slice none 0 0) (fun e => by have := (owns_lt HO.out _ (by simpa using e)).1; omega)) ⟨w.heap.size, 4, none⟩ (.slice none 0 0) (fun e => by have := (owns_lt HO.out _ (by simpa using e)).1; omega)) ⟨w.heap.size, 5, none⟩ (.bool false) (fun e => by have := (owns_lt HO.out _ (by simpa using e)).1; omega))
      have HGL : Hid (gb < (((((((wr.setCell ⟨w.heap.size, 0, none⟩ (.int .i64 0)).setCell ⟨w.heap.size, 1, none⟩ (.slice at_ L.length pt)).setCell ⟨w.heap.size, 2, none⟩ (.slice a k p)).setCell ⟨w.heap.size, 3, none⟩ (.slice none 0 0)).setCell ⟨w.heap.size, 4, none⟩ (.slice none 0 0)).setCell ⟨w.heap.size, 5, none⟩ (.bool false))).heap.size) := by show _ < _; have := HRG.out.lt; simpa using this
      clear hkn
      go_wp2_with fail
      generalize ((((((wr.setCell ⟨w.heap.size, 0, none⟩ (.int .i64 0)).setCell ⟨w.heap.size, 1, none⟩ (.slice at_ L.length pt)).setCell ⟨w.heap.size, 2, none⟩ (.slice a k p)).setCell ⟨w.heap.size, 3, none⟩ (.slice none 0 0)).setCell ⟨w.heap.size, 4, none⟩ (.slice none 0 0)).setCell ⟨w.heap.size, 5, none⟩ (.bool false)) = W9 at *
      clear z0 z1 z2 z3 z4 z5 zf y0 y1 y2 y3 y4 y5
      have z0 := RowIs.cell (j := 0) HRF.out rfl
      have z1 := RowIs.cell (j := 1) HRF.out rfl
      have z2 := RowIs.cell (j := 2) HRF.out rfl
      have z3 := RowIs.cell (j := 3) HRF.out rfl
      have z4 := RowIs.cell (j := 4) HRF.out rfl
      have z5 := RowIs.cell (j := 5) HRF.out rfl
      refine bodyPost_ret (v := .tuple #[.agg #[.int .i64 0, .slice at_ L.length pt, .slice a k p, .slice none 0 0, .slice none 0 0, .bool false], .bool true]) (by simp [results, Tryz.results14, go_sem, *]) rfl ?_
      refine ⟨_, rfl, .inl ⟨HT.out, HT1.out, _, _, m1, rfl, by omega, by have := HM1.out; have := HGL.out; omega, HOTF.out.wide (by omega) (by omega), ?_⟩, HBF.out⟩
      rw [HKN.out]
      exact rowNs_own HOF.out
    · have hc9 : (k : Int) < n := by omega
      have hk4 : k < 4 := by omega
      go_wp2_with fail
      refine (implNewConn 4 _).mono ?_; rintro e w5 ⟨rfl, hb⟩
      have hnc : newCn 4 = (⟨⟨4, 0, []⟩, 400, [], 400, [], 2000, 2000, 500, [], false, false⟩, true) := by unfold newCn; rw [if_pos (by decide)]
      rw [hnc]
      dsimp only [cnv]
      replace HO := hide (owns_new HO.out hb)
      replace HRG := hide (HRG.out.new hb)
      replace HOT := hide (HOT.out.new hb)
      replace HRZ := hide (HRZ.out.new hb)
      replace HB := hide (bchain HB.out hb)
      clear hb hnc
      go_upto_region 7 with fail
      have hX : Below w5.heap.size w5 (w5.alloc (.cells #[.int .i64 4, .int .i64 0, .slice none 0 0, .int .i64 400, .slice none 0 0, .int .i64 400, .slice none 0 0, .int .i64 2000, .int .i64 2000, .int .i64 500, .slice none 0 0, .bool false, .bool false] 63)) := (Below.refl _ _).alloc (Nat.le_refl _) _
      have HRC := hide (rowIs_new w5 63 [.int .i64 4, .int .i64 0, .slice none 0 0, .int .i64 400, .slice none 0 0, .int .i64 400, .slice none 0 0, .int .i64 2000, .int .i64 2000, .int .i64 500, .slice none 0 0, .bool false, .bool false])
      replace HO := hide (owns_new HO.out hX)
      replace HRG := hide (HRG.out.new hX)
      replace HOT := hide (HOT.out.new hX)
      replace HRZ := hide (HRZ.out.new hX)
      replace HB := hide (bchain HB.out hX)
      clear hX
      generalize w5.heap.size = gc at *
      generalize w5.alloc (.cells #[.int .i64 4, .int .i64 0, .slice none 0 0, .int .i64 400, .slice none 0 0, .int .i64 400, .slice none 0 0, .int .i64 2000, .int .i64 2000, .int .i64 500, .slice none 0 0, .bool false, .bool false] 63) = W6 at *
      have c0 := RowIs.cell (j := 0) HRC.out rfl
      have c1 := RowIs.cell (j := 1) HRC.out rfl
      have c2 := RowIs.cell (j := 2) HRC.out rfl
      have c3 := RowIs.cell (j := 3) HRC.out rfl
      have c4 := RowIs.cell (j := 4) HRC.out rfl
      have c5 := RowIs.cell (j := 5) HRC.out rfl
      have c6 := RowIs.cell (j := 6) HRC.out rfl
      have c7 := RowIs.cell (j := 7) HRC.out rfl
      have c8 := RowIs.cell (j := 8) HRC.out rfl
      have c9 := RowIs.cell (j := 9) HRC.out rfl
      have c10 := RowIs.cell (j := 10) HRC.out rfl
      have c11 := RowIs.cell (j := 11) HRC.out rfl
      have c12 := RowIs.cell (j := 12) HRC.out rfl
      have y2 := RowIs.cell (j := 2) HRG.out rfl
      have hX : Below W6.heap.size W6 (W6.alloc (.cells #[.int .i64 4, .int .i64 0, .slice none 0 0, .int .i64 400, .slice none 0 0, .int .i64 400, .slice none 0 0, .int .i64 2000, .int .i64 2000, .int .i64 500, .slice none 0 0, .bool false, .bool false, .string ⟨#[]⟩, .string ⟨#[]⟩, .bool false] 65)) := (Below.refl _ _).alloc (Nat.le_refl _) _
      have hownX := owns_new HO.out hX
      have hRd : Reads (W6.alloc (.cells #[.int .i64 4, .int .i64 0, .slice none 0 0, .int .i64 400, .slice none 0 0, .int .i64 400, .slice none 0 0, .int .i64 2000, .int .i64 2000, .int .i64 500, .slice none 0 0, .bool false, .bool false, .string ⟨#[]⟩, .string ⟨#[]⟩, .bool false] 65)) (.slice (some ⟨W6.heap.size, 0, none⟩) 1 1) 1 16 [.int .i64 4, .int .i64 0, .slice none 0 0, .int .i64 400, .slice none 0 0, .int .i64 400, .slice none 0 0, .int .i64 2000, .int .i64 2000, .int .i64 500, .slice none 0 0, .bool false, .bool false, .string ⟨#[]⟩, .string ⟨#[]⟩, .bool false] := reads_of_owns (owns_lit W6 65 16 1 #[.int .i64 4, .int .i64 0, .slice none 0 0, .int .i64 400, .slice none 0 0, .int .i64 400, .slice none 0 0, .int .i64 2000, .int .i64 2000, .int .i64 500, .slice none 0 0, .bool false, .bool false, .string ⟨#[]⟩, .string ⟨#[]⟩, .bool false] rfl (by omega))
      have hone : ∀ y9 ∈ ([.int .i64 4, .int .i64 0, .slice none 0 0, .int .i64 400, .slice none 0 0, .int .i64 400, .slice none 0 0, .int .i64 2000, .int .i64 2000, .int .i64 500, .slice none 0 0, .bool false, .bool false, .string ⟨#[]⟩, .string ⟨#[]⟩, .bool false] : List Value), y9.oneCell' = true := by intro y9 hy9; simp at hy9; rcases hy9 with rfl | rfl | rfl | rfl | rfl | rfl | rfl | rfl | rfl | rfl | rfl | rfl | rfl | rfl | rfl | rfl <;> rfl
      have HRGX := hide (HRG.out.new hX)
      have HOTX := hide (HOT.out.new hX)
      have HRZX := hide (HRZ.out.new hX)
      have HBX := hide (bchain HB.out hX)
      have hbs : m1 ≤ (W6.alloc (.cells #[.int .i64 4, .int .i64 0, .slice none 0 0, .int .i64 400, .slice none 0 0, .int .i64 400, .slice none 0 0, .int .i64 2000, .int .i64 2000, .int .i64 500, .slice none 0 0, .bool false, .bool false, .string ⟨#[]⟩, .string ⟨#[]⟩, .bool false] 65)).heap.size := by have := HRGX.out.lt; have := HM1.out; omega
      go_wp2_with (at_builtin; refine wpList_app _ (by rfl) _ _ 31 (by rfl) 65 (.agg #[.int .i64 0, .int .i64 0, .slice none 0 0, .int .i64 0, .slice none 0 0, .int .i64 0, .slice none 0 0, .int .i64 0, .int .i64 0, .int .i64 0, .slice none 0 0, .bool false, .bool false, .string ⟨#[]⟩, .string ⟨#[]⟩, .bool false]) 16 200 Tryz.underlying31 (by kernel_rfl) rfl (by decide) m1 _ k (rowNs k) (by rfl) hownX _ 1 [.int .i64 4, .int .i64 0, .slice none 0 0, .int .i64 400, .slice none 0 0, .int .i64 400, .slice none 0 0, .int .i64 2000, .int .i64 2000, .int .i64 500, .slice none 0 0, .bool false, .bool false, .string ⟨#[]⟩, .string ⟨#[]⟩, .bool false] (by rfl) hRd hone (by omega) (by decide) hbs ?_)
      intro ad7 cap7 w7 hown7 hg7 hat7
      have hkeep : ∀ q, q < m1 → q < (W6.alloc (.cells #[.int .i64 4, .int .i64 0, .slice none 0 0, .int .i64 400, .slice none 0 0, .int .i64 400, .slice none 0 0, .int .i64 2000, .int .i64 2000, .int .i64 500, .slice none 0 0, .bool false, .bool false, .string ⟨#[]⟩, .string ⟨#[]⟩, .bool false] 65)).heap.size → w7.heap[q]? = (W6.alloc (.cells #[.int .i64 4, .int .i64 0, .slice none 0 0, .int .i64 400, .slice none 0 0, .int .i64 400, .slice none 0 0, .int .i64 2000, .int .i64 2000, .int .i64 500, .slice none 0 0, .bool false, .bool false, .string ⟨#[]⟩, .string ⟨#[]⟩, .bool false] 65)).heap[q]? := fun q hq hl => hg7.block q hl (fun e => by have := (hownX.lt q e.symm).1; omega)
      have HB7 : Hid (Below w.heap.size w w7) := by
        have hb := HBX.out
        exact ⟨hg7.os.trans hb.os, hg7.tape.trans hb.tape, hg7.output.trans hb.output, Nat.le_trans hb.size hg7.size, fun q hq => (hkeep q (by omega) (by have := hb.size; omega)).trans (hb.block q hq)⟩
      have HRG7 := hide (HRGX.out.kept (hkeep _ hm2 HRGX.out.lt))
      have HRZ7 := hide (HRZX.out.kept (hkeep _ (by omega) HRZX.out.lt))
      have HOT7 := hide (show OwX tenantS w7 (w.heap.size + 1) gb (.slice at_ L.length pt) L by
        obtain ⟨bs, b1, b2, b3⟩ := HOTX.out
        exact ⟨bs, b1.keep hg7.size (fun b hb => hkeep b (by have := b3 b hb; omega) (b1.lt b hb)), b2, b3⟩)
      rw [← rowNs_succ] at hown7
      have HO7 := hide hown7
      clear hown7 hg7 hat7 hownX hRd hX hbs hone HRGX HOTX HRZX HBX HO HRG HOT HRZ HB HRC y2 hkeep c0 c1 c2 c3 c4 c5 c6 c7 c8 c9 c10 c11 c12
      have y2 := RowIs.cell (j := 2) HRG7.out rfl
      have yf := RowIs.frozen HRG7.out 2
      have yl := HRG7.out.lt
      have HRG8 := hide (show RowIs (w7.setCell ⟨gb, 2, none⟩ (.slice ad7 (k + 1) cap7)) gb 35 [.int .i64 0, .slice at_ L.length pt, .slice ad7 (k + 1) cap7, .slice none 0 0, .slice none 0 0, .bool false] from HRG7.out.set 2 (.slice ad7 (k + 1) cap7))
      have HRZ8 := hide (HRZ7.out.far ⟨gb, 2, none⟩ (.slice ad7 (k + 1) cap7) (show gb ≠ w.heap.size by omega))
      have HOT8 := hide (HOT7.out.far ⟨gb, 2, none⟩ (.slice ad7 (k + 1) cap7) (.inr (Nat.le_refl gb)))
      have HO8 := hide (owns_apart HO7.out ⟨gb, 2, none⟩ (.slice ad7 (k + 1) cap7) (fun e => by have := (owns_lt HO7.out _ e).1; dsimp only at this; omega))
      have HB8 := hide (HB7.out.setCell (p := ⟨gb, 2, none⟩) (show w.heap.size ≤ gb by omega) (.slice ad7 (k + 1) cap7))
      clear HRG7 HRZ7 HOT7 HO7 HB7
      go_wp2_with fail
      go_roundw
      case rel => exact ⟨k + 1, ad7, cap7, by go_num, by omega, HO8, HRG8, HOT8, HRZ8, HB8⟩
      case measure => simp [intOf]; omega
end Go.Proofs.YtkhclhnejnpkeaaGreat
/- A gate that was answered: held against another one, marked, read again (by gen_exactnewgate.py). -/
namespace Go.Proofs.YtkhclhnejnpkeaaGreat
open Go.RowKit
set_option maxRecDepth 100000
set_option linter.unusedSimpArgs false
set_option linter.unusedVariables false
theorem nilMarkDial (k : Nat) (w : World) (hk : k ≤ 1000000000) : Calls Tryz.prog 49 #[.slice none 0 0, .int .i64 k] w fun x w' => x = .returned (.int .i64 (k : Int)) ∧ Below w.heap.size w w' := by
  have h0 : cntDialS [] = 0 := rfl
  have h := markDialS [] k (.slice none 0 0) [] w (owR_nil w) (by simp) (by rw [h0]; omega)
  refine h.mono ?_
  rintro x w' ⟨rfl, _, ht⟩
  exact ⟨by rw [h0]; rfl, below_turn0 ht⟩
theorem nilHeldDial (k : Nat) (w : World) (hk : k ≤ 1000000000) : Calls Tryz.prog 53 #[.slice none 0 0, .int .i64 k] w fun x w' => x = .returned (.int .i64 (k : Int)) ∧ Below w.heap.size w w' := by
  have h0 : cntDialS [] = 0 := rfl
  have h := heldDialS [] k (.slice none 0 0) w (rdR_nil w) (by rw [h0]; omega)
  refine h.mono ?_
  rintro x w' ⟨rfl, hb⟩
  exact ⟨by rw [h0]; rfl, hb⟩
theorem nilMarkFlight (k : Nat) (w : World) (hk : k ≤ 1000000000) : Calls Tryz.prog 50 #[.slice none 0 0, .int .i64 k] w fun x w' => x = .returned (.int .i64 (k : Int)) ∧ Below w.heap.size w w' := by
  have h0 : cntFlightS [] = 0 := rfl
  have h := markFlightS [] k (.slice none 0 0) [] w (owR_nil w) (by simp) (by rw [h0]; omega)
  refine h.mono ?_
  rintro x w' ⟨rfl, _, ht⟩
  exact ⟨by rw [h0]; rfl, below_turn0 ht⟩
theorem nilHeldFlight (k : Nat) (w : World) (hk : k ≤ 1000000000) : Calls Tryz.prog 54 #[.slice none 0 0, .int .i64 k] w fun x w' => x = .returned (.int .i64 (k : Int)) ∧ Below w.heap.size w w' := by
  have h0 : cntFlightS [] = 0 := rfl
  have h := heldFlightS [] k (.slice none 0 0) w (rdR_nil w) (by rw [h0]; omega)
  refine h.mono ?_
  rintro x w' ⟨rfl, hb⟩
  exact ⟨by rw [h0]; rfl, hb⟩
/-- A gate as NewGate answers it: these tenants, these seats, nothing else. -/
def gd (T : List TenantD) (S : List StN) : GtD := ⟨0, T, S.map toStD, [], [], false⟩
abbrev gav (vt vs : Value) : Value := .agg #[.int .i64 0, vt, vs, .slice none 0 0, .slice none 0 0, .bool false]
/-- Its lists are owned, in blocks lo to hi - 1, apart. -/
def AG (w : World) (lo hi : Nat) (T : List TenantD) (S : List StN) (vt vs : Value) : Prop := ∃ m, lo ≤ m ∧ m ≤ hi ∧ OwX tenantS w lo m vt T ∧ OwX seatNS w m hi vs S
theorem AG.new {w w' : World} {lo hi : Nat} {T : List TenantD} {S : List StN} {vt vs : Value} (h : AG w lo hi T S vt vs) (hb : Below w.heap.size w w') : AG w' lo hi T S vt vs := by
  obtain ⟨m, h1, h2, a, b⟩ := h
  exact ⟨m, h1, h2, a.new hb, b.new hb⟩
theorem AG.turn {w w' : World} {lo hi lo' hi' : Nat} {T : List TenantD} {S : List StN} {vt vs : Value} (h : AG w lo hi T S vt vs) (ht : Turn lo' hi' w w') (hd : hi ≤ lo' ∨ hi' ≤ lo) : AG w' lo hi T S vt vs := by
  obtain ⟨m, h1, h2, a, b⟩ := h
  exact ⟨m, h1, h2, a.turn ht (by omega), b.turn ht (by omega)⟩
theorem AG.gt {w : World} {lo hi : Nat} {T : List TenantD} {S : List StN} {vt vs : Value} (h : AG w lo hi T S vt vs) : GtRd w (gd T S) vt vs (.slice none 0 0) (.slice none 0 0) := by
  obtain ⟨m, h1, h2, a, b⟩ := h
  exact ⟨a.rd, rd_seatN b.rd, rdR_nil w, rdR_nil w⟩
theorem AG.form {w : World} {lo hi : Nat} {T : List TenantD} {S : List StN} {vt vs : Value} (h : AG w lo hi T S vt vs) : (∃ a p, vt = .slice a T.length p) ∧ ∃ a p, vs = .slice a S.length p := by
  obtain ⟨m, h1, h2, a, b⟩ := h
  obtain ⟨x, y, rfl, _⟩ := a.form
  obtain ⟨z, u, rfl, _⟩ := b.form
  exact ⟨⟨x, y, rfl⟩, ⟨z, u, rfl⟩⟩
theorem eqAG {w : World} {lo hi lo' hi' : Nat} {T : List TenantD} {S : List StN} {vt vs ut us : Value} (h : AG w lo hi T S vt vs) (h' : AG w lo' hi' T S ut us) :
    Calls Tryz.prog 10 #[gav vt vs, gav ut us] w fun x w' => x = .returned (.bool true) ∧ Below w.heap.size w w' :=
  eqGate1 (gd T S) vt vs (.slice none 0 0) (.slice none 0 0) ut us (.slice none 0 0) (.slice none 0 0) w h.gt h'.gt
/-- What NewGate answers, told for every argument at once. -/
def nwT (T : List TenantD) (n : Int) : List TenantD := if okTs T = true ∧ inB n 1 4 = true then T else []
def nwS (T : List TenantD) (n : Int) : List StN := if okTs T = true ∧ inB n 1 4 = true then List.replicate n.toNat nN else []
def nwB (T : List TenantD) (n : Int) : Bool := decide (okTs T = true ∧ inB n 1 4 = true)
theorem newG_ag {w : World} {lo : Nat} {T : List TenantD} {n : Int} {x : Value} (h : NewG w lo T n x) (hlo : lo ≤ w.heap.size) : ∃ vt vs, x = .tuple #[gav vt vs, .bool (nwB T n)] ∧ AG w lo w.heap.size (nwT T n) (nwS T n) vt vs := by
  rcases h with ⟨h1, h2, vt, vs, m, rfl, hm1, hm2, a, b⟩ | ⟨h1, rfl⟩
  · refine ⟨vt, vs, ?_, ?_⟩
    · unfold nwB
      rw [decide_eq_true ⟨h1, h2⟩]
    · unfold nwT nwS
      rw [if_pos ⟨h1, h2⟩, if_pos ⟨h1, h2⟩]
      exact ⟨m, hm1, hm2, a, b⟩
  · refine ⟨.slice none 0 0, .slice none 0 0, ?_, ?_⟩
    · unfold nwB
      rw [decide_eq_false h1]
    · unfold nwT nwS
      rw [if_neg h1, if_neg h1]
      exact ⟨lo, Nat.le_refl _, hlo, owX_nil w lo lo, owX_nil w lo w.heap.size⟩
set_option maxHeartbeats 4000000 in
theorem markAG (T : List TenantD) (S : List StN) (k : Nat) (vt vs : Value) (lo hi : Nat) (w : World) (h : AG w lo hi T S vt vs) (hhi : hi ≤ w.heap.size) (hk : k + cntTenantS T + cntSeatNS S ≤ 1000000000) :
    Calls Tryz.prog 17 #[gav vt vs, .int .i64 k] w fun x w' => x = .returned (.int .i64 ((k + cntTenantS T + cntSeatNS S : Nat) : Int)) ∧ AG w' lo hi (mkTenantS T k) (mkSeatNS S (k + cntTenantS T)) vt vs ∧ Turn lo hi w w' := by
  obtain ⟨⟨ta, tp, rfl⟩, ⟨sa, sp, rfl⟩⟩ := h.form
  obtain ⟨m, hm1, hm2, h1, h2⟩ := h
  have hX : Below w.heap.size w (w.alloc (.cells #[.int .i64 0, .slice ta T.length tp, .slice sa S.length sp, .slice none 0 0, .slice none 0 0, .bool false] 35)) := (Below.refl _ _).alloc (Nat.le_refl _) _
  have HRX := hide (rowIs_new w 35 [.int .i64 0, .slice ta T.length tp, .slice sa S.length sp, .slice none 0 0, .slice none 0 0, .bool false])
  have H1 := hide (h1.new hX); have H2 := hide (h2.new hX)
  have HT := hide (turn_new hX lo hi)
  obtain ⟨K1, hK1⟩ : ∃ K, K = k + cntTenantS T := ⟨_, rfl⟩
  obtain ⟨K2, hK2⟩ : ∃ K, K = K1 + cntSeatNS S := ⟨_, rfl⟩
  rw [← hK1, ← hK2]
  have HK1 := hide hK1; have HK2 := hide hK2
  have hb1 : K1 ≤ 1000000000 := by omega
  have hb2 : K2 ≤ 1000000000 := by omega
  clear h1 h2 hX hK1 hK2 hk
  go_enter Tryz.func17, Tryz.ntmps17
  go_upto_region 1 with fail
  generalize w.alloc (.cells #[.int .i64 0, .slice ta T.length tp, .slice sa S.length sp, .slice none 0 0, .slice none 0 0, .bool false] 35) = W1 at *
  have x1 := RowIs.cell (j := 1) HRX.out rfl
  go_wp2_with fail
  clear x1
  obtain ⟨bt, o1, n1, b1⟩ := H1.out
  have hcl := markTenantS T k (.slice ta T.length tp) bt _ o1 n1 (by rw [← HK1.out]; exact hb1)
  rw [← HK1.out] at hcl
  refine hcl.mono ?_; clear hcl
  rintro x w2 ⟨rfl, o2, tb⟩
  have ht := tb.turn b1
  have H1' : Hid (OwX tenantS w2 lo m (.slice ta T.length tp) (mkTenantS T k)) := ⟨bt, o2, n1, b1⟩
  have H2' := hide (H2.out.turn ht (.inr (Nat.le_refl _)))
  replace HRX := hide (HRX.out.kept (ht.block _ HRX.out.lt (by have := hm2; omega)))
  replace HT := hide (HT.out.trans (ht.wide (Nat.le_refl _) hm2))
  clear ht tb o1 o2 n1 b1 H1 H2
  have x2 := RowIs.cell (j := 2) HRX.out rfl
  go_wp2_with fail
  clear x2
  obtain ⟨bs, o1, n1, b1⟩ := H2'.out
  have hcl := markSeatNS S K1 (.slice sa S.length sp) bs _ o1 n1 (by rw [← HK2.out]; exact hb2)
  rw [← HK2.out] at hcl
  refine hcl.mono ?_; clear hcl
  rintro x w3 ⟨rfl, o2, tb⟩
  have ht := tb.turn b1
  have H2'' : Hid (OwX seatNS w3 m hi (.slice sa S.length sp) (mkSeatNS S K1)) := ⟨bs, o2, n1, b1⟩
  have H1'' := hide (H1'.out.turn ht (.inl (Nat.le_refl _)))
  replace HRX := hide (HRX.out.kept (ht.block _ HRX.out.lt (by omega)))
  replace HT := hide (HT.out.trans (ht.wide hm1 (Nat.le_refl _)))
  clear ht tb o1 o2 n1 b1 H1' H2'
  have x3 := RowIs.cell (j := 3) HRX.out rfl
  go_wp2_with fail
  clear x3
  refine (nilMarkDial K2 _ hb2).mono ?_; rintro x w4 ⟨rfl, hb⟩
  replace H1'' := hide (H1''.out.new hb); replace H2'' := hide (H2''.out.new hb); replace HRX := hide (HRX.out.new hb); replace HT := hide (HT.out.trans (turn_new hb lo hi))
  clear hb
  have x4 := RowIs.cell (j := 4) HRX.out rfl
  go_wp2_with fail
  clear x4
  refine (nilMarkFlight K2 _ hb2).mono ?_; rintro x w5 ⟨rfl, hb⟩
  replace H1'' := hide (H1''.out.new hb); replace H2'' := hide (H2''.out.new hb); replace HT := hide (HT.out.trans (turn_new hb lo hi))
  clear hb
  go_wp2_with fail
  go_ret
  exact ⟨rfl, ⟨m, hm1, hm2, H1''.out, H2''.out⟩, HT.out⟩
set_option maxHeartbeats 4000000 in
theorem heldAG (T : List TenantD) (S : List StN) (k : Nat) (vt vs : Value) (lo hi : Nat) (w : World) (h : AG w lo hi (mkTenantS T k) (mkSeatNS S (k + cntTenantS T)) vt vs) (hk : k + cntTenantS T + cntSeatNS S ≤ 1000000000) :
    Calls Tryz.prog 18 #[gav vt vs, .int .i64 k] w fun x w' => x = .returned (.int .i64 ((k + cntTenantS T + cntSeatNS S : Nat) : Int)) ∧ Below w.heap.size w w' := by
  obtain ⟨m, hm1, hm2, h1, h2⟩ := h
  obtain ⟨K1, hK1⟩ : ∃ K, K = k + cntTenantS T := ⟨_, rfl⟩
  obtain ⟨K2, hK2⟩ : ∃ K, K = K1 + cntSeatNS S := ⟨_, rfl⟩
  have hb1 : K1 ≤ 1000000000 := by omega
  have hb2 : K2 ≤ 1000000000 := by omega
  rw [← hK1] at h2 ⊢
  rw [← hK2]
  have hct : ∀ w', RdR tenantS w' vt (mkTenantS T k) → Calls Tryz.prog 51 #[vt, .int .i64 k] w' (fun x w'' => x = .returned (.int .i64 (K1 : Int)) ∧ Below w'.heap.size w' w'') := fun w' h => by have h9 := heldTenantS T k vt w' h (by omega); rw [← hK1] at h9; exact h9
  have hcs : ∀ w', RdR seatNS w' vs (mkSeatNS S K1) → Calls Tryz.prog 52 #[vs, .int .i64 K1] w' (fun x w'' => x = .returned (.int .i64 (K2 : Int)) ∧ Below w'.heap.size w' w'') := fun w' h => by have h9 := heldSeatNS S K1 vs w' h (by omega); rw [← hK2] at h9; exact h9
  have HR1 := hide h1.rd; have HR2 := hide h2.rd; have HCT := hide hct; have HCS := hide hcs
  obtain ⟨ta, tp, rfl, _⟩ := h1.rd.form
  obtain ⟨sa, sp, rfl, _⟩ := h2.rd.form
  clear h1 h2 hct hcs hK1 hK2 hk
  generalize (mkTenantS T k).length = n1 at *
  generalize (mkSeatNS S K1).length = n2 at *
  have HRX := hide (rowIs_new w 35 [.int .i64 0, .slice ta n1 tp, .slice sa n2 sp, .slice none 0 0, .slice none 0 0, .bool false])
  have HB : Hid (Below w.heap.size w (w.alloc (.cells #[.int .i64 0, .slice ta n1 tp, .slice sa n2 sp, .slice none 0 0, .slice none 0 0, .bool false] 35))) := (Below.refl _ _).alloc (Nat.le_refl _) _
  have p1 : ¬ ((K1 : Int) < 0) := by omega
  have p2 : ¬ ((K2 : Int) < 0) := by omega
  go_enter Tryz.func18, Tryz.ntmps18
  go_upto_region 1 with fail
  generalize w.alloc (.cells #[.int .i64 0, .slice ta n1 tp, .slice sa n2 sp, .slice none 0 0, .slice none 0 0, .bool false] 35) = W1 at *
  have x1 := RowIs.cell (j := 1) HRX.out rfl
  go_wp2_with fail
  clear x1
  refine (HCT.out _ (HR1.out.new HB.out)).mono ?_; rintro x w2 ⟨rfl, hb⟩
  replace HRX := hide (HRX.out.new hb)
  replace HB := hide (bchain HB.out hb)
  clear hb
  have x2 := RowIs.cell (j := 2) HRX.out rfl
  go_wp2_with fail
  clear x2
  refine (HCS.out _ (HR2.out.new HB.out)).mono ?_; rintro x w3 ⟨rfl, hb⟩
  replace HRX := hide (HRX.out.new hb)
  replace HB := hide (bchain HB.out hb)
  clear hb
  have x3 := RowIs.cell (j := 3) HRX.out rfl
  go_wp2_with fail
  clear x3
  refine (nilHeldDial K2 _ hb2).mono ?_; rintro x w4 ⟨rfl, hb⟩
  replace HRX := hide (HRX.out.new hb)
  replace HB := hide (bchain HB.out hb)
  clear hb
  have x4 := RowIs.cell (j := 4) HRX.out rfl
  go_wp2_with fail
  clear x4
  refine (nilHeldFlight K2 _ hb2).mono ?_; rintro x w5 ⟨rfl, hb⟩
  replace HRX := hide (HRX.out.new hb)
  replace HB := hide (bchain HB.out hb)
  clear hb
  go_wp2_with fail
  go_ret
  exact ⟨rfl, HB.out⟩
end Go.Proofs.YtkhclhnejnpkeaaGreat
