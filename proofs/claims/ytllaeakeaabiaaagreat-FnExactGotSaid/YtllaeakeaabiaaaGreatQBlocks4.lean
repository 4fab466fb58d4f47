/- What a block has of a Field, and the table behind it. -/
import Derived.Test.YtllaeakeaabiaaaGreatQBlk
namespace Go.Proofs.YtllaeakeaabiaaaGreat
open Go.RowKit
set_option maxRecDepth 100000
set_option linter.unusedSimpArgs false
set_option linter.unusedVariables false

set_option maxHeartbeats 2000000 in
theorem implPart (L : List Fd) (room : Int) (v : Value) (f : Fd) (base : Nat) (w : World) (ho0 : w.ownsRow base 146 2 v L.length (fv L)) (hbase : base ≤ w.heap.size) (hok : okT room L = true) (hf : okF f = true) :
    Calls Tryz.prog 213 #[.agg #[.int .i64 room, v], .agg #[.string f.n, .string f.v]] w fun x w' => ∃ v', x = .returned (.tuple #[.string (encF room L f).1, .agg #[.int .i64 room, v']]) ∧ w'.ownsRow base 146 2 v' (encF room L f).2.length (fv (encF room L f).2) ∧ (∀ k, v'.ownBlock = some k → v.ownBlock = some k ∨ w.heap.size ≤ k) ∧ Below w.heap.size w w' := by
  have HO := hide ho0
  have hob := ho0.lt
  obtain ⟨ad, cap, rfl, _⟩ := owns_form ho0
  clear ho0
  have hff := fine_of hf
  have HF : Hid (∀ g ∈ L, g.fine) := fun g hg => fine_of ((okT_parts hok).2.2.1 g hg)
  have hE := shp_enc room L f
  obtain ⟨E, hEE⟩ : ∃ E, encF room L f = E := ⟨_, rfl⟩
  rw [hEE] at hE ⊢
  have hfin : shpFine (shpOf L f) := by
    have := okF_parts hf
    unfold shpOf
    split
    · trivial
    · split
      · show f.v.size ≤ maxLen; unfold maxLen; omega
      · exact ⟨by unfold maxLen; omega, by unfold maxLen; omega⟩
  obtain ⟨σ, hσ⟩ : ∃ σ, shpOf L f = σ := ⟨_, rfl⟩
  have hsome : σ ≠ BShp.none := by rw [← hσ]; unfold shpOf; split <;> (try split) <;> simp
  rw [hσ] at hE hfin
  have HE := hide hE
  have HOB := hide hob
  clear hE hEE hob
  go_enter Tryz.func213, Tryz.ntmps213
  go_wp2_with fail
  obtain ⟨V, hV⟩ : ∃ V, ((w.alloc (.cells #[.int .i64 room, .slice ad L.length cap] 40)).alloc (.cells #[.string f.n, .string f.v] 146)).alloc (.cells #[.int .i64 0, .slice none 0 0] 40) = V := ⟨_, rfl⟩
  have HBW : Hid (Below w.heap.size w V) := by show Below _ _ _; rw [← hV]; exact bo_alloc (bo_alloc ((Below.refl _ _).alloc (Nat.le_refl _) _) _) _
  have HX : Hid (RowIs V w.heap.size 40 [.int .i64 room, .slice ad L.length cap]) := by show RowIs _ _ _ _; rw [← hV]; exact ((rowIs_new w 40 [.int .i64 room, .slice ad L.length cap]).alloc _).alloc _
  have HY : Hid (RowIs V (w.heap.size + 1) 146 [.string f.n, .string f.v]) := by show RowIs _ _ _ _; rw [← hV]; exact (by simpa using rowIs_new (w.alloc (.cells #[.int .i64 room, .slice ad L.length cap] 40)) 146 [.string f.n, .string f.v] : RowIs _ (w.heap.size + 1) _ _).alloc _
  have HRR : Hid (RowIs V (w.heap.size + 1 + 1) 40 [.int .i64 0, .slice none 0 0]) := by show RowIs _ _ _ _; rw [← hV]; simpa using rowIs_new ((w.alloc (.cells #[.int .i64 room, .slice ad L.length cap] 40)).alloc (.cells #[.string f.n, .string f.v] 146)) 40 [.int .i64 0, .slice none 0 0]
  rw [hV]
  clear hV
  replace HO := hide (owns_new HO.out (HBW.out))
  refine (implShapeOf L room _ f _ (reads_of_owns HO.out) hok hff).mono ?_; rw [hσ]; rintro x w1 ⟨rfl, hb1⟩
  replace HX := hide (HX.out.new hb1); replace HY := hide (HY.out.new hb1); replace HRR := hide (HRR.out.new hb1); replace HO := hide (owns_new HO.out hb1); replace HBW := hide (bchain HBW.out hb1)
  rcases σ with n | ⟨n, u⟩ | ⟨n, u⟩ | _
  · simp only [shpV]
    go_wp2_with fail
    refine (notedR n _).mono ?_; rintro x w2 ⟨rfl, hb2⟩
    replace HX := hide (HX.out.new hb2); replace HY := hide (HY.out.new hb2); replace HRR := hide (HRR.out.new hb2); replace HO := hide (owns_new HO.out hb2); replace HBW := hide (bchain HBW.out hb2)
    have NE : Hid (∀ k, (Value.slice ad L.length cap).ownBlock = some k → k ≠ w.heap.size + 1 + 1) := fun k hk => by have := (HOB.out k hk).2; omega
    have FRESH : Hid (∀ k, (Value.slice ad L.length cap).ownBlock = some k → (Value.slice ad L.length cap).ownBlock = some k ∨ w.heap.size ≤ k) := fun k hk => .inl hk
    go_wp2_with fail
    have r0 := HRR.out.cell (j := 0) rfl
    have r1 := HRR.out.cell (j := 1) rfl
    have r2 := HRR.out.frozen 0
    have r3 := HRR.out.frozen 1
    have x0 := HX.out.cell (j := 0) rfl
    have x1 := HX.out.cell (j := 1) rfl
    have hl9 := HRR.out.lt
    have hlx := HX.out.lt
    go_region_with (go_simp; go_at_call 236; refine (implShapeBytes (BShp.row n) _ hfin).mono ?_; rintro x w9 ⟨rfl, hb9⟩; have k0 := (hb9.cell (p := ⟨w.heap.size, 0, none⟩) hlx).trans x0; have k1 := (hb9.cell (p := ⟨w.heap.size, 1, none⟩) hlx).trans x1; have k2 := (hb9.cell (p := ⟨w.heap.size + 1 + 1, 0, none⟩) hl9).trans r0; have k3 := (hb9.cell (p := ⟨w.heap.size + 1 + 1, 1, none⟩) hl9).trans r1; have k4 := (hb9.frozen (p := ⟨w.heap.size + 1 + 1, 0, none⟩) hl9).trans r2; have k5 := (hb9.frozen (p := ⟨w.heap.size + 1 + 1, 1, none⟩) hl9).trans r3)
    all_goals (go_wp2_with fail)
    all_goals (refine bodyPost_ret (v := (.tuple #[.string (shpB (BShp.row n)), .agg #[.int .i64 room, .slice ad L.length cap]])) (by simp [results, Tryz.results213, go_sem, *]) rfl ?_)
    all_goals (rw [HE.out]; refine ⟨_, rfl, ?_, FRESH.out, Below.setCell (Below.setCell (bchain HBW.out.drew hb9) (show w.heap.size ≤ w.heap.size + 1 + 1 by omega) _) (show w.heap.size ≤ w.heap.size + 1 + 1 by omega) _⟩)
    all_goals (exact owns_apart (owns_apart (owns_new HO.out (bchain (Below.drew (Below.refl _ _)) hb9)) _ _ (fun e => NE.out _ e rfl)) _ _ (fun e => NE.out _ e rfl))
  · simp only [shpV]
    go_wp2_with fail
    refine (notedN n u _).mono ?_; rintro x w2 ⟨rfl, hb2⟩
    replace HX := hide (HX.out.new hb2); replace HY := hide (HY.out.new hb2); replace HRR := hide (HRR.out.new hb2); replace HO := hide (owns_new HO.out hb2); replace HBW := hide (bchain HBW.out hb2)
    have hN : notedD room L f = ((room, shr room (f :: L)), true) := by simp [notedD, hok, hf]
    have x0 := HX.out.cell (j := 0) rfl
    have x1 := HX.out.cell (j := 1) rfl
    have y0 := HY.out.cell (j := 0) rfl
    have y1 := HY.out.cell (j := 1) rfl
    have hz2 := HRR.out.lt
    go_wp2_with fail
    refine (implNoted L room _ f _ (reads_of_owns HO.out) HF.out hff).mono ?_; rw [hN]; rintro x w3 ⟨v3, rfl, ho3, hb3⟩
    clear x0 x1 y0 y1
    replace HX := hide (HX.out.new hb3); replace HY := hide (HY.out.new hb3); replace HRR := hide (HRR.out.new hb3); replace HBW := hide (bchain HBW.out hb3)
    have hz3 := hb3.size
    simp only at ho3
    generalize shr room (f :: L) = N at *
    obtain ⟨ad3, cap3, rfl, _⟩ := owns_form ho3
    have NX : Hid (∀ k, (Value.slice ad3 N.length cap3).ownBlock = some k → k ≠ w.heap.size) := fun k hk => by have := (ho3.lt k hk).1; omega
    have NE : Hid (∀ k, (Value.slice ad3 N.length cap3).ownBlock = some k → k ≠ w.heap.size + 1 + 1) := fun k hk => by have := (ho3.lt k hk).1; omega
    have FRESH : Hid (∀ k, (Value.slice ad3 N.length cap3).ownBlock = some k → (Value.slice ad L.length cap).ownBlock = some k ∨ w.heap.size ≤ k) := fun k hk => .inr (by have := (ho3.lt k hk).1; omega)
    replace HO := hide (owns_base (base' := base) ho3 fun k hk => by have := (ho3.lt k hk).1; omega)
    have x0 := HX.out.cell (j := 0) rfl
    have x1 := HX.out.cell (j := 1) rfl
    have x2 := HX.out.frozen 0
    have x3 := HX.out.frozen 1
    clear ho3
    go_upto_region 4 with fail
    obtain ⟨w4, hw4⟩ : ∃ w4, (w3.setCell ⟨w.heap.size, 0, none⟩ (.int .i64 room)).setCell ⟨w.heap.size, 1, none⟩ (.slice ad3 N.length cap3) = w4 := ⟨_, rfl⟩
    rw [hw4]
    replace HO := hide (owns_apart (owns_apart HO.out ⟨w.heap.size, 0, none⟩ (.int .i64 room) (fun e => NX.out _ e rfl)) ⟨w.heap.size, 1, none⟩ (.slice ad3 N.length cap3) (fun e => NX.out _ e rfl))
    replace HX : Hid (RowIs _ w.heap.size 40 [.int .i64 room, .slice ad3 N.length cap3]) := hide ((HX.out.set 0 (.int .i64 room)).set 1 (.slice ad3 N.length cap3))
    replace HRR := hide ((HRR.out.far ⟨w.heap.size, 0, none⟩ (.int .i64 room) (by simp only; omega)).far ⟨w.heap.size, 1, none⟩ (.slice ad3 N.length cap3) (by simp only; omega))
    replace HBW := hide ((HBW.out.setCell (p := ⟨w.heap.size, 0, none⟩) (by simp) (.int .i64 room)).setCell (p := ⟨w.heap.size, 1, none⟩) (by simp) (.slice ad3 N.length cap3))
    rw [hw4] at HO HX HRR HBW
    clear x0 x1 x2 x3 hw4
    have r0 := HRR.out.cell (j := 0) rfl
    have r1 := HRR.out.cell (j := 1) rfl
    have r2 := HRR.out.frozen 0
    have r3 := HRR.out.frozen 1
    have x0 := HX.out.cell (j := 0) rfl
    have x1 := HX.out.cell (j := 1) rfl
    have hl9 := HRR.out.lt
    have hlx := HX.out.lt
    go_region_with (go_simp; go_at_call 236; refine (implShapeBytes (BShp.name n u) _ hfin).mono ?_; rintro x w9 ⟨rfl, hb9⟩; have k0 := (hb9.cell (p := ⟨w.heap.size, 0, none⟩) hlx).trans x0; have k1 := (hb9.cell (p := ⟨w.heap.size, 1, none⟩) hlx).trans x1; have k2 := (hb9.cell (p := ⟨w.heap.size + 1 + 1, 0, none⟩) hl9).trans r0; have k3 := (hb9.cell (p := ⟨w.heap.size + 1 + 1, 1, none⟩) hl9).trans r1; have k4 := (hb9.frozen (p := ⟨w.heap.size + 1 + 1, 0, none⟩) hl9).trans r2; have k5 := (hb9.frozen (p := ⟨w.heap.size + 1 + 1, 1, none⟩) hl9).trans r3)
    all_goals (go_wp2_with fail)
    all_goals (refine bodyPost_ret (v := (.tuple #[.string (shpB (BShp.name n u)), .agg #[.int .i64 room, .slice ad3 N.length cap3]])) (by simp [results, Tryz.results213, go_sem, *]) rfl ?_)
    all_goals (rw [HE.out]; refine ⟨_, rfl, ?_, FRESH.out, Below.setCell (Below.setCell (bchain HBW.out.drew hb9) (show w.heap.size ≤ w.heap.size + 1 + 1 by omega) _) (show w.heap.size ≤ w.heap.size + 1 + 1 by omega) _⟩)
    all_goals (exact owns_apart (owns_apart (owns_new HO.out (bchain (Below.drew (Below.refl _ _)) hb9)) _ _ (fun e => NE.out _ e rfl)) _ _ (fun e => NE.out _ e rfl))
  · simp only [shpV]
    go_wp2_with fail
    refine (notedW n u _).mono ?_; rintro x w2 ⟨rfl, hb2⟩
    replace HX := hide (HX.out.new hb2); replace HY := hide (HY.out.new hb2); replace HRR := hide (HRR.out.new hb2); replace HO := hide (owns_new HO.out hb2); replace HBW := hide (bchain HBW.out hb2)
    have hN : notedD room L f = ((room, shr room (f :: L)), true) := by simp [notedD, hok, hf]
    have x0 := HX.out.cell (j := 0) rfl
    have x1 := HX.out.cell (j := 1) rfl
    have y0 := HY.out.cell (j := 0) rfl
    have y1 := HY.out.cell (j := 1) rfl
    have hz2 := HRR.out.lt
    go_wp2_with fail
    refine (implNoted L room _ f _ (reads_of_owns HO.out) HF.out hff).mono ?_; rw [hN]; rintro x w3 ⟨v3, rfl, ho3, hb3⟩
    clear x0 x1 y0 y1
    replace HX := hide (HX.out.new hb3); replace HY := hide (HY.out.new hb3); replace HRR := hide (HRR.out.new hb3); replace HBW := hide (bchain HBW.out hb3)
    have hz3 := hb3.size
    simp only at ho3
    generalize shr room (f :: L) = N at *
    obtain ⟨ad3, cap3, rfl, _⟩ := owns_form ho3
    have NX : Hid (∀ k, (Value.slice ad3 N.length cap3).ownBlock = some k → k ≠ w.heap.size) := fun k hk => by have := (ho3.lt k hk).1; omega
    have NE : Hid (∀ k, (Value.slice ad3 N.length cap3).ownBlock = some k → k ≠ w.heap.size + 1 + 1) := fun k hk => by have := (ho3.lt k hk).1; omega
    have FRESH : Hid (∀ k, (Value.slice ad3 N.length cap3).ownBlock = some k → (Value.slice ad L.length cap).ownBlock = some k ∨ w.heap.size ≤ k) := fun k hk => .inr (by have := (ho3.lt k hk).1; omega)
    replace HO := hide (owns_base (base' := base) ho3 fun k hk => by have := (ho3.lt k hk).1; omega)
    have x0 := HX.out.cell (j := 0) rfl
    have x1 := HX.out.cell (j := 1) rfl
    have x2 := HX.out.frozen 0
    have x3 := HX.out.frozen 1
    clear ho3
    go_upto_region 4 with fail
    obtain ⟨w4, hw4⟩ : ∃ w4, (w3.setCell ⟨w.heap.size, 0, none⟩ (.int .i64 room)).setCell ⟨w.heap.size, 1, none⟩ (.slice ad3 N.length cap3) = w4 := ⟨_, rfl⟩
    rw [hw4]
    replace HO := hide (owns_apart (owns_apart HO.out ⟨w.heap.size, 0, none⟩ (.int .i64 room) (fun e => NX.out _ e rfl)) ⟨w.heap.size, 1, none⟩ (.slice ad3 N.length cap3) (fun e => NX.out _ e rfl))
    replace HX : Hid (RowIs _ w.heap.size 40 [.int .i64 room, .slice ad3 N.length cap3]) := hide ((HX.out.set 0 (.int .i64 room)).set 1 (.slice ad3 N.length cap3))
    replace HRR := hide ((HRR.out.far ⟨w.heap.size, 0, none⟩ (.int .i64 room) (by simp only; omega)).far ⟨w.heap.size, 1, none⟩ (.slice ad3 N.length cap3) (by simp only; omega))
    replace HBW := hide ((HBW.out.setCell (p := ⟨w.heap.size, 0, none⟩) (by simp) (.int .i64 room)).setCell (p := ⟨w.heap.size, 1, none⟩) (by simp) (.slice ad3 N.length cap3))
    rw [hw4] at HO HX HRR HBW
    clear x0 x1 x2 x3 hw4
    have r0 := HRR.out.cell (j := 0) rfl
    have r1 := HRR.out.cell (j := 1) rfl
    have r2 := HRR.out.frozen 0
    have r3 := HRR.out.frozen 1
    have x0 := HX.out.cell (j := 0) rfl
    have x1 := HX.out.cell (j := 1) rfl
    have hl9 := HRR.out.lt
    have hlx := HX.out.lt
    go_region_with (go_simp; go_at_call 236; refine (implShapeBytes (BShp.whole n u) _ hfin).mono ?_; rintro x w9 ⟨rfl, hb9⟩; have k0 := (hb9.cell (p := ⟨w.heap.size, 0, none⟩) hlx).trans x0; have k1 := (hb9.cell (p := ⟨w.heap.size, 1, none⟩) hlx).trans x1; have k2 := (hb9.cell (p := ⟨w.heap.size + 1 + 1, 0, none⟩) hl9).trans r0; have k3 := (hb9.cell (p := ⟨w.heap.size + 1 + 1, 1, none⟩) hl9).trans r1; have k4 := (hb9.frozen (p := ⟨w.heap.size + 1 + 1, 0, none⟩) hl9).trans r2; have k5 := (hb9.frozen (p := ⟨w.heap.size + 1 + 1, 1, none⟩) hl9).trans r3)
    all_goals (go_wp2_with fail)
    all_goals (refine bodyPost_ret (v := (.tuple #[.string (shpB (BShp.whole n u)), .agg #[.int .i64 room, .slice ad3 N.length cap3]])) (by simp [results, Tryz.results213, go_sem, *]) rfl ?_)
    all_goals (rw [HE.out]; refine ⟨_, rfl, ?_, FRESH.out, Below.setCell (Below.setCell (bchain HBW.out.drew hb9) (show w.heap.size ≤ w.heap.size + 1 + 1 by omega) _) (show w.heap.size ≤ w.heap.size + 1 + 1 by omega) _⟩)
    all_goals (exact owns_apart (owns_apart (owns_new HO.out (bchain (Below.drew (Below.refl _ _)) hb9)) _ _ (fun e => NE.out _ e rfl)) _ _ (fun e => NE.out _ e rfl))
  · exact absurd rfl hsome
end Go.Proofs.YtllaeakeaabiaaaGreat
