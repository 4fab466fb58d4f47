/- Lemmas. -/
import Derived.Test.YtlpbnkideaojeaaGreatDoorQRpBlk
namespace Go.Proofs.YtlpbnkideaojeaaGreatDoor
open Go.RowKit
set_option maxRecDepth 100000
set_option linter.unusedSimpArgs false
set_option linter.unusedVariables false
set_option maxHeartbeats 2000000 in
theorem Zm (L : List Fd) (room : Int) (v : Value) (f : Fd) (base : Nat) (w : World) (ho0 : w.ownsRow base 104 2 v L.length (fv L)) (hbase : base ≤ w.heap.size) (hok : bI room L = true) (hf : okF f = true) :
  Calls Tryz.prog 100 #[.agg #[.int .i64 room, v], .agg #[.string f.n, .string f.v]] w fun x w' => ∃ v', x = .returned (.tuple #[.string (bP room L f).1, .agg #[.int .i64 room, v']]) ∧ w'.ownsRow base 104 2 v' (bP room L f).2.length (fv (bP room L f).2) ∧ (∀ k, v'.ownBlock = some k → v.ownBlock = some k ∨ w.heap.size ≤ k) ∧ Below w.heap.size w w' := by
 have HO := hide ho0
 have Ey := ho0.lt
 obtain ⟨ad, cap, rfl, _⟩ := bW ho0
 clear ho0
 have bK := qj hf
 have HF : Hid (∀ g ∈ L, g.fine) := fun g hg => qj ((mE hok).2.2.1 g hg)
 have hE := XF room L f
 obtain ⟨E, xA⟩ : ∃ E, bP room L f = E := ⟨_, rfl⟩
 rw [xA] at hE ⊢
 have hfin : JO (qH L f) := by
  have := qF hf
  unfold qH
  split
  ·trivial
  ·split
   ·show f.v.size ≤ maxLen; unfold maxLen; omega
   ·exact ⟨by unfold maxLen; omega, by unfold maxLen; omega⟩
 obtain ⟨σ, hσ⟩ : ∃ σ, qH L f = σ := ⟨_, rfl⟩
 have hsome : σ ≠ iE.none := by rw [← hσ]; unfold qH; split <;> (try split) <;> simp
 rw [hσ] at hE hfin
 have HE := hide hE
 have HOB := hide Ey
 clear hE xA Ey
 go_enter Tryz.func100, Tryz.ntmps100
 go_wp2_with fail
 obtain ⟨V, hV⟩ : ∃ V, ((w.alloc (.cells #[.int .i64 room, .slice ad L.length cap] 37)).alloc (.cells #[.string f.n, .string f.v] 104)).alloc (.cells #[.int .i64 0, .slice none 0 0] 37) = V := ⟨_, rfl⟩
 have aC : Hid (Below w.heap.size w V) := by show Below _ _ _; rw [← hV]; exact aA (aA ((Below.refl _ _).alloc (Nat.le_refl _) _) _) _
 have HX : Hid (aj V w.heap.size 37 [.int .i64 room, .slice ad L.length cap]) := by show aj _ _ _ _; rw [← hV]; exact ((aB w 37 [.int .i64 room, .slice ad L.length cap]).alloc _).alloc _
 have HY : Hid (aj V (w.heap.size + 1) 104 [.string f.n, .string f.v]) := by show aj _ _ _ _; rw [← hV]; exact (by simpa using aB (w.alloc (.cells #[.int .i64 room, .slice ad L.length cap] 37)) 104 [.string f.n, .string f.v] : aj _ (w.heap.size + 1) _ _).alloc _
 have HRR : Hid (aj V (w.heap.size + 1 + 1) 37 [.int .i64 0, .slice none 0 0]) := by show aj _ _ _ _; rw [← hV]; simpa using aB ((w.alloc (.cells #[.int .i64 room, .slice ad L.length cap] 37)).alloc (.cells #[.string f.n, .string f.v] 104)) 37 [.int .i64 0, .slice none 0 0]
 rw [hV]
 clear hV
 replace HO := hide (aX HO.out (aC.out))
 refine (aaI L room _ f _ (eP HO.out) hok bK).mono ?_; rw [hσ]; rintro x w1 ⟨rfl, hb1⟩
 replace HX := hide (HX.out.new hb1); replace HY := hide (HY.out.new hb1); replace HRR := hide (HRR.out.new hb1); replace HO := hide (aX HO.out hb1); replace aC := hide (ah aC.out hb1)
 rcases σ with n | ⟨n, u⟩ | ⟨n, u⟩ | _
 ·simp only [qR]
  go_wp2_with fail
  refine (aaJ n _).mono ?_; rintro x w2 ⟨rfl, hb2⟩
  replace HX := hide (HX.out.new hb2); replace HY := hide (HY.out.new hb2); replace HRR := hide (HRR.out.new hb2); replace HO := hide (aX HO.out hb2); replace aC := hide (ah aC.out hb2)
  have NE : Hid (∀ k, (Value.slice ad L.length cap).ownBlock = some k → k ≠ w.heap.size + 1 + 1) := fun k hk => by have := (HOB.out k hk).2; omega
  have FRESH : Hid (∀ k, (Value.slice ad L.length cap).ownBlock = some k → (Value.slice ad L.length cap).ownBlock = some k ∨ w.heap.size ≤ k) := fun k hk => .inl hk
  go_wp2_with fail
  have r0 := HRR.out.cell (j := 0) rfl
  have r1 := HRR.out.cell (j := 1) rfl
  have r2 := HRR.out.frozen 0
  have r3 := HRR.out.frozen 1
  have x0 := HX.out.cell (j := 0) rfl
  have x1 := HX.out.cell (j := 1) rfl
  have ko := HRR.out.lt
  have hlx := HX.out.lt
  go_region_with (go_simp; go_at_call 127; refine (JQ (iE.row n) _ hfin).mono ?_; rintro x w9 ⟨rfl, bV⟩; have k0 := (bV.cell (p := ⟨w.heap.size, 0, none⟩) hlx).trans x0; have k1 := (bV.cell (p := ⟨w.heap.size, 1, none⟩) hlx).trans x1; have k2 := (bV.cell (p := ⟨w.heap.size + 1 + 1, 0, none⟩) ko).trans r0; have k3 := (bV.cell (p := ⟨w.heap.size + 1 + 1, 1, none⟩) ko).trans r1; have k4 := (bV.frozen (p := ⟨w.heap.size + 1 + 1, 0, none⟩) ko).trans r2; have k5 := (bV.frozen (p := ⟨w.heap.size + 1 + 1, 1, none⟩) ko).trans r3)
  all_goals (go_wp2_with fail)
  all_goals (refine bodyPost_ret (v := (.tuple #[.string (nX (iE.row n)), .agg #[.int .i64 room, .slice ad L.length cap]])) (by simp [results, Tryz.results100, go_sem, *]) rfl ?_)
  all_goals (rw [HE.out]; refine ⟨_, rfl, ?_, FRESH.out, Below.setCell (Below.setCell (ah aC.out.drew bV) (show w.heap.size ≤ w.heap.size + 1 + 1 by omega) _) (show w.heap.size ≤ w.heap.size + 1 + 1 by omega) _⟩)
  all_goals (exact fD (fD (aX HO.out (ah (Below.drew (Below.refl _ _)) bV)) _ _ (fun e => NE.out _ e rfl)) _ _ (fun e => NE.out _ e rfl))
 ·simp only [qR]
  go_wp2_with fail
  refine (aaK n u _).mono ?_; rintro x w2 ⟨rfl, hb2⟩
  replace HX := hide (HX.out.new hb2); replace HY := hide (HY.out.new hb2); replace HRR := hide (HRR.out.new hb2); replace HO := hide (aX HO.out hb2); replace aC := hide (ah aC.out hb2)
  have hN : lS room L f = ((room, shr room (f :: L)), true) := by simp [lS, hok, hf]
  have x0 := HX.out.cell (j := 0) rfl
  have x1 := HX.out.cell (j := 1) rfl
  have y0 := HY.out.cell (j := 0) rfl
  have y1 := HY.out.cell (j := 1) rfl
  have hz2 := HRR.out.lt
  go_wp2_with fail
  refine (OV L room _ f _ (eP HO.out) HF.out bK).mono ?_; rw [hN]; rintro x w3 ⟨v3, rfl, ho3, hb3⟩
  clear x0 x1 y0 y1
  replace HX := hide (HX.out.new hb3); replace HY := hide (HY.out.new hb3); replace HRR := hide (HRR.out.new hb3); replace aC := hide (ah aC.out hb3)
  have hz3 := hb3.size
  simp only at ho3
  generalize shr room (f :: L) = N at *
  obtain ⟨iP, iQ, rfl, _⟩ := bW ho3
  have NX : Hid (∀ k, (Value.slice iP N.length iQ).ownBlock = some k → k ≠ w.heap.size) := fun k hk => by have := (ho3.lt k hk).1; omega
  have NE : Hid (∀ k, (Value.slice iP N.length iQ).ownBlock = some k → k ≠ w.heap.size + 1 + 1) := fun k hk => by have := (ho3.lt k hk).1; omega
  have FRESH : Hid (∀ k, (Value.slice iP N.length iQ).ownBlock = some k → (Value.slice ad L.length cap).ownBlock = some k ∨ w.heap.size ≤ k) := fun k hk => .inr (by have := (ho3.lt k hk).1; omega)
  replace HO := hide (eG (base' := base) ho3 fun k hk => by have := (ho3.lt k hk).1; omega)
  have x0 := HX.out.cell (j := 0) rfl
  have x1 := HX.out.cell (j := 1) rfl
  have x2 := HX.out.frozen 0
  have x3 := HX.out.frozen 1
  clear ho3
  go_upto_region 4 with fail
  obtain ⟨w4, hw4⟩ : ∃ w4, (w3.setCell ⟨w.heap.size, 0, none⟩ (.int .i64 room)).setCell ⟨w.heap.size, 1, none⟩ (.slice iP N.length iQ) = w4 := ⟨_, rfl⟩
  rw [hw4]
  replace HO := hide (fD (fD HO.out ⟨w.heap.size, 0, none⟩ (.int .i64 room) (fun e => NX.out _ e rfl)) ⟨w.heap.size, 1, none⟩ (.slice iP N.length iQ) (fun e => NX.out _ e rfl))
  replace HX : Hid (aj _ w.heap.size 37 [.int .i64 room, .slice iP N.length iQ]) := hide ((HX.out.set 0 (.int .i64 room)).set 1 (.slice iP N.length iQ))
  replace HRR := hide ((HRR.out.far ⟨w.heap.size, 0, none⟩ (.int .i64 room) (by simp only; omega)).far ⟨w.heap.size, 1, none⟩ (.slice iP N.length iQ) (by simp only; omega))
  replace aC := hide ((aC.out.setCell (p := ⟨w.heap.size, 0, none⟩) (by simp) (.int .i64 room)).setCell (p := ⟨w.heap.size, 1, none⟩) (by simp) (.slice iP N.length iQ))
  rw [hw4] at HO HX HRR aC
  clear x0 x1 x2 x3 hw4
  have r0 := HRR.out.cell (j := 0) rfl
  have r1 := HRR.out.cell (j := 1) rfl
  have r2 := HRR.out.frozen 0
  have r3 := HRR.out.frozen 1
  have x0 := HX.out.cell (j := 0) rfl
  have x1 := HX.out.cell (j := 1) rfl
  have ko := HRR.out.lt
  have hlx := HX.out.lt
  go_region_with (go_simp; go_at_call 127; refine (JQ (iE.name n u) _ hfin).mono ?_; rintro x w9 ⟨rfl, bV⟩; have k0 := (bV.cell (p := ⟨w.heap.size, 0, none⟩) hlx).trans x0; have k1 := (bV.cell (p := ⟨w.heap.size, 1, none⟩) hlx).trans x1; have k2 := (bV.cell (p := ⟨w.heap.size + 1 + 1, 0, none⟩) ko).trans r0; have k3 := (bV.cell (p := ⟨w.heap.size + 1 + 1, 1, none⟩) ko).trans r1; have k4 := (bV.frozen (p := ⟨w.heap.size + 1 + 1, 0, none⟩) ko).trans r2; have k5 := (bV.frozen (p := ⟨w.heap.size + 1 + 1, 1, none⟩) ko).trans r3)
  all_goals (go_wp2_with fail)
  all_goals (refine bodyPost_ret (v := (.tuple #[.string (nX (iE.name n u)), .agg #[.int .i64 room, .slice iP N.length iQ]])) (by simp [results, Tryz.results100, go_sem, *]) rfl ?_)
  all_goals (rw [HE.out]; refine ⟨_, rfl, ?_, FRESH.out, Below.setCell (Below.setCell (ah aC.out.drew bV) (show w.heap.size ≤ w.heap.size + 1 + 1 by omega) _) (show w.heap.size ≤ w.heap.size + 1 + 1 by omega) _⟩)
  all_goals (exact fD (fD (aX HO.out (ah (Below.drew (Below.refl _ _)) bV)) _ _ (fun e => NE.out _ e rfl)) _ _ (fun e => NE.out _ e rfl))
 ·simp only [qR]
  go_wp2_with fail
  refine (aaL n u _).mono ?_; rintro x w2 ⟨rfl, hb2⟩
  replace HX := hide (HX.out.new hb2); replace HY := hide (HY.out.new hb2); replace HRR := hide (HRR.out.new hb2); replace HO := hide (aX HO.out hb2); replace aC := hide (ah aC.out hb2)
  have hN : lS room L f = ((room, shr room (f :: L)), true) := by simp [lS, hok, hf]
  have x0 := HX.out.cell (j := 0) rfl
  have x1 := HX.out.cell (j := 1) rfl
  have y0 := HY.out.cell (j := 0) rfl
  have y1 := HY.out.cell (j := 1) rfl
  have hz2 := HRR.out.lt
  go_wp2_with fail
  refine (OV L room _ f _ (eP HO.out) HF.out bK).mono ?_; rw [hN]; rintro x w3 ⟨v3, rfl, ho3, hb3⟩
  clear x0 x1 y0 y1
  replace HX := hide (HX.out.new hb3); replace HY := hide (HY.out.new hb3); replace HRR := hide (HRR.out.new hb3); replace aC := hide (ah aC.out hb3)
  have hz3 := hb3.size
  simp only at ho3
  generalize shr room (f :: L) = N at *
  obtain ⟨iP, iQ, rfl, _⟩ := bW ho3
  have NX : Hid (∀ k, (Value.slice iP N.length iQ).ownBlock = some k → k ≠ w.heap.size) := fun k hk => by have := (ho3.lt k hk).1; omega
  have NE : Hid (∀ k, (Value.slice iP N.length iQ).ownBlock = some k → k ≠ w.heap.size + 1 + 1) := fun k hk => by have := (ho3.lt k hk).1; omega
  have FRESH : Hid (∀ k, (Value.slice iP N.length iQ).ownBlock = some k → (Value.slice ad L.length cap).ownBlock = some k ∨ w.heap.size ≤ k) := fun k hk => .inr (by have := (ho3.lt k hk).1; omega)
  replace HO := hide (eG (base' := base) ho3 fun k hk => by have := (ho3.lt k hk).1; omega)
  have x0 := HX.out.cell (j := 0) rfl
  have x1 := HX.out.cell (j := 1) rfl
  have x2 := HX.out.frozen 0
  have x3 := HX.out.frozen 1
  clear ho3
  go_upto_region 4 with fail
  obtain ⟨w4, hw4⟩ : ∃ w4, (w3.setCell ⟨w.heap.size, 0, none⟩ (.int .i64 room)).setCell ⟨w.heap.size, 1, none⟩ (.slice iP N.length iQ) = w4 := ⟨_, rfl⟩
  rw [hw4]
  replace HO := hide (fD (fD HO.out ⟨w.heap.size, 0, none⟩ (.int .i64 room) (fun e => NX.out _ e rfl)) ⟨w.heap.size, 1, none⟩ (.slice iP N.length iQ) (fun e => NX.out _ e rfl))
  replace HX : Hid (aj _ w.heap.size 37 [.int .i64 room, .slice iP N.length iQ]) := hide ((HX.out.set 0 (.int .i64 room)).set 1 (.slice iP N.length iQ))
  replace HRR := hide ((HRR.out.far ⟨w.heap.size, 0, none⟩ (.int .i64 room) (by simp only; omega)).far ⟨w.heap.size, 1, none⟩ (.slice iP N.length iQ) (by simp only; omega))
  replace aC := hide ((aC.out.setCell (p := ⟨w.heap.size, 0, none⟩) (by simp) (.int .i64 room)).setCell (p := ⟨w.heap.size, 1, none⟩) (by simp) (.slice iP N.length iQ))
  rw [hw4] at HO HX HRR aC
  clear x0 x1 x2 x3 hw4
  have r0 := HRR.out.cell (j := 0) rfl
  have r1 := HRR.out.cell (j := 1) rfl
  have r2 := HRR.out.frozen 0
  have r3 := HRR.out.frozen 1
  have x0 := HX.out.cell (j := 0) rfl
  have x1 := HX.out.cell (j := 1) rfl
  have ko := HRR.out.lt
  have hlx := HX.out.lt
  go_region_with (go_simp; go_at_call 127; refine (JQ (iE.whole n u) _ hfin).mono ?_; rintro x w9 ⟨rfl, bV⟩; have k0 := (bV.cell (p := ⟨w.heap.size, 0, none⟩) hlx).trans x0; have k1 := (bV.cell (p := ⟨w.heap.size, 1, none⟩) hlx).trans x1; have k2 := (bV.cell (p := ⟨w.heap.size + 1 + 1, 0, none⟩) ko).trans r0; have k3 := (bV.cell (p := ⟨w.heap.size + 1 + 1, 1, none⟩) ko).trans r1; have k4 := (bV.frozen (p := ⟨w.heap.size + 1 + 1, 0, none⟩) ko).trans r2; have k5 := (bV.frozen (p := ⟨w.heap.size + 1 + 1, 1, none⟩) ko).trans r3)
  all_goals (go_wp2_with fail)
  all_goals (refine bodyPost_ret (v := (.tuple #[.string (nX (iE.whole n u)), .agg #[.int .i64 room, .slice iP N.length iQ]])) (by simp [results, Tryz.results100, go_sem, *]) rfl ?_)
  all_goals (rw [HE.out]; refine ⟨_, rfl, ?_, FRESH.out, Below.setCell (Below.setCell (ah aC.out.drew bV) (show w.heap.size ≤ w.heap.size + 1 + 1 by omega) _) (show w.heap.size ≤ w.heap.size + 1 + 1 by omega) _⟩)
  all_goals (exact fD (fD (aX HO.out (ah (Below.drew (Below.refl _ _)) bV)) _ _ (fun e => NE.out _ e rfl)) _ _ (fun e => NE.out _ e rfl))
 ·exact absurd rfl hsome
end Go.Proofs.YtlpbnkideaojeaaGreatDoor
