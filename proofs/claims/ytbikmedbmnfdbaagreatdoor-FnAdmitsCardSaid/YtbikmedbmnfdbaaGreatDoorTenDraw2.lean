/- A list of tenants that is drawn: it reads so, whatever the cursor does. -/
import Derived.Test.YtbikmedbmnfdbaaGreatDoorTenDraw1
import Derived.Deep.Cut
import Derived.Deep.DeepCutAuto
import Derived.Deep.RegionHeld3


namespace Go.Proofs.YtbikmedbmnfdbaaGreatDoor
open Go.RowKit
set_option maxRecDepth 100000
set_option linter.unusedSimpArgs false
set_option linter.unusedVariables false
def lenS15 (v : Value) : Nat := match v with | .slice _ n _ => n | _ => 0
set_option maxRecDepth 100000 in
set_option maxHeartbeats 8000000 in
theorem draw15 (g B : Nat) (w : World) (hc : Cur w g B) :
    Calls Tryz.prog 26 #[.pointer (some ⟨g, 0, none⟩)] w fun e w' => ∃ (v : Value) (L : List TenantD), e = .returned v ∧ StR g w' v L ∧ L.length ≤ 9 ∧ (∀ x ∈ L, smT x) ∧ Cur w' g B ∧ Moves g w w' := by
  have hgw := hc.lt
  go_enter Tryz.func26, Tryz.ntmps26
  go_wp2_with fail
  refine (two15 g _ hgw).mono ?_; rintro e w1 ⟨b, t0, t1, rfl, ht1, hb1⟩
  have HC1 := hide (hc.below hb1)
  have HM1 : Hid (Moves g w w1) := Moves.of_below hb1
  have HT1 := hide ht1
  have hbb : w.heap.size ≤ b := ht1.hb
  clear hc hb1 ht1
  go_wp2_with fail
  go_loopw [4] (fun i wr => ∃ (k : Nat) (t0 t1 : TenantD × Value), i = .int .i64 (k : Int) ∧ k ≤ 2 ∧ Hid (TwoAt wr w.heap.size g b t0 t1) ∧ Hid (Cur wr g B) ∧ Hid (Moves g w wr)) (fun i _ => 2 - (intOf i).toNat)
  case atStart => exact ⟨0, t0, t1, rfl, by omega, HT1, HC1, HM1⟩
  case round =>
    clear HT1 HC1 HM1 t0 t1
    obtain ⟨k, t0, t1, rfl, hk, HT, HC, HM⟩ := hrel
    have hkk : k = 0 ∨ k = 1 ∨ k = 2 := by omega
    rcases hkk with rfl | rfl | rfl
    · skip
      go_wp2_with fail
      refine (once1 g B 3 _ HC.out (by omega)).mono ?_; rintro e wa ⟨bb, rfl, hca, hma⟩
      have HTa := hide (HT.out.moves hma)
      have HCa := hide hca
      have HMa := hide (HM.out.trans hma)
      clear HT HC HM hca hma
      cases bb
      · skip
        go_wp2_with fail
        refine (below1 g B 4 _ HCa.out (by omega)).mono ?_; rintro e wb ⟨q, q0, q1, _, rfl, hcb, hmb⟩
        have HTb := hide (HTa.out.moves hmb)
        have hsb := (HMa.out.trans hmb).size
        have y0 := RowIs.cell (j := 0) HTb.out.row rfl; have y1 := RowIs.cell (j := 1) HTb.out.row rfl; have y2 := RowIs.cell (j := 2) HTb.out.row rfl; have y3 := RowIs.cell (j := 3) HTb.out.row rfl; have y4 := RowIs.cell (j := 4) HTb.out.row rfl; have y5 := RowIs.cell (j := 5) HTb.out.row rfl; have y6 := RowIs.cell (j := 6) HTb.out.row rfl; have y7 := RowIs.cell (j := 7) HTb.out.row rfl; have y9 := fun j => RowIs.frozen HTb.out.row j; have y8 := HTb.out.row.lt
        go_wp2_with fail
        go_roundw
        case rel =>
          have hgb := HTb.out.l0.lt
          exact ⟨0 + 1, (⟨t0.1.nm, t0.1.key, t0.1.list, q⟩, t0.2), t1, by go_num, by omega, HTb.out.set 3 (.int .i64 q) _ _ rfl HTb.out.l0 HTb.out.l1 HTb.out.s0 HTb.out.s1, hcb.set ⟨b, 3, none⟩ _ (by show g < b; omega), (HMa.out.trans hmb).setNew ⟨b, 3, none⟩ (by show w.heap.size ≤ b; omega) _⟩
        case measure => simp [intOf]
      · skip
        go_wp2_with fail
        refine (drawList14 g B _ HCa.out).mono ?_; rintro e wd ⟨v, M, rfl, hls, hML, hcd, hmd⟩
        obtain ⟨ad, pd, rfl, _⟩ := owns_form hls.own
        have hsa := HMa.out.size
        have HTd := hide (HTa.out.moves hmd)
        have hgb := HTd.out.l0.lt
        have HLd := hide (ls_base hls (by omega) hgb)
        have y0 := RowIs.cell (j := 0) HTd.out.row rfl; have y1 := RowIs.cell (j := 1) HTd.out.row rfl; have y2 := RowIs.cell (j := 2) HTd.out.row rfl; have y3 := RowIs.cell (j := 3) HTd.out.row rfl; have y4 := RowIs.cell (j := 4) HTd.out.row rfl; have y5 := RowIs.cell (j := 5) HTd.out.row rfl; have y6 := RowIs.cell (j := 6) HTd.out.row rfl; have y7 := RowIs.cell (j := 7) HTd.out.row rfl; have y9 := fun j => RowIs.frozen HTd.out.row j; have y8 := HTd.out.row.lt
        have HTe := hide (HTd.out.set 2 (.slice ad M.length pd) (⟨t0.1.nm, t0.1.key, M, t0.1.quota⟩, .slice ad M.length pd) t1 rfl HLd.out HTd.out.l1 ⟨HTd.out.s0.1, HTd.out.s0.2.1, hML⟩ HTd.out.s1)
        have HCe := hide (hcd.set ⟨b, 2, none⟩ (.slice ad M.length pd) (by show g < b; omega))
        have HMe := hide ((HMa.out.trans hmd).setNew ⟨b, 2, none⟩ (by show w.heap.size ≤ b; omega) (.slice ad M.length pd))
        clear HTa HCa HMa hls hcd hmd
        go_wp2_with fail
        clear y0 y1 y2 y3 y4 y5 y6 y7 y9 y8
        clear HTd HLd
        generalize wd.setCell ⟨b, 2, none⟩ (.slice ad M.length pd) = wa at *
        obtain ⟨t0, ht⟩ : ∃ t : TenantD × Value, t = (⟨t0.1.nm, t0.1.key, M, t0.1.quota⟩, .slice ad M.length pd) := ⟨_, rfl⟩
        rw [← ht] at HTe
        have HTa := HTe
        have HCa := HCe
        have HMa := HMe
        clear HTe HCe HMe ht
        go_wp2_with fail
        refine (below1 g B 4 _ HCa.out (by omega)).mono ?_; rintro e wb ⟨q, q0, q1, _, rfl, hcb, hmb⟩
        have HTb := hide (HTa.out.moves hmb)
        have hsb := (HMa.out.trans hmb).size
        have y0 := RowIs.cell (j := 0) HTb.out.row rfl; have y1 := RowIs.cell (j := 1) HTb.out.row rfl; have y2 := RowIs.cell (j := 2) HTb.out.row rfl; have y3 := RowIs.cell (j := 3) HTb.out.row rfl; have y4 := RowIs.cell (j := 4) HTb.out.row rfl; have y5 := RowIs.cell (j := 5) HTb.out.row rfl; have y6 := RowIs.cell (j := 6) HTb.out.row rfl; have y7 := RowIs.cell (j := 7) HTb.out.row rfl; have y9 := fun j => RowIs.frozen HTb.out.row j; have y8 := HTb.out.row.lt
        go_wp2_with fail
        go_roundw
        case rel =>
          have hgb := HTb.out.l0.lt
          exact ⟨0 + 1, (⟨t0.1.nm, t0.1.key, t0.1.list, q⟩, t0.2), t1, by go_num, by omega, HTb.out.set 3 (.int .i64 q) _ _ rfl HTb.out.l0 HTb.out.l1 HTb.out.s0 HTb.out.s1, hcb.set ⟨b, 3, none⟩ _ (by show g < b; omega), (HMa.out.trans hmb).setNew ⟨b, 3, none⟩ (by show w.heap.size ≤ b; omega) _⟩
        case measure => simp [intOf]
    · skip
      go_wp2_with fail
      refine (once1 g B 3 _ HC.out (by omega)).mono ?_; rintro e wa ⟨bb, rfl, hca, hma⟩
      have HTa := hide (HT.out.moves hma)
      have HCa := hide hca
      have HMa := hide (HM.out.trans hma)
      clear HT HC HM hca hma
      cases bb
      · skip
        go_wp2_with fail
        refine (below1 g B 4 _ HCa.out (by omega)).mono ?_; rintro e wb ⟨q, q0, q1, _, rfl, hcb, hmb⟩
        have HTb := hide (HTa.out.moves hmb)
        have hsb := (HMa.out.trans hmb).size
        have y0 := RowIs.cell (j := 0) HTb.out.row rfl; have y1 := RowIs.cell (j := 1) HTb.out.row rfl; have y2 := RowIs.cell (j := 2) HTb.out.row rfl; have y3 := RowIs.cell (j := 3) HTb.out.row rfl; have y4 := RowIs.cell (j := 4) HTb.out.row rfl; have y5 := RowIs.cell (j := 5) HTb.out.row rfl; have y6 := RowIs.cell (j := 6) HTb.out.row rfl; have y7 := RowIs.cell (j := 7) HTb.out.row rfl; have y9 := fun j => RowIs.frozen HTb.out.row j; have y8 := HTb.out.row.lt
        go_wp2_with fail
        go_roundw
        case rel =>
          have hgb := HTb.out.l0.lt
          exact ⟨1 + 1, t0, (⟨t1.1.nm, t1.1.key, t1.1.list, q⟩, t1.2), by go_num, by omega, HTb.out.set 7 (.int .i64 q) _ _ rfl HTb.out.l0 HTb.out.l1 HTb.out.s0 HTb.out.s1, hcb.set ⟨b, 7, none⟩ _ (by show g < b; omega), (HMa.out.trans hmb).setNew ⟨b, 7, none⟩ (by show w.heap.size ≤ b; omega) _⟩
        case measure => simp [intOf]
      · skip
        go_wp2_with fail
        refine (drawList14 g B _ HCa.out).mono ?_; rintro e wd ⟨v, M, rfl, hls, hML, hcd, hmd⟩
        obtain ⟨ad, pd, rfl, _⟩ := owns_form hls.own
        have hsa := HMa.out.size
        have HTd := hide (HTa.out.moves hmd)
        have hgb := HTd.out.l0.lt
        have HLd := hide (ls_base hls (by omega) hgb)
        have y0 := RowIs.cell (j := 0) HTd.out.row rfl; have y1 := RowIs.cell (j := 1) HTd.out.row rfl; have y2 := RowIs.cell (j := 2) HTd.out.row rfl; have y3 := RowIs.cell (j := 3) HTd.out.row rfl; have y4 := RowIs.cell (j := 4) HTd.out.row rfl; have y5 := RowIs.cell (j := 5) HTd.out.row rfl; have y6 := RowIs.cell (j := 6) HTd.out.row rfl; have y7 := RowIs.cell (j := 7) HTd.out.row rfl; have y9 := fun j => RowIs.frozen HTd.out.row j; have y8 := HTd.out.row.lt
        have HTe := hide (HTd.out.set 6 (.slice ad M.length pd) t0 (⟨t1.1.nm, t1.1.key, M, t1.1.quota⟩, .slice ad M.length pd) rfl HTd.out.l0 HLd.out HTd.out.s0 ⟨HTd.out.s1.1, HTd.out.s1.2.1, hML⟩)
        have HCe := hide (hcd.set ⟨b, 6, none⟩ (.slice ad M.length pd) (by show g < b; omega))
        have HMe := hide ((HMa.out.trans hmd).setNew ⟨b, 6, none⟩ (by show w.heap.size ≤ b; omega) (.slice ad M.length pd))
        clear HTa HCa HMa hls hcd hmd
        go_wp2_with fail
        clear y0 y1 y2 y3 y4 y5 y6 y7 y9 y8
        clear HTd HLd
        generalize wd.setCell ⟨b, 6, none⟩ (.slice ad M.length pd) = wa at *
        obtain ⟨t1, ht⟩ : ∃ t : TenantD × Value, t = (⟨t1.1.nm, t1.1.key, M, t1.1.quota⟩, .slice ad M.length pd) := ⟨_, rfl⟩
        rw [← ht] at HTe
        have HTa := HTe
        have HCa := HCe
        have HMa := HMe
        clear HTe HCe HMe ht
        go_wp2_with fail
        refine (below1 g B 4 _ HCa.out (by omega)).mono ?_; rintro e wb ⟨q, q0, q1, _, rfl, hcb, hmb⟩
        have HTb := hide (HTa.out.moves hmb)
        have hsb := (HMa.out.trans hmb).size
        have y0 := RowIs.cell (j := 0) HTb.out.row rfl; have y1 := RowIs.cell (j := 1) HTb.out.row rfl; have y2 := RowIs.cell (j := 2) HTb.out.row rfl; have y3 := RowIs.cell (j := 3) HTb.out.row rfl; have y4 := RowIs.cell (j := 4) HTb.out.row rfl; have y5 := RowIs.cell (j := 5) HTb.out.row rfl; have y6 := RowIs.cell (j := 6) HTb.out.row rfl; have y7 := RowIs.cell (j := 7) HTb.out.row rfl; have y9 := fun j => RowIs.frozen HTb.out.row j; have y8 := HTb.out.row.lt
        go_wp2_with fail
        go_roundw
        case rel =>
          have hgb := HTb.out.l0.lt
          exact ⟨1 + 1, t0, (⟨t1.1.nm, t1.1.key, t1.1.list, q⟩, t1.2), by go_num, by omega, HTb.out.set 7 (.int .i64 q) _ _ rfl HTb.out.l0 HTb.out.l1 HTb.out.s0 HTb.out.s1, hcb.set ⟨b, 7, none⟩ _ (by show g < b; omega), (HMa.out.trans hmb).setNew ⟨b, 7, none⟩ (by show w.heap.size ≤ b; omega) _⟩
        case measure => simp [intOf]
    · skip
      go_wp2_with fail
      refine (once1 g B 5 _ HC.out (by omega)).mono ?_; rintro e w0 ⟨b0, rfl, hc0, hm0⟩
      have HT1 := hide (HT.out.moves hm0)
      have HC1 := hide hc0
      have HM1 := hide (HM.out.trans hm0)
      clear HT HC HM hc0 hm0
      cases b0
      · skip
        go_wp2_with fail
        refine (once1 g B 12 _ HC1.out (by omega)).mono ?_; rintro e w2 ⟨b2, rfl, hc2, hm2⟩
        have HT2 := hide (HT1.out.moves hm2)
        have HC2 := hide hc2
        have HM2 := hide (HM1.out.trans hm2)
        clear HT1 HC1 HM1 hc2 hm2
        cases b2
        · skip
          go_wp2_with fail
          go_ret
          first | exact ⟨_, _, rfl, HT2.out.st0, by simp, (fun x hx => by simp at hx; rcases hx with rfl | rfl <;> first | exact HT2.out.s0 | exact HT2.out.s1), HC2.out, HM2.out⟩ | exact ⟨_, rfl, _, HT2.out.st0, by simp, (fun x hx => by simp at hx; rcases hx with rfl | rfl <;> first | exact HT2.out.s0 | exact HT2.out.s1), HC2.out, HM2.out⟩
        go_wp2_with fail
        refine (below1 g B 4 _ HC2.out (by omega)).mono ?_; rintro e w3 ⟨m, m0, m1, _, rfl, hc3, hm3⟩
        have m4 := m1 (by omega)
        have HT3 := hide (HT2.out.moves hm3)
        have HC3 := hide hc3
        have HM3 := hide (HM2.out.trans hm3)
        clear HT2 HC2 HM2 hc3 hm3 m1
        have hgb : g < b := by have := HT3.out.l0.lt; omega
        have hmm : m = 0 ∨ m = 1 ∨ m = 2 ∨ m = 3 := by omega
        rcases hmm with rfl | rfl | rfl | rfl
        · skip
          go_wp2_with fail
          refine (drawName14 g B _ HC3.out).mono ?_; rintro e w4 ⟨z, hz, rfl, hc4, hm4⟩
          have HT4 := hide (HT3.out.moves hm4)
          have HC4 := hide hc4
          have HM4 := hide (HM3.out.trans hm4)
          have y0 := RowIs.cell (j := 0) HT4.out.row rfl; have y1 := RowIs.cell (j := 1) HT4.out.row rfl; have y2 := RowIs.cell (j := 2) HT4.out.row rfl; have y3 := RowIs.cell (j := 3) HT4.out.row rfl; have y4 := RowIs.cell (j := 4) HT4.out.row rfl; have y5 := RowIs.cell (j := 5) HT4.out.row rfl; have y6 := RowIs.cell (j := 6) HT4.out.row rfl; have y7 := RowIs.cell (j := 7) HT4.out.row rfl; have y9 := fun j => RowIs.frozen HT4.out.row j; have y8 := HT4.out.row.lt
          have HT5 := hide (HT4.out.set 0 (.string z) (⟨z, t0.1.key, t0.1.list, t0.1.quota⟩, t0.2) t1 rfl HT4.out.l0 HT4.out.l1 ⟨by show z.size ≤ 100; omega, HT4.out.s0.2⟩ HT4.out.s1)
          clear HT3 HC3 HM3 hc4 hm4
          go_wp2_with fail
          go_ret
          first | exact ⟨_, _, rfl, HT5.out.st0, by simp, (fun x hx => by simp at hx; rcases hx with rfl | rfl <;> first | exact HT5.out.s0 | exact HT5.out.s1), HC4.out.set ⟨b, 0, none⟩ _ (by show g < b; omega), HM4.out.setNew ⟨b, 0, none⟩ (by show w.heap.size ≤ b; omega) _⟩ | exact ⟨_, rfl, _, HT5.out.st0, by simp, (fun x hx => by simp at hx; rcases hx with rfl | rfl <;> first | exact HT5.out.s0 | exact HT5.out.s1), HC4.out.set ⟨b, 0, none⟩ _ (by show g < b; omega), HM4.out.setNew ⟨b, 0, none⟩ (by show w.heap.size ≤ b; omega) _⟩
        · skip
          obtain ⟨M, hMs, hML, hmk⟩ := make_bytes 41 (by omega)
          have hmk' : ∀ X : World, (Instr.makeSlice 22 (.int .i64 41) (.int .i64 41)).run Tryz.prog X = .ok (.slice (some ⟨X.heap.size, 0, none⟩) 41 41) (X.alloc (.cells M 5)) := fun X => by have := hmk X; exact this
          clear hmk
          go_wp2_with fail
          refine wp_region_any (by kernel_rfl) ?_
          change wpAny _ _ _ _ _ _ _ (World.drew _)
          have HT9 : Hid (TwoAt (World.drew w3) w.heap.size g b t0 t1) := hide (HT3.out.new (Below.refl _ _).drew)
          have HC9 : Hid (Cur (World.drew w3) g B) := hide HC3.out.drew
          have HM9 : Hid (Moves g w (World.drew w3)) := hide HM3.out.drew
          clear HT3 HC3 HM3
          generalize World.drew w3 = u0 at *
          refine wpAny_take (i := 0) (v := ?_) rfl (by kernel_rfl) (by kernel_rfl) (by kernel_rfl) (fun _ _ _ h => h) (Or.inl ⟨by rfl, ?_⟩) ?_; rotate_left; focus (intro uu; go_simp; try with_reducible rfl)
          try simp only [Act.put, List.getElem_toArray, List.getElem_cons_succ, List.getElem_cons_zero, List.setIfInBounds_toArray, List.set_cons_zero, List.set_cons_succ]
          refine wpAny_take (i := 4) (v := ?_) rfl (by kernel_rfl) (by kernel_rfl) (by kernel_rfl) (fun _ _ _ h => h) (Or.inl ⟨by rfl, ?_⟩) ?_; rotate_left; focus (intro uu; go_simp; try with_reducible rfl)
          try simp only [Act.put, List.getElem_toArray, List.getElem_cons_succ, List.getElem_cons_zero, List.setIfInBounds_toArray, List.set_cons_zero, List.set_cons_succ]
          refine wpAny_ready (rs := [1, 5]) (by kernel_rfl) (by simp) ?_
          refine (AllReady.cons rfl (fun K hK => ?_) (AllReady.cons rfl (fun K hK => ?_) AllReady.nil))
          · skip
            go_simp
            obtain ⟨x1, hx1⟩ : ∃ u, u0.alloc (.cells M 5) = u := ⟨_, rfl⟩
            have hbx1 : Below u0.heap.size u0 x1 := by rw [← hx1]; exact (Below.refl _ _).alloc (Nat.le_refl _) _
            have HD : Hid (MadeB x1 u0.heap.size 41 g) := by show _; rw [← hx1]; exact madeB_of hMs hML HC9.out.lt (by omega)
            replace HT9 := hide (HT9.out.new hbx1)
            replace HC9 := hide (HC9.out.below hbx1)
            replace HM9 := hide (HM9.out.trans (Moves.of_below hbx1))
            rw [hx1]
            clear hx1 hbx1
            generalize u0.heap.size = qd at *
            refine hK _ _ ?_; clear hK K
            try simp only [Act.put, List.getElem_toArray, List.getElem_cons_succ, List.getElem_cons_zero, List.setIfInBounds_toArray, List.set_cons_zero, List.set_cons_succ]
            refine wpAny_ready (rs := [2, 5]) (by kernel_rfl) (by simp) ?_
            refine (AllReady.cons rfl (fun K hK => ?_) (AllReady.cons rfl (fun K hK => ?_) AllReady.nil))
            · skip
              obtain ⟨z, hzs, hcv⟩ := HD.out.text
              go_simp
              refine hK _ _ ?_; clear hK K hcv
              try simp only [Act.put, List.getElem_toArray, List.getElem_cons_succ, List.getElem_cons_zero, List.setIfInBounds_toArray, List.set_cons_zero, List.set_cons_succ]
              refine wpAny_ready (rs := [3, 5]) (by kernel_rfl) (by simp) ?_
              refine (AllReady.cons rfl (fun K hK => ?_) (AllReady.cons rfl (fun K hK => ?_) AllReady.nil))
              · skip
                go_simp
                obtain ⟨x3, hx3⟩ : ∃ u, x1.alloc (.cells #[.string ⟨#[]⟩, .string z] 9) = u := ⟨_, rfl⟩
                have hbx3 : Below x1.heap.size x1 x3 := by rw [← hx3]; exact (Below.refl _ _).alloc (Nat.le_refl _) _
                have HR : Hid (RowIs x3 x1.heap.size 9 [.string ⟨#[]⟩, .string z]) := by show _; rw [← hx3]; exact rowIs_new x1 _ _
                have hqr : x1.heap.size ≠ g := by have := HC9.out.lt; omega
                replace HT9 := hide (HT9.out.new hbx3)
                replace HC9 := hide (HC9.out.below hbx3)
                replace HD := hide (HD.out.new hbx3)
                replace HM9 := hide (HM9.out.trans (Moves.of_below hbx3))
                rw [hx3]
                clear hx3 hbx3
                generalize x1.heap.size = qr at *
                refine hK _ _ ?_; clear hK K
                try simp only [Act.put, List.getElem_toArray, List.getElem_cons_succ, List.getElem_cons_zero, List.setIfInBounds_toArray, List.set_cons_zero, List.set_cons_succ]
                refine wpAny_ready (rs := [5]) (by kernel_rfl) (by simp) ?_
                refine (AllReady.cons rfl (fun K hK => ?_) AllReady.nil)
                go_simp
                refine (below1 g B 2 _ HC9.out (by omega)).mono ?_; rintro e x4 ⟨q, q0, q1, _, rfl, hcx, hmx⟩
                have q2 := q1 (by omega)
                replace HT9 := hide (HT9.out.moves hmx)
                replace HD := hide (HD.out.moves hmx)
                replace HR := hide (HR.out.moves hmx hqr)
                replace HM9 := hide (HM9.out.trans hmx)
                replace HC9 := hide hcx
                clear hcx hmx q1
                have hqq : q = 0 ∨ q = 1 := by omega
                refine hK _ _ ?_; clear hK K
                rcases hqq with rfl | rfl
                · skip
                  try simp only [Act.put, List.getElem_toArray, List.getElem_cons_succ, List.getElem_cons_zero, List.setIfInBounds_toArray, List.set_cons_zero, List.set_cons_succ]
                  refine wpAny_take (i := 6) (v := ?_) rfl (by kernel_rfl) (by kernel_rfl) (by kernel_rfl) (fun _ _ _ h => h) (Or.inl ⟨by rfl, ?_⟩) ?_; rotate_left; focus (intro uu; go_simp; try with_reducible rfl)
                  try simp only [Act.put, List.getElem_toArray, List.getElem_cons_succ, List.getElem_cons_zero, List.setIfInBounds_toArray, List.set_cons_zero, List.set_cons_succ]
                  have hx7 := HR.out.cell (j := 0) rfl
                  refine wpAny_ready (rs := [7]) (by kernel_rfl) (by simp) ?_
                  refine (AllReady.cons rfl (fun K hK => ?_) AllReady.nil)
                  go_simp
                  refine hK _ _ ?_; clear hK K hx7
                  try simp only [Act.put, List.getElem_toArray, List.getElem_cons_succ, List.getElem_cons_zero, List.setIfInBounds_toArray, List.set_cons_zero, List.set_cons_succ]
                  refine wpAny_take (i := 8) (v := ?_) rfl (by kernel_rfl) (by kernel_rfl) (by kernel_rfl) (fun _ _ _ h => h) (Or.inl ⟨by rfl, ?_⟩) ?_; rotate_left; focus (intro uu; go_simp; try with_reducible rfl)
                  try simp only [Act.put, List.getElem_toArray, List.getElem_cons_succ, List.getElem_cons_zero, List.setIfInBounds_toArray, List.set_cons_zero, List.set_cons_succ]
                  refine wpAny_take (i := 9) (v := ?_) rfl (by kernel_rfl) (by kernel_rfl) (by kernel_rfl) (fun _ _ _ h => h) (Or.inl ⟨by rfl, ?_⟩) ?_; rotate_left; focus (intro uu; go_simp; try with_reducible rfl)
                  try simp only [Act.put, List.getElem_toArray, List.getElem_cons_succ, List.getElem_cons_zero, List.setIfInBounds_toArray, List.set_cons_zero, List.set_cons_succ]
                  have y0 := RowIs.cell (j := 0) HT9.out.row rfl; have y1 := RowIs.cell (j := 1) HT9.out.row rfl; have y2 := RowIs.cell (j := 2) HT9.out.row rfl; have y3 := RowIs.cell (j := 3) HT9.out.row rfl; have y4 := RowIs.cell (j := 4) HT9.out.row rfl; have y5 := RowIs.cell (j := 5) HT9.out.row rfl; have y6 := RowIs.cell (j := 6) HT9.out.row rfl; have y7 := RowIs.cell (j := 7) HT9.out.row rfl; have y9 := fun j => RowIs.frozen HT9.out.row j; have y8 := HT9.out.row.lt
                  have HT5 := hide (HT9.out.set 1 (.string ⟨#[]⟩) (⟨t0.1.nm, ⟨#[]⟩, t0.1.list, t0.1.quota⟩, t0.2) t1 rfl HT9.out.l0 HT9.out.l1 ⟨HT9.out.s0.1, by show ByteArray.size ⟨#[]⟩ ≤ 100; decide, HT9.out.s0.2.2⟩ HT9.out.s1)
                  refine wpAny_ready (rs := [10]) (by kernel_rfl) (by simp) ?_
                  refine (AllReady.cons rfl (fun K hK => ?_) AllReady.nil)
                  go_simp
                  refine hK _ _ ?_; clear hK K
                  refine wpAny_done (by kernel_rfl) ?_ _
                  go_wp2_with fail
                  go_ret
                  first | exact ⟨_, _, rfl, HT5.out.st0, by simp, (fun x hx => by simp at hx; rcases hx with rfl | rfl <;> first | exact HT5.out.s0 | exact HT5.out.s1), HC9.out.set ⟨b, 1, none⟩ _ (by show g < b; omega), HM9.out.setNew ⟨b, 1, none⟩ (by show w.heap.size ≤ b; omega) _⟩ | exact ⟨_, rfl, _, HT5.out.st0, by simp, (fun x hx => by simp at hx; rcases hx with rfl | rfl <;> first | exact HT5.out.s0 | exact HT5.out.s1), HC9.out.set ⟨b, 1, none⟩ _ (by show g < b; omega), HM9.out.setNew ⟨b, 1, none⟩ (by show w.heap.size ≤ b; omega) _⟩
                · skip
                  try simp only [Act.put, List.getElem_toArray, List.getElem_cons_succ, List.getElem_cons_zero, List.setIfInBounds_toArray, List.set_cons_zero, List.set_cons_succ]
                  refine wpAny_take (i := 6) (v := ?_) rfl (by kernel_rfl) (by kernel_rfl) (by kernel_rfl) (fun _ _ _ h => h) (Or.inl ⟨by rfl, ?_⟩) ?_; rotate_left; focus (intro uu; go_simp; try with_reducible rfl)
                  try simp only [Act.put, List.getElem_toArray, List.getElem_cons_succ, List.getElem_cons_zero, List.setIfInBounds_toArray, List.set_cons_zero, List.set_cons_succ]
                  have hx7 := HR.out.cell (j := 1) rfl
                  refine wpAny_ready (rs := [7]) (by kernel_rfl) (by simp) ?_
                  refine (AllReady.cons rfl (fun K hK => ?_) AllReady.nil)
                  go_simp
                  refine hK _ _ ?_; clear hK K hx7
                  try simp only [Act.put, List.getElem_toArray, List.getElem_cons_succ, List.getElem_cons_zero, List.setIfInBounds_toArray, List.set_cons_zero, List.set_cons_succ]
                  refine wpAny_take (i := 8) (v := ?_) rfl (by kernel_rfl) (by kernel_rfl) (by kernel_rfl) (fun _ _ _ h => h) (Or.inl ⟨by rfl, ?_⟩) ?_; rotate_left; focus (intro uu; go_simp; try with_reducible rfl)
                  try simp only [Act.put, List.getElem_toArray, List.getElem_cons_succ, List.getElem_cons_zero, List.setIfInBounds_toArray, List.set_cons_zero, List.set_cons_succ]
                  refine wpAny_take (i := 9) (v := ?_) rfl (by kernel_rfl) (by kernel_rfl) (by kernel_rfl) (fun _ _ _ h => h) (Or.inl ⟨by rfl, ?_⟩) ?_; rotate_left; focus (intro uu; go_simp; try with_reducible rfl)
                  try simp only [Act.put, List.getElem_toArray, List.getElem_cons_succ, List.getElem_cons_zero, List.setIfInBounds_toArray, List.set_cons_zero, List.set_cons_succ]
                  have y0 := RowIs.cell (j := 0) HT9.out.row rfl; have y1 := RowIs.cell (j := 1) HT9.out.row rfl; have y2 := RowIs.cell (j := 2) HT9.out.row rfl; have y3 := RowIs.cell (j := 3) HT9.out.row rfl; have y4 := RowIs.cell (j := 4) HT9.out.row rfl; have y5 := RowIs.cell (j := 5) HT9.out.row rfl; have y6 := RowIs.cell (j := 6) HT9.out.row rfl; have y7 := RowIs.cell (j := 7) HT9.out.row rfl; have y9 := fun j => RowIs.frozen HT9.out.row j; have y8 := HT9.out.row.lt
                  have HT5 := hide (HT9.out.set 1 (.string z) (⟨t0.1.nm, z, t0.1.list, t0.1.quota⟩, t0.2) t1 rfl HT9.out.l0 HT9.out.l1 ⟨HT9.out.s0.1, by show ByteArray.size z ≤ 100; omega, HT9.out.s0.2.2⟩ HT9.out.s1)
                  refine wpAny_ready (rs := [10]) (by kernel_rfl) (by simp) ?_
                  refine (AllReady.cons rfl (fun K hK => ?_) AllReady.nil)
                  go_simp
                  refine hK _ _ ?_; clear hK K
                  refine wpAny_done (by kernel_rfl) ?_ _
                  go_wp2_with fail
                  go_ret
                  first | exact ⟨_, _, rfl, HT5.out.st0, by simp, (fun x hx => by simp at hx; rcases hx with rfl | rfl <;> first | exact HT5.out.s0 | exact HT5.out.s1), HC9.out.set ⟨b, 1, none⟩ _ (by show g < b; omega), HM9.out.setNew ⟨b, 1, none⟩ (by show w.heap.size ≤ b; omega) _⟩ | exact ⟨_, rfl, _, HT5.out.st0, by simp, (fun x hx => by simp at hx; rcases hx with rfl | rfl <;> first | exact HT5.out.s0 | exact HT5.out.s1), HC9.out.set ⟨b, 1, none⟩ _ (by show g < b; omega), HM9.out.setNew ⟨b, 1, none⟩ (by show w.heap.size ≤ b; omega) _⟩
              · skip
                go_simp
                refine (below1 g B 2 _ HC9.out (by omega)).mono ?_; rintro e x5 ⟨q, q0, q1, _, rfl, hcx, hmx⟩
                have q2 := q1 (by omega)
                replace HT9 := hide (HT9.out.moves hmx)
                replace HD := hide (HD.out.moves hmx)
                replace HM9 := hide (HM9.out.trans hmx)
                replace HC9 := hide hcx
                clear hcx hmx q1
                have hqq : q = 0 ∨ q = 1 := by omega
                refine hK _ _ ?_; clear hK K
                rcases hqq with rfl | rfl
                · skip
                  try simp only [Act.put, List.getElem_toArray, List.getElem_cons_succ, List.getElem_cons_zero, List.setIfInBounds_toArray, List.set_cons_zero, List.set_cons_succ]
                  refine wpAny_ready (rs := [3]) (by kernel_rfl) (by simp) ?_
                  refine (AllReady.cons rfl (fun K hK => ?_) AllReady.nil)
                  go_simp
                  obtain ⟨x6, hx6⟩ : ∃ u, x5.alloc (.cells #[.string ⟨#[]⟩, .string z] 9) = u := ⟨_, rfl⟩
                  have hbx6 : Below x5.heap.size x5 x6 := by rw [← hx6]; exact (Below.refl _ _).alloc (Nat.le_refl _) _
                  have HR : Hid (RowIs x6 x5.heap.size 9 [.string ⟨#[]⟩, .string z]) := by show _; rw [← hx6]; exact rowIs_new x5 _ _
                  have hqr : x5.heap.size ≠ g := by have := HC9.out.lt; omega
                  replace HT9 := hide (HT9.out.new hbx6)
                  replace HC9 := hide (HC9.out.below hbx6)
                  replace HD := hide (HD.out.new hbx6)
                  replace HM9 := hide (HM9.out.trans (Moves.of_below hbx6))
                  rw [hx6]
                  clear hx6 hbx6
                  generalize x5.heap.size = qr at *
                  refine hK _ _ ?_; clear hK K
                  try simp only [Act.put, List.getElem_toArray, List.getElem_cons_succ, List.getElem_cons_zero, List.setIfInBounds_toArray, List.set_cons_zero, List.set_cons_succ]
                  refine wpAny_take (i := 6) (v := ?_) rfl (by kernel_rfl) (by kernel_rfl) (by kernel_rfl) (fun _ _ _ h => h) (Or.inl ⟨by rfl, ?_⟩) ?_; rotate_left; focus (intro uu; go_simp; try with_reducible rfl)
                  try simp only [Act.put, List.getElem_toArray, List.getElem_cons_succ, List.getElem_cons_zero, List.setIfInBounds_toArray, List.set_cons_zero, List.set_cons_succ]
                  have hx7 := HR.out.cell (j := 0) rfl
                  refine wpAny_ready (rs := [7]) (by kernel_rfl) (by simp) ?_
                  refine (AllReady.cons rfl (fun K hK => ?_) AllReady.nil)
                  go_simp
                  refine hK _ _ ?_; clear hK K hx7
                  try simp only [Act.put, List.getElem_toArray, List.getElem_cons_succ, List.getElem_cons_zero, List.setIfInBounds_toArray, List.set_cons_zero, List.set_cons_succ]
                  refine wpAny_take (i := 8) (v := ?_) rfl (by kernel_rfl) (by kernel_rfl) (by kernel_rfl) (fun _ _ _ h => h) (Or.inl ⟨by rfl, ?_⟩) ?_; rotate_left; focus (intro uu; go_simp; try with_reducible rfl)
                  try simp only [Act.put, List.getElem_toArray, List.getElem_cons_succ, List.getElem_cons_zero, List.setIfInBounds_toArray, List.set_cons_zero, List.set_cons_succ]
                  refine wpAny_take (i := 9) (v := ?_) rfl (by kernel_rfl) (by kernel_rfl) (by kernel_rfl) (fun _ _ _ h => h) (Or.inl ⟨by rfl, ?_⟩) ?_; rotate_left; focus (intro uu; go_simp; try with_reducible rfl)
                  try simp only [Act.put, List.getElem_toArray, List.getElem_cons_succ, List.getElem_cons_zero, List.setIfInBounds_toArray, List.set_cons_zero, List.set_cons_succ]
                  have y0 := RowIs.cell (j := 0) HT9.out.row rfl; have y1 := RowIs.cell (j := 1) HT9.out.row rfl; have y2 := RowIs.cell (j := 2) HT9.out.row rfl; have y3 := RowIs.cell (j := 3) HT9.out.row rfl; have y4 := RowIs.cell (j := 4) HT9.out.row rfl; have y5 := RowIs.cell (j := 5) HT9.out.row rfl; have y6 := RowIs.cell (j := 6) HT9.out.row rfl; have y7 := RowIs.cell (j := 7) HT9.out.row rfl; have y9 := fun j => RowIs.frozen HT9.out.row j; have y8 := HT9.out.row.lt
                  have HT5 := hide (HT9.out.set 1 (.string ⟨#[]⟩) (⟨t0.1.nm, ⟨#[]⟩, t0.1.list, t0.1.quota⟩, t0.2) t1 rfl HT9.out.l0 HT9.out.l1 ⟨HT9.out.s0.1, by show ByteArray.size ⟨#[]⟩ ≤ 100; decide, HT9.out.s0.2.2⟩ HT9.out.s1)
                  refine wpAny_ready (rs := [10]) (by kernel_rfl) (by simp) ?_
                  refine (AllReady.cons rfl (fun K hK => ?_) AllReady.nil)
                  go_simp
                  refine hK _ _ ?_; clear hK K
                  refine wpAny_done (by kernel_rfl) ?_ _
                  go_wp2_with fail
                  go_ret
                  first | exact ⟨_, _, rfl, HT5.out.st0, by simp, (fun x hx => by simp at hx; rcases hx with rfl | rfl <;> first | exact HT5.out.s0 | exact HT5.out.s1), HC9.out.set ⟨b, 1, none⟩ _ (by show g < b; omega), HM9.out.setNew ⟨b, 1, none⟩ (by show w.heap.size ≤ b; omega) _⟩ | exact ⟨_, rfl, _, HT5.out.st0, by simp, (fun x hx => by simp at hx; rcases hx with rfl | rfl <;> first | exact HT5.out.s0 | exact HT5.out.s1), HC9.out.set ⟨b, 1, none⟩ _ (by show g < b; omega), HM9.out.setNew ⟨b, 1, none⟩ (by show w.heap.size ≤ b; omega) _⟩
                · skip
                  try simp only [Act.put, List.getElem_toArray, List.getElem_cons_succ, List.getElem_cons_zero, List.setIfInBounds_toArray, List.set_cons_zero, List.set_cons_succ]
                  refine wpAny_ready (rs := [3]) (by kernel_rfl) (by simp) ?_
                  refine (AllReady.cons rfl (fun K hK => ?_) AllReady.nil)
                  go_simp
                  obtain ⟨x7, hx7⟩ : ∃ u, x5.alloc (.cells #[.string ⟨#[]⟩, .string z] 9) = u := ⟨_, rfl⟩
                  have hbx7 : Below x5.heap.size x5 x7 := by rw [← hx7]; exact (Below.refl _ _).alloc (Nat.le_refl _) _
                  have HR : Hid (RowIs x7 x5.heap.size 9 [.string ⟨#[]⟩, .string z]) := by show _; rw [← hx7]; exact rowIs_new x5 _ _
                  have hqr : x5.heap.size ≠ g := by have := HC9.out.lt; omega
                  replace HT9 := hide (HT9.out.new hbx7)
                  replace HC9 := hide (HC9.out.below hbx7)
                  replace HD := hide (HD.out.new hbx7)
                  replace HM9 := hide (HM9.out.trans (Moves.of_below hbx7))
                  rw [hx7]
                  clear hx7 hbx7
                  generalize x5.heap.size = qr at *
                  refine hK _ _ ?_; clear hK K
                  try simp only [Act.put, List.getElem_toArray, List.getElem_cons_succ, List.getElem_cons_zero, List.setIfInBounds_toArray, List.set_cons_zero, List.set_cons_succ]
                  refine wpAny_take (i := 6) (v := ?_) rfl (by kernel_rfl) (by kernel_rfl) (by kernel_rfl) (fun _ _ _ h => h) (Or.inl ⟨by rfl, ?_⟩) ?_; rotate_left; focus (intro uu; go_simp; try with_reducible rfl)
                  try simp only [Act.put, List.getElem_toArray, List.getElem_cons_succ, List.getElem_cons_zero, List.setIfInBounds_toArray, List.set_cons_zero, List.set_cons_succ]
                  have hx7 := HR.out.cell (j := 1) rfl
                  refine wpAny_ready (rs := [7]) (by kernel_rfl) (by simp) ?_
                  refine (AllReady.cons rfl (fun K hK => ?_) AllReady.nil)
                  go_simp
                  refine hK _ _ ?_; clear hK K hx7
                  try simp only [Act.put, List.getElem_toArray, List.getElem_cons_succ, List.getElem_cons_zero, List.setIfInBounds_toArray, List.set_cons_zero, List.set_cons_succ]
                  refine wpAny_take (i := 8) (v := ?_) rfl (by kernel_rfl) (by kernel_rfl) (by kernel_rfl) (fun _ _ _ h => h) (Or.inl ⟨by rfl, ?_⟩) ?_; rotate_left; focus (intro uu; go_simp; try with_reducible rfl)
                  try simp only [Act.put, List.getElem_toArray, List.getElem_cons_succ, List.getElem_cons_zero, List.setIfInBounds_toArray, List.set_cons_zero, List.set_cons_succ]
                  refine wpAny_take (i := 9) (v := ?_) rfl (by kernel_rfl) (by kernel_rfl) (by kernel_rfl) (fun _ _ _ h => h) (Or.inl ⟨by rfl, ?_⟩) ?_; rotate_left; focus (intro uu; go_simp; try with_reducible rfl)
                  try simp only [Act.put, List.getElem_toArray, List.getElem_cons_succ, List.getElem_cons_zero, List.setIfInBounds_toArray, List.set_cons_zero, List.set_cons_succ]
                  have y0 := RowIs.cell (j := 0) HT9.out.row rfl; have y1 := RowIs.cell (j := 1) HT9.out.row rfl; have y2 := RowIs.cell (j := 2) HT9.out.row rfl; have y3 := RowIs.cell (j := 3) HT9.out.row rfl; have y4 := RowIs.cell (j := 4) HT9.out.row rfl; have y5 := RowIs.cell (j := 5) HT9.out.row rfl; have y6 := RowIs.cell (j := 6) HT9.out.row rfl; have y7 := RowIs.cell (j := 7) HT9.out.row rfl; have y9 := fun j => RowIs.frozen HT9.out.row j; have y8 := HT9.out.row.lt
                  have HT5 := hide (HT9.out.set 1 (.string z) (⟨t0.1.nm, z, t0.1.list, t0.1.quota⟩, t0.2) t1 rfl HT9.out.l0 HT9.out.l1 ⟨HT9.out.s0.1, by show ByteArray.size z ≤ 100; omega, HT9.out.s0.2.2⟩ HT9.out.s1)
                  refine wpAny_ready (rs := [10]) (by kernel_rfl) (by simp) ?_
                  refine (AllReady.cons rfl (fun K hK => ?_) AllReady.nil)
                  go_simp
                  refine hK _ _ ?_; clear hK K
                  refine wpAny_done (by kernel_rfl) ?_ _
                  go_wp2_with fail
                  go_ret
                  first | exact ⟨_, _, rfl, HT5.out.st0, by simp, (fun x hx => by simp at hx; rcases hx with rfl | rfl <;> first | exact HT5.out.s0 | exact HT5.out.s1), HC9.out.set ⟨b, 1, none⟩ _ (by show g < b; omega), HM9.out.setNew ⟨b, 1, none⟩ (by show w.heap.size ≤ b; omega) _⟩ | exact ⟨_, rfl, _, HT5.out.st0, by simp, (fun x hx => by simp at hx; rcases hx with rfl | rfl <;> first | exact HT5.out.s0 | exact HT5.out.s1), HC9.out.set ⟨b, 1, none⟩ _ (by show g < b; omega), HM9.out.setNew ⟨b, 1, none⟩ (by show w.heap.size ≤ b; omega) _⟩
            · skip
              go_simp
              refine (below1 g B 2 _ HC9.out (by omega)).mono ?_; rintro e x8 ⟨q, q0, q1, _, rfl, hcx, hmx⟩
              have q2 := q1 (by omega)
              replace HT9 := hide (HT9.out.moves hmx)
              replace HD := hide (HD.out.moves hmx)
              replace HM9 := hide (HM9.out.trans hmx)
              replace HC9 := hide hcx
              clear hcx hmx q1
              have hqq : q = 0 ∨ q = 1 := by omega
              refine hK _ _ ?_; clear hK K
              rcases hqq with rfl | rfl
              · skip
                try simp only [Act.put, List.getElem_toArray, List.getElem_cons_succ, List.getElem_cons_zero, List.setIfInBounds_toArray, List.set_cons_zero, List.set_cons_succ]
                refine wpAny_ready (rs := [2]) (by kernel_rfl) (by simp) ?_
                refine (AllReady.cons rfl (fun K hK => ?_) AllReady.nil)
                obtain ⟨z, hzs, hcv⟩ := HD.out.text
                go_simp
                refine hK _ _ ?_; clear hK K hcv
                try simp only [Act.put, List.getElem_toArray, List.getElem_cons_succ, List.getElem_cons_zero, List.setIfInBounds_toArray, List.set_cons_zero, List.set_cons_succ]
                refine wpAny_ready (rs := [3]) (by kernel_rfl) (by simp) ?_
                refine (AllReady.cons rfl (fun K hK => ?_) AllReady.nil)
                go_simp
                obtain ⟨x10, hx10⟩ : ∃ u, x8.alloc (.cells #[.string ⟨#[]⟩, .string z] 9) = u := ⟨_, rfl⟩
                have hbx10 : Below x8.heap.size x8 x10 := by rw [← hx10]; exact (Below.refl _ _).alloc (Nat.le_refl _) _
                have HR : Hid (RowIs x10 x8.heap.size 9 [.string ⟨#[]⟩, .string z]) := by show _; rw [← hx10]; exact rowIs_new x8 _ _
                have hqr : x8.heap.size ≠ g := by have := HC9.out.lt; omega
                replace HT9 := hide (HT9.out.new hbx10)
                replace HC9 := hide (HC9.out.below hbx10)
                replace HD := hide (HD.out.new hbx10)
                replace HM9 := hide (HM9.out.trans (Moves.of_below hbx10))
                rw [hx10]
                clear hx10 hbx10
                generalize x8.heap.size = qr at *
                refine hK _ _ ?_; clear hK K
                try simp only [Act.put, List.getElem_toArray, List.getElem_cons_succ, List.getElem_cons_zero, List.setIfInBounds_toArray, List.set_cons_zero, List.set_cons_succ]
                refine wpAny_take (i := 6) (v := ?_) rfl (by kernel_rfl) (by kernel_rfl) (by kernel_rfl) (fun _ _ _ h => h) (Or.inl ⟨by rfl, ?_⟩) ?_; rotate_left; focus (intro uu; go_simp; try with_reducible rfl)
                try simp only [Act.put, List.getElem_toArray, List.getElem_cons_succ, List.getElem_cons_zero, List.setIfInBounds_toArray, List.set_cons_zero, List.set_cons_succ]
                have hx7 := HR.out.cell (j := 0) rfl
                refine wpAny_ready (rs := [7]) (by kernel_rfl) (by simp) ?_
                refine (AllReady.cons rfl (fun K hK => ?_) AllReady.nil)
                go_simp
                refine hK _ _ ?_; clear hK K hx7
                try simp only [Act.put, List.getElem_toArray, List.getElem_cons_succ, List.getElem_cons_zero, List.setIfInBounds_toArray, List.set_cons_zero, List.set_cons_succ]
                refine wpAny_take (i := 8) (v := ?_) rfl (by kernel_rfl) (by kernel_rfl) (by kernel_rfl) (fun _ _ _ h => h) (Or.inl ⟨by rfl, ?_⟩) ?_; rotate_left; focus (intro uu; go_simp; try with_reducible rfl)
                try simp only [Act.put, List.getElem_toArray, List.getElem_cons_succ, List.getElem_cons_zero, List.setIfInBounds_toArray, List.set_cons_zero, List.set_cons_succ]
                refine wpAny_take (i := 9) (v := ?_) rfl (by kernel_rfl) (by kernel_rfl) (by kernel_rfl) (fun _ _ _ h => h) (Or.inl ⟨by rfl, ?_⟩) ?_; rotate_left; focus (intro uu; go_simp; try with_reducible rfl)
                try simp only [Act.put, List.getElem_toArray, List.getElem_cons_succ, List.getElem_cons_zero, List.setIfInBounds_toArray, List.set_cons_zero, List.set_cons_succ]
                have y0 := RowIs.cell (j := 0) HT9.out.row rfl; have y1 := RowIs.cell (j := 1) HT9.out.row rfl; have y2 := RowIs.cell (j := 2) HT9.out.row rfl; have y3 := RowIs.cell (j := 3) HT9.out.row rfl; have y4 := RowIs.cell (j := 4) HT9.out.row rfl; have y5 := RowIs.cell (j := 5) HT9.out.row rfl; have y6 := RowIs.cell (j := 6) HT9.out.row rfl; have y7 := RowIs.cell (j := 7) HT9.out.row rfl; have y9 := fun j => RowIs.frozen HT9.out.row j; have y8 := HT9.out.row.lt
                have HT5 := hide (HT9.out.set 1 (.string ⟨#[]⟩) (⟨t0.1.nm, ⟨#[]⟩, t0.1.list, t0.1.quota⟩, t0.2) t1 rfl HT9.out.l0 HT9.out.l1 ⟨HT9.out.s0.1, by show ByteArray.size ⟨#[]⟩ ≤ 100; decide, HT9.out.s0.2.2⟩ HT9.out.s1)
                refine wpAny_ready (rs := [10]) (by kernel_rfl) (by simp) ?_
                refine (AllReady.cons rfl (fun K hK => ?_) AllReady.nil)
                go_simp
                refine hK _ _ ?_; clear hK K
                refine wpAny_done (by kernel_rfl) ?_ _
                go_wp2_with fail
                go_ret
                first | exact ⟨_, _, rfl, HT5.out.st0, by simp, (fun x hx => by simp at hx; rcases hx with rfl | rfl <;> first | exact HT5.out.s0 | exact HT5.out.s1), HC9.out.set ⟨b, 1, none⟩ _ (by show g < b; omega), HM9.out.setNew ⟨b, 1, none⟩ (by show w.heap.size ≤ b; omega) _⟩ | exact ⟨_, rfl, _, HT5.out.st0, by simp, (fun x hx => by simp at hx; rcases hx with rfl | rfl <;> first | exact HT5.out.s0 | exact HT5.out.s1), HC9.out.set ⟨b, 1, none⟩ _ (by show g < b; omega), HM9.out.setNew ⟨b, 1, none⟩ (by show w.heap.size ≤ b; omega) _⟩
              · skip
                try simp only [Act.put, List.getElem_toArray, List.getElem_cons_succ, List.getElem_cons_zero, List.setIfInBounds_toArray, List.set_cons_zero, List.set_cons_succ]
                refine wpAny_ready (rs := [2]) (by kernel_rfl) (by simp) ?_
                refine (AllReady.cons rfl (fun K hK => ?_) AllReady.nil)
                obtain ⟨z, hzs, hcv⟩ := HD.out.text
                go_simp
                refine hK _ _ ?_; clear hK K hcv
                try simp only [Act.put, List.getElem_toArray, List.getElem_cons_succ, List.getElem_cons_zero, List.setIfInBounds_toArray, List.set_cons_zero, List.set_cons_succ]
                refine wpAny_ready (rs := [3]) (by kernel_rfl) (by simp) ?_
                refine (AllReady.cons rfl (fun K hK => ?_) AllReady.nil)
                go_simp
                obtain ⟨x12, hx12⟩ : ∃ u, x8.alloc (.cells #[.string ⟨#[]⟩, .string z] 9) = u := ⟨_, rfl⟩
                have hbx12 : Below x8.heap.size x8 x12 := by rw [← hx12]; exact (Below.refl _ _).alloc (Nat.le_refl _) _
                have HR : Hid (RowIs x12 x8.heap.size 9 [.string ⟨#[]⟩, .string z]) := by show _; rw [← hx12]; exact rowIs_new x8 _ _
                have hqr : x8.heap.size ≠ g := by have := HC9.out.lt; omega
                replace HT9 := hide (HT9.out.new hbx12)
                replace HC9 := hide (HC9.out.below hbx12)
                replace HD := hide (HD.out.new hbx12)
                replace HM9 := hide (HM9.out.trans (Moves.of_below hbx12))
                rw [hx12]
                clear hx12 hbx12
                generalize x8.heap.size = qr at *
                refine hK _ _ ?_; clear hK K
                try simp only [Act.put, List.getElem_toArray, List.getElem_cons_succ, List.getElem_cons_zero, List.setIfInBounds_toArray, List.set_cons_zero, List.set_cons_succ]
                refine wpAny_take (i := 6) (v := ?_) rfl (by kernel_rfl) (by kernel_rfl) (by kernel_rfl) (fun _ _ _ h => h) (Or.inl ⟨by rfl, ?_⟩) ?_; rotate_left; focus (intro uu; go_simp; try with_reducible rfl)
                try simp only [Act.put, List.getElem_toArray, List.getElem_cons_succ, List.getElem_cons_zero, List.setIfInBounds_toArray, List.set_cons_zero, List.set_cons_succ]
                have hx7 := HR.out.cell (j := 1) rfl
                refine wpAny_ready (rs := [7]) (by kernel_rfl) (by simp) ?_
                refine (AllReady.cons rfl (fun K hK => ?_) AllReady.nil)
                go_simp
                refine hK _ _ ?_; clear hK K hx7
                try simp only [Act.put, List.getElem_toArray, List.getElem_cons_succ, List.getElem_cons_zero, List.setIfInBounds_toArray, List.set_cons_zero, List.set_cons_succ]
                refine wpAny_take (i := 8) (v := ?_) rfl (by kernel_rfl) (by kernel_rfl) (by kernel_rfl) (fun _ _ _ h => h) (Or.inl ⟨by rfl, ?_⟩) ?_; rotate_left; focus (intro uu; go_simp; try with_reducible rfl)
                try simp only [Act.put, List.getElem_toArray, List.getElem_cons_succ, List.getElem_cons_zero, List.setIfInBounds_toArray, List.set_cons_zero, List.set_cons_succ]
                refine wpAny_take (i := 9) (v := ?_) rfl (by kernel_rfl) (by kernel_rfl) (by kernel_rfl) (fun _ _ _ h => h) (Or.inl ⟨by rfl, ?_⟩) ?_; rotate_left; focus (intro uu; go_simp; try with_reducible rfl)
                try simp only [Act.put, List.getElem_toArray, List.getElem_cons_succ, List.getElem_cons_zero, List.setIfInBounds_toArray, List.set_cons_zero, List.set_cons_succ]
                have y0 := RowIs.cell (j := 0) HT9.out.row rfl; have y1 := RowIs.cell (j := 1) HT9.out.row rfl; have y2 := RowIs.cell (j := 2) HT9.out.row rfl; have y3 := RowIs.cell (j := 3) HT9.out.row rfl; have y4 := RowIs.cell (j := 4) HT9.out.row rfl; have y5 := RowIs.cell (j := 5) HT9.out.row rfl; have y6 := RowIs.cell (j := 6) HT9.out.row rfl; have y7 := RowIs.cell (j := 7) HT9.out.row rfl; have y9 := fun j => RowIs.frozen HT9.out.row j; have y8 := HT9.out.row.lt
                have HT5 := hide (HT9.out.set 1 (.string z) (⟨t0.1.nm, z, t0.1.list, t0.1.quota⟩, t0.2) t1 rfl HT9.out.l0 HT9.out.l1 ⟨HT9.out.s0.1, by show ByteArray.size z ≤ 100; omega, HT9.out.s0.2.2⟩ HT9.out.s1)
                refine wpAny_ready (rs := [10]) (by kernel_rfl) (by simp) ?_
                refine (AllReady.cons rfl (fun K hK => ?_) AllReady.nil)
                go_simp
                refine hK _ _ ?_; clear hK K
                refine wpAny_done (by kernel_rfl) ?_ _
                go_wp2_with fail
                go_ret
                first | exact ⟨_, _, rfl, HT5.out.st0, by simp, (fun x hx => by simp at hx; rcases hx with rfl | rfl <;> first | exact HT5.out.s0 | exact HT5.out.s1), HC9.out.set ⟨b, 1, none⟩ _ (by show g < b; omega), HM9.out.setNew ⟨b, 1, none⟩ (by show w.heap.size ≤ b; omega) _⟩ | exact ⟨_, rfl, _, HT5.out.st0, by simp, (fun x hx => by simp at hx; rcases hx with rfl | rfl <;> first | exact HT5.out.s0 | exact HT5.out.s1), HC9.out.set ⟨b, 1, none⟩ _ (by show g < b; omega), HM9.out.setNew ⟨b, 1, none⟩ (by show w.heap.size ≤ b; omega) _⟩
          · skip
            go_simp
            refine (below1 g B 2 _ HC9.out (by omega)).mono ?_; rintro e x13 ⟨q, q0, q1, _, rfl, hcx, hmx⟩
            have q2 := q1 (by omega)
            replace HT9 := hide (HT9.out.moves hmx)
            replace HM9 := hide (HM9.out.trans hmx)
            replace HC9 := hide hcx
            clear hcx hmx q1
            have hqq : q = 0 ∨ q = 1 := by omega
            refine hK _ _ ?_; clear hK K
            rcases hqq with rfl | rfl
            · skip
              try simp only [Act.put, List.getElem_toArray, List.getElem_cons_succ, List.getElem_cons_zero, List.setIfInBounds_toArray, List.set_cons_zero, List.set_cons_succ]
              refine wpAny_ready (rs := [1]) (by kernel_rfl) (by simp) ?_
              refine (AllReady.cons rfl (fun K hK => ?_) AllReady.nil)
              go_simp
              obtain ⟨x14, hx14⟩ : ∃ u, x13.alloc (.cells M 5) = u := ⟨_, rfl⟩
              have hbx14 : Below x13.heap.size x13 x14 := by rw [← hx14]; exact (Below.refl _ _).alloc (Nat.le_refl _) _
              have HD : Hid (MadeB x14 x13.heap.size 41 g) := by show _; rw [← hx14]; exact madeB_of hMs hML HC9.out.lt (by omega)
              replace HT9 := hide (HT9.out.new hbx14)
              replace HC9 := hide (HC9.out.below hbx14)
              replace HM9 := hide (HM9.out.trans (Moves.of_below hbx14))
              rw [hx14]
              clear hx14 hbx14
              generalize x13.heap.size = qd at *
              refine hK _ _ ?_; clear hK K
              try simp only [Act.put, List.getElem_toArray, List.getElem_cons_succ, List.getElem_cons_zero, List.setIfInBounds_toArray, List.set_cons_zero, List.set_cons_succ]
              refine wpAny_ready (rs := [2]) (by kernel_rfl) (by simp) ?_
              refine (AllReady.cons rfl (fun K hK => ?_) AllReady.nil)
              obtain ⟨z, hzs, hcv⟩ := HD.out.text
              go_simp
              refine hK _ _ ?_; clear hK K hcv
              try simp only [Act.put, List.getElem_toArray, List.getElem_cons_succ, List.getElem_cons_zero, List.setIfInBounds_toArray, List.set_cons_zero, List.set_cons_succ]
              refine wpAny_ready (rs := [3]) (by kernel_rfl) (by simp) ?_
              refine (AllReady.cons rfl (fun K hK => ?_) AllReady.nil)
              go_simp
              obtain ⟨x16, hx16⟩ : ∃ u, x14.alloc (.cells #[.string ⟨#[]⟩, .string z] 9) = u := ⟨_, rfl⟩
              have hbx16 : Below x14.heap.size x14 x16 := by rw [← hx16]; exact (Below.refl _ _).alloc (Nat.le_refl _) _
              have HR : Hid (RowIs x16 x14.heap.size 9 [.string ⟨#[]⟩, .string z]) := by show _; rw [← hx16]; exact rowIs_new x14 _ _
              have hqr : x14.heap.size ≠ g := by have := HC9.out.lt; omega
              replace HT9 := hide (HT9.out.new hbx16)
              replace HC9 := hide (HC9.out.below hbx16)
              replace HD := hide (HD.out.new hbx16)
              replace HM9 := hide (HM9.out.trans (Moves.of_below hbx16))
              rw [hx16]
              clear hx16 hbx16
              generalize x14.heap.size = qr at *
              refine hK _ _ ?_; clear hK K
              try simp only [Act.put, List.getElem_toArray, List.getElem_cons_succ, List.getElem_cons_zero, List.setIfInBounds_toArray, List.set_cons_zero, List.set_cons_succ]
              refine wpAny_take (i := 6) (v := ?_) rfl (by kernel_rfl) (by kernel_rfl) (by kernel_rfl) (fun _ _ _ h => h) (Or.inl ⟨by rfl, ?_⟩) ?_; rotate_left; focus (intro uu; go_simp; try with_reducible rfl)
              try simp only [Act.put, List.getElem_toArray, List.getElem_cons_succ, List.getElem_cons_zero, List.setIfInBounds_toArray, List.set_cons_zero, List.set_cons_succ]
              have hx7 := HR.out.cell (j := 0) rfl
              refine wpAny_ready (rs := [7]) (by kernel_rfl) (by simp) ?_
              refine (AllReady.cons rfl (fun K hK => ?_) AllReady.nil)
              go_simp
              refine hK _ _ ?_; clear hK K hx7
              try simp only [Act.put, List.getElem_toArray, List.getElem_cons_succ, List.getElem_cons_zero, List.setIfInBounds_toArray, List.set_cons_zero, List.set_cons_succ]
              refine wpAny_take (i := 8) (v := ?_) rfl (by kernel_rfl) (by kernel_rfl) (by kernel_rfl) (fun _ _ _ h => h) (Or.inl ⟨by rfl, ?_⟩) ?_; rotate_left; focus (intro uu; go_simp; try with_reducible rfl)
              try simp only [Act.put, List.getElem_toArray, List.getElem_cons_succ, List.getElem_cons_zero, List.setIfInBounds_toArray, List.set_cons_zero, List.set_cons_succ]
              refine wpAny_take (i := 9) (v := ?_) rfl (by kernel_rfl) (by kernel_rfl) (by kernel_rfl) (fun _ _ _ h => h) (Or.inl ⟨by rfl, ?_⟩) ?_; rotate_left; focus (intro uu; go_simp; try with_reducible rfl)
              try simp only [Act.put, List.getElem_toArray, List.getElem_cons_succ, List.getElem_cons_zero, List.setIfInBounds_toArray, List.set_cons_zero, List.set_cons_succ]
              have y0 := RowIs.cell (j := 0) HT9.out.row rfl; have y1 := RowIs.cell (j := 1) HT9.out.row rfl; have y2 := RowIs.cell (j := 2) HT9.out.row rfl; have y3 := RowIs.cell (j := 3) HT9.out.row rfl; have y4 := RowIs.cell (j := 4) HT9.out.row rfl; have y5 := RowIs.cell (j := 5) HT9.out.row rfl; have y6 := RowIs.cell (j := 6) HT9.out.row rfl; have y7 := RowIs.cell (j := 7) HT9.out.row rfl; have y9 := fun j => RowIs.frozen HT9.out.row j; have y8 := HT9.out.row.lt
              have HT5 := hide (HT9.out.set 1 (.string ⟨#[]⟩) (⟨t0.1.nm, ⟨#[]⟩, t0.1.list, t0.1.quota⟩, t0.2) t1 rfl HT9.out.l0 HT9.out.l1 ⟨HT9.out.s0.1, by show ByteArray.size ⟨#[]⟩ ≤ 100; decide, HT9.out.s0.2.2⟩ HT9.out.s1)
              refine wpAny_ready (rs := [10]) (by kernel_rfl) (by simp) ?_
              refine (AllReady.cons rfl (fun K hK => ?_) AllReady.nil)
              go_simp
              refine hK _ _ ?_; clear hK K
              refine wpAny_done (by kernel_rfl) ?_ _
              go_wp2_with fail
              go_ret
              first | exact ⟨_, _, rfl, HT5.out.st0, by simp, (fun x hx => by simp at hx; rcases hx with rfl | rfl <;> first | exact HT5.out.s0 | exact HT5.out.s1), HC9.out.set ⟨b, 1, none⟩ _ (by show g < b; omega), HM9.out.setNew ⟨b, 1, none⟩ (by show w.heap.size ≤ b; omega) _⟩ | exact ⟨_, rfl, _, HT5.out.st0, by simp, (fun x hx => by simp at hx; rcases hx with rfl | rfl <;> first | exact HT5.out.s0 | exact HT5.out.s1), HC9.out.set ⟨b, 1, none⟩ _ (by show g < b; omega), HM9.out.setNew ⟨b, 1, none⟩ (by show w.heap.size ≤ b; omega) _⟩
            · skip
              try simp only [Act.put, List.getElem_toArray, List.getElem_cons_succ, List.getElem_cons_zero, List.setIfInBounds_toArray, List.set_cons_zero, List.set_cons_succ]
              refine wpAny_ready (rs := [1]) (by kernel_rfl) (by simp) ?_
              refine (AllReady.cons rfl (fun K hK => ?_) AllReady.nil)
              go_simp
              obtain ⟨x17, hx17⟩ : ∃ u, x13.alloc (.cells M 5) = u := ⟨_, rfl⟩
              have hbx17 : Below x13.heap.size x13 x17 := by rw [← hx17]; exact (Below.refl _ _).alloc (Nat.le_refl _) _
              have HD : Hid (MadeB x17 x13.heap.size 41 g) := by show _; rw [← hx17]; exact madeB_of hMs hML HC9.out.lt (by omega)
              replace HT9 := hide (HT9.out.new hbx17)
              replace HC9 := hide (HC9.out.below hbx17)
              replace HM9 := hide (HM9.out.trans (Moves.of_below hbx17))
              rw [hx17]
              clear hx17 hbx17
              generalize x13.heap.size = qd at *
              refine hK _ _ ?_; clear hK K
              try simp only [Act.put, List.getElem_toArray, List.getElem_cons_succ, List.getElem_cons_zero, List.setIfInBounds_toArray, List.set_cons_zero, List.set_cons_succ]
              refine wpAny_ready (rs := [2]) (by kernel_rfl) (by simp) ?_
              refine (AllReady.cons rfl (fun K hK => ?_) AllReady.nil)
              obtain ⟨z, hzs, hcv⟩ := HD.out.text
              go_simp
              refine hK _ _ ?_; clear hK K hcv
              try simp only [Act.put, List.getElem_toArray, List.getElem_cons_succ, List.getElem_cons_zero, List.setIfInBounds_toArray, List.set_cons_zero, List.set_cons_succ]
              refine wpAny_ready (rs := [3]) (by kernel_rfl) (by simp) ?_
              refine (AllReady.cons rfl (fun K hK => ?_) AllReady.nil)
              go_simp
              obtain ⟨x19, hx19⟩ : ∃ u, x17.alloc (.cells #[.string ⟨#[]⟩, .string z] 9) = u := ⟨_, rfl⟩
              have hbx19 : Below x17.heap.size x17 x19 := by rw [← hx19]; exact (Below.refl _ _).alloc (Nat.le_refl _) _
              have HR : Hid (RowIs x19 x17.heap.size 9 [.string ⟨#[]⟩, .string z]) := by show _; rw [← hx19]; exact rowIs_new x17 _ _
              have hqr : x17.heap.size ≠ g := by have := HC9.out.lt; omega
              replace HT9 := hide (HT9.out.new hbx19)
              replace HC9 := hide (HC9.out.below hbx19)
              replace HD := hide (HD.out.new hbx19)
              replace HM9 := hide (HM9.out.trans (Moves.of_below hbx19))
              rw [hx19]
              clear hx19 hbx19
              generalize x17.heap.size = qr at *
              refine hK _ _ ?_; clear hK K
              try simp only [Act.put, List.getElem_toArray, List.getElem_cons_succ, List.getElem_cons_zero, List.setIfInBounds_toArray, List.set_cons_zero, List.set_cons_succ]
              refine wpAny_take (i := 6) (v := ?_) rfl (by kernel_rfl) (by kernel_rfl) (by kernel_rfl) (fun _ _ _ h => h) (Or.inl ⟨by rfl, ?_⟩) ?_; rotate_left; focus (intro uu; go_simp; try with_reducible rfl)
              try simp only [Act.put, List.getElem_toArray, List.getElem_cons_succ, List.getElem_cons_zero, List.setIfInBounds_toArray, List.set_cons_zero, List.set_cons_succ]
              have hx7 := HR.out.cell (j := 1) rfl
              refine wpAny_ready (rs := [7]) (by kernel_rfl) (by simp) ?_
              refine (AllReady.cons rfl (fun K hK => ?_) AllReady.nil)
              go_simp
              refine hK _ _ ?_; clear hK K hx7
              try simp only [Act.put, List.getElem_toArray, List.getElem_cons_succ, List.getElem_cons_zero, List.setIfInBounds_toArray, List.set_cons_zero, List.set_cons_succ]
              refine wpAny_take (i := 8) (v := ?_) rfl (by kernel_rfl) (by kernel_rfl) (by kernel_rfl) (fun _ _ _ h => h) (Or.inl ⟨by rfl, ?_⟩) ?_; rotate_left; focus (intro uu; go_simp; try with_reducible rfl)
              try simp only [Act.put, List.getElem_toArray, List.getElem_cons_succ, List.getElem_cons_zero, List.setIfInBounds_toArray, List.set_cons_zero, List.set_cons_succ]
              refine wpAny_take (i := 9) (v := ?_) rfl (by kernel_rfl) (by kernel_rfl) (by kernel_rfl) (fun _ _ _ h => h) (Or.inl ⟨by rfl, ?_⟩) ?_; rotate_left; focus (intro uu; go_simp; try with_reducible rfl)
              try simp only [Act.put, List.getElem_toArray, List.getElem_cons_succ, List.getElem_cons_zero, List.setIfInBounds_toArray, List.set_cons_zero, List.set_cons_succ]
              have y0 := RowIs.cell (j := 0) HT9.out.row rfl; have y1 := RowIs.cell (j := 1) HT9.out.row rfl; have y2 := RowIs.cell (j := 2) HT9.out.row rfl; have y3 := RowIs.cell (j := 3) HT9.out.row rfl; have y4 := RowIs.cell (j := 4) HT9.out.row rfl; have y5 := RowIs.cell (j := 5) HT9.out.row rfl; have y6 := RowIs.cell (j := 6) HT9.out.row rfl; have y7 := RowIs.cell (j := 7) HT9.out.row rfl; have y9 := fun j => RowIs.frozen HT9.out.row j; have y8 := HT9.out.row.lt
              have HT5 := hide (HT9.out.set 1 (.string z) (⟨t0.1.nm, z, t0.1.list, t0.1.quota⟩, t0.2) t1 rfl HT9.out.l0 HT9.out.l1 ⟨HT9.out.s0.1, by show ByteArray.size z ≤ 100; omega, HT9.out.s0.2.2⟩ HT9.out.s1)
              refine wpAny_ready (rs := [10]) (by kernel_rfl) (by simp) ?_
              refine (AllReady.cons rfl (fun K hK => ?_) AllReady.nil)
              go_simp
              refine hK _ _ ?_; clear hK K
              refine wpAny_done (by kernel_rfl) ?_ _
              go_wp2_with fail
              go_ret
              first | exact ⟨_, _, rfl, HT5.out.st0, by simp, (fun x hx => by simp at hx; rcases hx with rfl | rfl <;> first | exact HT5.out.s0 | exact HT5.out.s1), HC9.out.set ⟨b, 1, none⟩ _ (by show g < b; omega), HM9.out.setNew ⟨b, 1, none⟩ (by show w.heap.size ≤ b; omega) _⟩ | exact ⟨_, rfl, _, HT5.out.st0, by simp, (fun x hx => by simp at hx; rcases hx with rfl | rfl <;> first | exact HT5.out.s0 | exact HT5.out.s1), HC9.out.set ⟨b, 1, none⟩ _ (by show g < b; omega), HM9.out.setNew ⟨b, 1, none⟩ (by show w.heap.size ≤ b; omega) _⟩
        · skip
          obtain ⟨VA, hVA⟩ : ∃ V, w3.alloc (.cells #[.int .i64 (-1), .int .i64 20, .int .i64 21] 2) = V := ⟨_, rfl⟩
          have RA : RowIs VA w3.heap.size 2 [.int .i64 (-1), .int .i64 20, .int .i64 21] := by rw [← hVA]; exact rowIs_new w3 _ _
          have hbA : Below w3.heap.size w3 VA := by rw [← hVA]; exact (Below.refl _ _).alloc (Nat.le_refl _) _
          have hl3 := HC3.out.lt
          go_wp2_with fail
          (try rw [hVA])
          clear hVA
          refine (below1 g B 3 _ (HC3.out.below hbA) (by omega)).mono ?_; rintro e w4 ⟨q, q0, q1, _, rfl, hc4, hm4⟩
          have q6 := q1 (by omega)
          replace RA := RA.moves hm4 (by omega)
          obtain ⟨qn, rfl⟩ : ∃ n : Nat, q = n := ⟨q.toNat, by omega⟩
          obtain ⟨z, hz⟩ : ∃ z : Int, w4.cell? ⟨w3.heap.size, qn, none⟩ = some (.int .i64 z) := by
            have : qn = 0 ∨ qn = 1 ∨ qn = 2 := by omega
            rcases this with rfl | rfl | rfl <;> exact ⟨_, RA.cell rfl⟩
          have hlA := RA.lt
          have HT4 := hide ((HT3.out.new hbA).moves hm4)
          have HM4 := hide ((HM3.out.trans (Moves.of_below hbA)).trans hm4)
          have HC4 := hide hc4
          have y0 := RowIs.cell (j := 0) HT4.out.row rfl; have y1 := RowIs.cell (j := 1) HT4.out.row rfl; have y2 := RowIs.cell (j := 2) HT4.out.row rfl; have y3 := RowIs.cell (j := 3) HT4.out.row rfl; have y4 := RowIs.cell (j := 4) HT4.out.row rfl; have y5 := RowIs.cell (j := 5) HT4.out.row rfl; have y6 := RowIs.cell (j := 6) HT4.out.row rfl; have y7 := RowIs.cell (j := 7) HT4.out.row rfl; have y9 := fun j => RowIs.frozen HT4.out.row j; have y8 := HT4.out.row.lt
          have HT5 := hide (HT4.out.set 3 (.int .i64 z) (⟨t0.1.nm, t0.1.key, t0.1.list, z⟩, t0.2) t1 rfl HT4.out.l0 HT4.out.l1 HT4.out.s0 HT4.out.s1)
          clear q1 RA hbA hm4 HT3 HC3 HM3 hc4
          go_wp2_with fail
          go_ret
          first | exact ⟨_, _, rfl, HT5.out.st0, by simp, (fun x hx => by simp at hx; rcases hx with rfl | rfl <;> first | exact HT5.out.s0 | exact HT5.out.s1), HC4.out.set ⟨b, 3, none⟩ _ (by show g < b; omega), HM4.out.setNew ⟨b, 3, none⟩ (by show w.heap.size ≤ b; omega) _⟩ | exact ⟨_, rfl, _, HT5.out.st0, by simp, (fun x hx => by simp at hx; rcases hx with rfl | rfl <;> first | exact HT5.out.s0 | exact HT5.out.s1), HC4.out.set ⟨b, 3, none⟩ _ (by show g < b; omega), HM4.out.setNew ⟨b, 3, none⟩ (by show w.heap.size ≤ b; omega) _⟩
        · skip
          have HR0 := hide HT3.out.reads0
          have HL0 : Hid (∀ t ∈ ([t0, t1] : List (TenantD × Value)), LsAt w3 w.heap.size g t.2 t.1.list ∧ smT t.1) := fun t ht => by
            simp at ht
            rcases ht with rfl | rfl <;> first | exact ⟨HT3.out.l0, HT3.out.s0⟩ | exact ⟨HT3.out.l1, HT3.out.s1⟩
          have hgl := HT3.out.l0.lt
          clear HT3
          go_wp2_with fail
          go_loopw [3] (fun s wr => ∃ (T : List (TenantD × Value)) (b1 o1 p : Nat), s = .slice (some ⟨b1, o1, none⟩) T.length p ∧ 1 ≤ T.length ∧ T.length ≤ 9 ∧ w.heap.size ≤ b1 ∧ Hid (Reads wr (.slice (some ⟨b1, o1, none⟩) T.length p) T.length 4 (T.flatMap tcs)) ∧ Hid (p = T.length ∨ wr.ownsRow w.heap.size 32 4 (.slice (some ⟨b1, o1, none⟩) T.length p) T.length (T.flatMap tcs)) ∧ Hid (∀ t ∈ T, LsAt wr w.heap.size g t.2 t.1.list ∧ smT t.1) ∧ Hid (Cur wr g B) ∧ Hid (Moves g w wr)) (fun s _ => 9 - lenS15 s)
          case atStart => exact ⟨[t0, t1], b, 0, 2, rfl, by simp, by simp, hbb, HR0, .inl rfl, HL0, HC3, HM3⟩
          case round =>
            clear HR0 HL0 HC3 HM3
            obtain ⟨T, b1, o1, p, rfl, hT1, hT9, hb1, HR, HO, HL, HC, HM⟩ := hrel
            by_cases hlt : T.length < 9
            rotate_left
            · have hltI : ¬ (T.length : Int) < 9 := by omega
              go_wp2_with fail
              go_ret
              first | exact ⟨_, _, rfl, st_of T (fun u' hm => HR.out.kept hm.size (fun k hk hl => hm.block k hl (by simp [Value.ownBlock] at hk; omega))) HL.out, by simpa using hT9, (fun x hx => by obtain ⟨t, ht, rfl⟩ := List.mem_map.1 hx; exact (HL.out t ht).2), HC.out, HM.out⟩ | exact ⟨_, rfl, _, st_of T (fun u' hm => HR.out.kept hm.size (fun k hk hl => hm.block k hl (by simp [Value.ownBlock] at hk; omega))) HL.out, by simpa using hT9, (fun x hx => by obtain ⟨t, ht, rfl⟩ := List.mem_map.1 hx; exact (HL.out t ht).2), HC.out, HM.out⟩
            have hltI : (T.length : Int) < 9 := by omega
            have hT0 : (0 : Int) < T.length := by omega
            obtain ⟨t, T', rfl⟩ : ∃ t T', T = t :: T' := by
              cases T with
              | nil => simp at hT1
              | cons t T' => exact ⟨t, T', rfl⟩
            have hlb : b1 < wr.heap.size := by obtain ⟨_, _, _, he, _, _, h4⟩ := HR.out; obtain ⟨b', o', e1, hb', _⟩ := h4 (by omega); simp only [Value.slice.injEq] at he; rw [← he.1] at e1; simp at e1; omega
            have hc := reads_add HR.out (by omega)
            have hadd : ∀ j, (⟨b1, o1, none⟩ : Addr).add j = ⟨b1, o1 + j, none⟩ := fun j => by unfold Addr.add; split <;> simp_all
            simp only [hadd] at hc
            have c0 : wr.cell? ⟨b1, o1, none⟩ = _ := hc 0 _ rfl
            have c1 := hc 1 _ rfl
            have c2 := hc 2 _ rfl
            have c3 := hc 3 _ rfl
            obtain ⟨al, pl, hal, _⟩ := owns_form (HL.out t (by simp)).1.own
            rw [hal] at c2
            clear hc hadd
            have hX : Below wr.heap.size wr (wr.alloc (.cells #[.string t.1.nm, .string t.1.key, .slice al t.1.list.length pl, .int .i64 t.1.quota] 32)) := (Below.refl _ _).alloc (Nat.le_refl _) _
            have RX := rowIs_new wr 32 [.string t.1.nm, .string t.1.key, .slice al t.1.list.length pl, .int .i64 t.1.quota]
            have hrX := reads_row RX 0 1 [.string t.1.nm, .string t.1.key, .slice al t.1.list.length pl, .int .i64 t.1.quota] rfl (by omega) (fun j x hj => by simpa using hj)
            have hone : ∀ y ∈ ([.string t.1.nm, .string t.1.key, .slice al t.1.list.length pl, .int .i64 t.1.quota] : List Value), y.oneCell' = true := by intro y hy; simp at hy; rcases hy with rfl | rfl | rfl | rfl <;> rfl
            have hfl : ((t :: T').flatMap tcs) ++ [.string t.1.nm, .string t.1.key, .slice al t.1.list.length pl, .int .i64 t.1.quota] = ((t :: T') ++ [t]).flatMap tcs := by rw [List.flatMap_append, List.flatMap_cons (xs := []), List.flatMap_nil, List.append_nil]; unfold tcs; rw [hal]
            have hln : ((t :: T') ++ [t]).length = (t :: T').length + 1 := by simp
            have HFL := hide hfl
            obtain ⟨N, hN⟩ : ∃ N, (t :: T').length = N := ⟨_, rfl⟩
            have hrd := HR.out
            have hoo := HO.out
            rw [hN] at hrd hoo hln
            obtain ⟨FX, hFX⟩ : ∃ X, (t :: T').flatMap tcs = X := ⟨_, rfl⟩
            rw [hFX] at hrd hoo HFL
            clear hfl
            try rw [hN]
            rcases hoo with hpn | hown
            · subst hpn
              have hrY := hrd.new hX
              go_wp2_with (at_builtin; go_must (refine wpList_app_full _ (by rfl) _ _ 24 (by rfl) 32 (.agg #[.string ⟨#[]⟩, .string ⟨#[]⟩, .slice none 0 0, .int .i64 0]) 4 64 Tryz.underlying24 (by kernel_rfl) rfl b1 o1 p p FX (by rfl) hrY (by omega) _ 0 1 1 _ (by rfl) hrX (by omega) (by omega) (by omega) (by decide) ?_))
              intro ad9 cp9 w9 hown9 hb9
              rw [HFL.out] at hown9
              have hbY := hX.trans (hb9.mono (by omega))
              obtain ⟨q9, cq, hq9, _, hq9b, _⟩ := owns_open hown9 (by omega)
              simp only [Value.slice.injEq] at hq9
              obtain ⟨rfl, _, rfl⟩ := hq9
              have hs9 := HM.out.size
              have hzX := hX.size
              have HO9 := hide (owns_base hown9 (base' := w.heap.size) (fun k hk => by simp [Value.ownBlock] at hk; omega))
              have HL9 : Hid (∀ x ∈ (t :: T') ++ [t], LsAt w9 w.heap.size g x.2 x.1.list ∧ smT x.1) := fun x hx => by
                have hx' : x ∈ t :: T' := by simp at hx ⊢; rcases hx with h | h | h <;> simp [h]
                exact ⟨(HL.out x hx').1.new hbY, (HL.out x hx').2⟩
              have HC9 := hide (HC.out.below hbY)
              have HM9 := hide (HM.out.trans (Moves.of_below hbY))
              go_wp2_with fail
              go_roundw
              case rel => exact ⟨(t :: T') ++ [t], q9, 0, cp9, by rw [hln], by rw [hln]; omega, by rw [hln]; omega, by omega, by rw [hln]; exact reads_of_owns HO9.out, .inr (by rw [hln]; exact HO9.out), HL9, HC9, HM9⟩
              case measure => simp [lenS15]; omega
            · have hoY := owns_new hown hX
              go_wp2_with (at_builtin; go_must (refine wpList_app _ (by rfl) _ _ 24 (by rfl) 32 (.agg #[.string ⟨#[]⟩, .string ⟨#[]⟩, .slice none 0 0, .int .i64 0]) 4 64 Tryz.underlying24 (by kernel_rfl) rfl (by decide) w.heap.size _ N FX (by rfl) hoY _ 1 _ (by rfl) hrX hone (by omega) (by decide) (by have := HM.out.size; have := hX.size; omega) ?_))
              intro ad9 cp9 w9 hown9 hg9 hat9
              rw [HFL.out] at hown9
              obtain ⟨q9, cq, hq9, _, hq9b, _⟩ := owns_open hown9 (by omega)
              simp only [Value.slice.injEq] at hq9
              obtain ⟨rfl, _, rfl⟩ := hq9
              have HO9 := hide hown9
              have HL9 : Hid (∀ x ∈ (t :: T') ++ [t], LsAt w9 w.heap.size g x.2 x.1.list ∧ smT x.1) := fun x hx => by
                have hx' : x ∈ t :: T' := by simp at hx ⊢; rcases hx with h | h | h <;> simp [h]
                exact ⟨ls_grown ((HL.out x hx').1.new hX) hoY hg9, (HL.out x hx').2⟩
              have HC9 := hide (cur_grown (HC.out.below hX) hg9 (fun k hk => by have := (hoY.lt k hk).1; omega))
              have HM9 := hide (moves_grown (HM.out.trans (Moves.of_below hX)) hg9 (fun k hk => (hoY.lt k hk).1))
              go_wp2_with fail
              go_roundw
              case rel => exact ⟨(t :: T') ++ [t], q9, 0, cp9, by rw [hln], by rw [hln]; omega, by rw [hln]; omega, by omega, by rw [hln]; exact reads_of_owns HO9.out, .inr (by rw [hln]; exact HO9.out), HL9, HC9, HM9⟩
              case measure => simp [lenS15]; omega
      · skip
        go_wp2_with fail
        refine (once1 g B 12 _ HC1.out (by omega)).mono ?_; rintro e w2 ⟨b2, rfl, hc2, hm2⟩
        have HT2 := hide (HT1.out.moves hm2)
        have HC2 := hide hc2
        have HM2 := hide (HM1.out.trans hm2)
        clear HT1 HC1 HM1 hc2 hm2
        cases b2
        · skip
          go_wp2_with fail
          go_ret
          first | exact ⟨_, _, rfl, HT2.out.st1, by simp, (fun x hx => by simp at hx; subst hx; exact HT2.out.s1), HC2.out, HM2.out⟩ | exact ⟨_, rfl, _, HT2.out.st1, by simp, (fun x hx => by simp at hx; subst hx; exact HT2.out.s1), HC2.out, HM2.out⟩
        go_wp2_with fail
        refine (below1 g B 4 _ HC2.out (by omega)).mono ?_; rintro e w3 ⟨m, m0, m1, _, rfl, hc3, hm3⟩
        have m4 := m1 (by omega)
        have HT3 := hide (HT2.out.moves hm3)
        have HC3 := hide hc3
        have HM3 := hide (HM2.out.trans hm3)
        clear HT2 HC2 HM2 hc3 hm3 m1
        have hgb : g < b := by have := HT3.out.l0.lt; omega
        have hmm : m = 0 ∨ m = 1 ∨ m = 2 ∨ m = 3 := by omega
        rcases hmm with rfl | rfl | rfl | rfl
        · skip
          go_wp2_with fail
          refine (drawName14 g B _ HC3.out).mono ?_; rintro e w4 ⟨z, hz, rfl, hc4, hm4⟩
          have HT4 := hide (HT3.out.moves hm4)
          have HC4 := hide hc4
          have HM4 := hide (HM3.out.trans hm4)
          have y0 := RowIs.cell (j := 0) HT4.out.row rfl; have y1 := RowIs.cell (j := 1) HT4.out.row rfl; have y2 := RowIs.cell (j := 2) HT4.out.row rfl; have y3 := RowIs.cell (j := 3) HT4.out.row rfl; have y4 := RowIs.cell (j := 4) HT4.out.row rfl; have y5 := RowIs.cell (j := 5) HT4.out.row rfl; have y6 := RowIs.cell (j := 6) HT4.out.row rfl; have y7 := RowIs.cell (j := 7) HT4.out.row rfl; have y9 := fun j => RowIs.frozen HT4.out.row j; have y8 := HT4.out.row.lt
          have HT5 := hide (HT4.out.set 4 (.string z) t0 (⟨z, t1.1.key, t1.1.list, t1.1.quota⟩, t1.2) rfl HT4.out.l0 HT4.out.l1 HT4.out.s0 ⟨by show z.size ≤ 100; omega, HT4.out.s1.2⟩)
          clear HT3 HC3 HM3 hc4 hm4
          go_wp2_with fail
          go_ret
          first | exact ⟨_, _, rfl, HT5.out.st1, by simp, (fun x hx => by simp at hx; subst hx; exact HT5.out.s1), HC4.out.set ⟨b, 4, none⟩ _ (by show g < b; omega), HM4.out.setNew ⟨b, 4, none⟩ (by show w.heap.size ≤ b; omega) _⟩ | exact ⟨_, rfl, _, HT5.out.st1, by simp, (fun x hx => by simp at hx; subst hx; exact HT5.out.s1), HC4.out.set ⟨b, 4, none⟩ _ (by show g < b; omega), HM4.out.setNew ⟨b, 4, none⟩ (by show w.heap.size ≤ b; omega) _⟩
        · skip
          obtain ⟨M, hMs, hML, hmk⟩ := make_bytes 41 (by omega)
          have hmk' : ∀ X : World, (Instr.makeSlice 22 (.int .i64 41) (.int .i64 41)).run Tryz.prog X = .ok (.slice (some ⟨X.heap.size, 0, none⟩) 41 41) (X.alloc (.cells M 5)) := fun X => by have := hmk X; exact this
          clear hmk
          go_wp2_with fail
          refine wp_region_any (by kernel_rfl) ?_
          change wpAny _ _ _ _ _ _ _ (World.drew _)
          have HT9 : Hid (TwoAt (World.drew w3) w.heap.size g b t0 t1) := hide (HT3.out.new (Below.refl _ _).drew)
          have HC9 : Hid (Cur (World.drew w3) g B) := hide HC3.out.drew
          have HM9 : Hid (Moves g w (World.drew w3)) := hide HM3.out.drew
          clear HT3 HC3 HM3
          generalize World.drew w3 = u0 at *
          refine wpAny_take (i := 0) (v := ?_) rfl (by kernel_rfl) (by kernel_rfl) (by kernel_rfl) (fun _ _ _ h => h) (Or.inl ⟨by rfl, ?_⟩) ?_; rotate_left; focus (intro uu; go_simp; try with_reducible rfl)
          try simp only [Act.put, List.getElem_toArray, List.getElem_cons_succ, List.getElem_cons_zero, List.setIfInBounds_toArray, List.set_cons_zero, List.set_cons_succ]
          refine wpAny_take (i := 4) (v := ?_) rfl (by kernel_rfl) (by kernel_rfl) (by kernel_rfl) (fun _ _ _ h => h) (Or.inl ⟨by rfl, ?_⟩) ?_; rotate_left; focus (intro uu; go_simp; try with_reducible rfl)
          try simp only [Act.put, List.getElem_toArray, List.getElem_cons_succ, List.getElem_cons_zero, List.setIfInBounds_toArray, List.set_cons_zero, List.set_cons_succ]
          refine wpAny_ready (rs := [1, 5]) (by kernel_rfl) (by simp) ?_
          refine (AllReady.cons rfl (fun K hK => ?_) (AllReady.cons rfl (fun K hK => ?_) AllReady.nil))
          · skip
            go_simp
            obtain ⟨x1, hx1⟩ : ∃ u, u0.alloc (.cells M 5) = u := ⟨_, rfl⟩
            have hbx1 : Below u0.heap.size u0 x1 := by rw [← hx1]; exact (Below.refl _ _).alloc (Nat.le_refl _) _
            have HD : Hid (MadeB x1 u0.heap.size 41 g) := by show _; rw [← hx1]; exact madeB_of hMs hML HC9.out.lt (by omega)
            replace HT9 := hide (HT9.out.new hbx1)
            replace HC9 := hide (HC9.out.below hbx1)
            replace HM9 := hide (HM9.out.trans (Moves.of_below hbx1))
            rw [hx1]
            clear hx1 hbx1
            generalize u0.heap.size = qd at *
            refine hK _ _ ?_; clear hK K
            try simp only [Act.put, List.getElem_toArray, List.getElem_cons_succ, List.getElem_cons_zero, List.setIfInBounds_toArray, List.set_cons_zero, List.set_cons_succ]
            refine wpAny_ready (rs := [2, 5]) (by kernel_rfl) (by simp) ?_
            refine (AllReady.cons rfl (fun K hK => ?_) (AllReady.cons rfl (fun K hK => ?_) AllReady.nil))
            · skip
              obtain ⟨z, hzs, hcv⟩ := HD.out.text
              go_simp
              refine hK _ _ ?_; clear hK K hcv
              try simp only [Act.put, List.getElem_toArray, List.getElem_cons_succ, List.getElem_cons_zero, List.setIfInBounds_toArray, List.set_cons_zero, List.set_cons_succ]
              refine wpAny_ready (rs := [3, 5]) (by kernel_rfl) (by simp) ?_
              refine (AllReady.cons rfl (fun K hK => ?_) (AllReady.cons rfl (fun K hK => ?_) AllReady.nil))
              · skip
                go_simp
                obtain ⟨x3, hx3⟩ : ∃ u, x1.alloc (.cells #[.string ⟨#[]⟩, .string z] 9) = u := ⟨_, rfl⟩
                have hbx3 : Below x1.heap.size x1 x3 := by rw [← hx3]; exact (Below.refl _ _).alloc (Nat.le_refl _) _
                have HR : Hid (RowIs x3 x1.heap.size 9 [.string ⟨#[]⟩, .string z]) := by show _; rw [← hx3]; exact rowIs_new x1 _ _
                have hqr : x1.heap.size ≠ g := by have := HC9.out.lt; omega
                replace HT9 := hide (HT9.out.new hbx3)
                replace HC9 := hide (HC9.out.below hbx3)
                replace HD := hide (HD.out.new hbx3)
                replace HM9 := hide (HM9.out.trans (Moves.of_below hbx3))
                rw [hx3]
                clear hx3 hbx3
                generalize x1.heap.size = qr at *
                refine hK _ _ ?_; clear hK K
                try simp only [Act.put, List.getElem_toArray, List.getElem_cons_succ, List.getElem_cons_zero, List.setIfInBounds_toArray, List.set_cons_zero, List.set_cons_succ]
                refine wpAny_ready (rs := [5]) (by kernel_rfl) (by simp) ?_
                refine (AllReady.cons rfl (fun K hK => ?_) AllReady.nil)
                go_simp
                refine (below1 g B 2 _ HC9.out (by omega)).mono ?_; rintro e x4 ⟨q, q0, q1, _, rfl, hcx, hmx⟩
                have q2 := q1 (by omega)
                replace HT9 := hide (HT9.out.moves hmx)
                replace HD := hide (HD.out.moves hmx)
                replace HR := hide (HR.out.moves hmx hqr)
                replace HM9 := hide (HM9.out.trans hmx)
                replace HC9 := hide hcx
                clear hcx hmx q1
                have hqq : q = 0 ∨ q = 1 := by omega
                refine hK _ _ ?_; clear hK K
                rcases hqq with rfl | rfl
                · skip
                  try simp only [Act.put, List.getElem_toArray, List.getElem_cons_succ, List.getElem_cons_zero, List.setIfInBounds_toArray, List.set_cons_zero, List.set_cons_succ]
                  refine wpAny_take (i := 6) (v := ?_) rfl (by kernel_rfl) (by kernel_rfl) (by kernel_rfl) (fun _ _ _ h => h) (Or.inl ⟨by rfl, ?_⟩) ?_; rotate_left; focus (intro uu; go_simp; try with_reducible rfl)
                  try simp only [Act.put, List.getElem_toArray, List.getElem_cons_succ, List.getElem_cons_zero, List.setIfInBounds_toArray, List.set_cons_zero, List.set_cons_succ]
                  have hx7 := HR.out.cell (j := 0) rfl
                  refine wpAny_ready (rs := [7]) (by kernel_rfl) (by simp) ?_
                  refine (AllReady.cons rfl (fun K hK => ?_) AllReady.nil)
                  go_simp
                  refine hK _ _ ?_; clear hK K hx7
                  try simp only [Act.put, List.getElem_toArray, List.getElem_cons_succ, List.getElem_cons_zero, List.setIfInBounds_toArray, List.set_cons_zero, List.set_cons_succ]
                  refine wpAny_take (i := 8) (v := ?_) rfl (by kernel_rfl) (by kernel_rfl) (by kernel_rfl) (fun _ _ _ h => h) (Or.inl ⟨by rfl, ?_⟩) ?_; rotate_left; focus (intro uu; go_simp; try with_reducible rfl)
                  try simp only [Act.put, List.getElem_toArray, List.getElem_cons_succ, List.getElem_cons_zero, List.setIfInBounds_toArray, List.set_cons_zero, List.set_cons_succ]
                  refine wpAny_take (i := 9) (v := ?_) rfl (by kernel_rfl) (by kernel_rfl) (by kernel_rfl) (fun _ _ _ h => h) (Or.inl ⟨by rfl, ?_⟩) ?_; rotate_left; focus (intro uu; go_simp; try with_reducible rfl)
                  try simp only [Act.put, List.getElem_toArray, List.getElem_cons_succ, List.getElem_cons_zero, List.setIfInBounds_toArray, List.set_cons_zero, List.set_cons_succ]
                  have y0 := RowIs.cell (j := 0) HT9.out.row rfl; have y1 := RowIs.cell (j := 1) HT9.out.row rfl; have y2 := RowIs.cell (j := 2) HT9.out.row rfl; have y3 := RowIs.cell (j := 3) HT9.out.row rfl; have y4 := RowIs.cell (j := 4) HT9.out.row rfl; have y5 := RowIs.cell (j := 5) HT9.out.row rfl; have y6 := RowIs.cell (j := 6) HT9.out.row rfl; have y7 := RowIs.cell (j := 7) HT9.out.row rfl; have y9 := fun j => RowIs.frozen HT9.out.row j; have y8 := HT9.out.row.lt
                  have HT5 := hide (HT9.out.set 5 (.string ⟨#[]⟩) t0 (⟨t1.1.nm, ⟨#[]⟩, t1.1.list, t1.1.quota⟩, t1.2) rfl HT9.out.l0 HT9.out.l1 HT9.out.s0 ⟨HT9.out.s1.1, by show ByteArray.size ⟨#[]⟩ ≤ 100; decide, HT9.out.s1.2.2⟩)
                  refine wpAny_ready (rs := [10]) (by kernel_rfl) (by simp) ?_
                  refine (AllReady.cons rfl (fun K hK => ?_) AllReady.nil)
                  go_simp
                  refine hK _ _ ?_; clear hK K
                  refine wpAny_done (by kernel_rfl) ?_ _
                  go_wp2_with fail
                  go_ret
                  first | exact ⟨_, _, rfl, HT5.out.st1, by simp, (fun x hx => by simp at hx; subst hx; exact HT5.out.s1), HC9.out.set ⟨b, 5, none⟩ _ (by show g < b; omega), HM9.out.setNew ⟨b, 5, none⟩ (by show w.heap.size ≤ b; omega) _⟩ | exact ⟨_, rfl, _, HT5.out.st1, by simp, (fun x hx => by simp at hx; subst hx; exact HT5.out.s1), HC9.out.set ⟨b, 5, none⟩ _ (by show g < b; omega), HM9.out.setNew ⟨b, 5, none⟩ (by show w.heap.size ≤ b; omega) _⟩
                · skip
                  try simp only [Act.put, List.getElem_toArray, List.getElem_cons_succ, List.getElem_cons_zero, List.setIfInBounds_toArray, List.set_cons_zero, List.set_cons_succ]
                  refine wpAny_take (i := 6) (v := ?_) rfl (by kernel_rfl) (by kernel_rfl) (by kernel_rfl) (fun _ _ _ h => h) (Or.inl ⟨by rfl, ?_⟩) ?_; rotate_left; focus (intro uu; go_simp; try with_reducible rfl)
                  try simp only [Act.put, List.getElem_toArray, List.getElem_cons_succ, List.getElem_cons_zero, List.setIfInBounds_toArray, List.set_cons_zero, List.set_cons_succ]
                  have hx7 := HR.out.cell (j := 1) rfl
                  refine wpAny_ready (rs := [7]) (by kernel_rfl) (by simp) ?_
                  refine (AllReady.cons rfl (fun K hK => ?_) AllReady.nil)
                  go_simp
                  refine hK _ _ ?_; clear hK K hx7
                  try simp only [Act.put, List.getElem_toArray, List.getElem_cons_succ, List.getElem_cons_zero, List.setIfInBounds_toArray, List.set_cons_zero, List.set_cons_succ]
                  refine wpAny_take (i := 8) (v := ?_) rfl (by kernel_rfl) (by kernel_rfl) (by kernel_rfl) (fun _ _ _ h => h) (Or.inl ⟨by rfl, ?_⟩) ?_; rotate_left; focus (intro uu; go_simp; try with_reducible rfl)
                  try simp only [Act.put, List.getElem_toArray, List.getElem_cons_succ, List.getElem_cons_zero, List.setIfInBounds_toArray, List.set_cons_zero, List.set_cons_succ]
                  refine wpAny_take (i := 9) (v := ?_) rfl (by kernel_rfl) (by kernel_rfl) (by kernel_rfl) (fun _ _ _ h => h) (Or.inl ⟨by rfl, ?_⟩) ?_; rotate_left; focus (intro uu; go_simp; try with_reducible rfl)
                  try simp only [Act.put, List.getElem_toArray, List.getElem_cons_succ, List.getElem_cons_zero, List.setIfInBounds_toArray, List.set_cons_zero, List.set_cons_succ]
                  have y0 := RowIs.cell (j := 0) HT9.out.row rfl; have y1 := RowIs.cell (j := 1) HT9.out.row rfl; have y2 := RowIs.cell (j := 2) HT9.out.row rfl; have y3 := RowIs.cell (j := 3) HT9.out.row rfl; have y4 := RowIs.cell (j := 4) HT9.out.row rfl; have y5 := RowIs.cell (j := 5) HT9.out.row rfl; have y6 := RowIs.cell (j := 6) HT9.out.row rfl; have y7 := RowIs.cell (j := 7) HT9.out.row rfl; have y9 := fun j => RowIs.frozen HT9.out.row j; have y8 := HT9.out.row.lt
                  have HT5 := hide (HT9.out.set 5 (.string z) t0 (⟨t1.1.nm, z, t1.1.list, t1.1.quota⟩, t1.2) rfl HT9.out.l0 HT9.out.l1 HT9.out.s0 ⟨HT9.out.s1.1, by show ByteArray.size z ≤ 100; omega, HT9.out.s1.2.2⟩)
                  refine wpAny_ready (rs := [10]) (by kernel_rfl) (by simp) ?_
                  refine (AllReady.cons rfl (fun K hK => ?_) AllReady.nil)
                  go_simp
                  refine hK _ _ ?_; clear hK K
                  refine wpAny_done (by kernel_rfl) ?_ _
                  go_wp2_with fail
                  go_ret
                  first | exact ⟨_, _, rfl, HT5.out.st1, by simp, (fun x hx => by simp at hx; subst hx; exact HT5.out.s1), HC9.out.set ⟨b, 5, none⟩ _ (by show g < b; omega), HM9.out.setNew ⟨b, 5, none⟩ (by show w.heap.size ≤ b; omega) _⟩ | exact ⟨_, rfl, _, HT5.out.st1, by simp, (fun x hx => by simp at hx; subst hx; exact HT5.out.s1), HC9.out.set ⟨b, 5, none⟩ _ (by show g < b; omega), HM9.out.setNew ⟨b, 5, none⟩ (by show w.heap.size ≤ b; omega) _⟩
              · skip
                go_simp
                refine (below1 g B 2 _ HC9.out (by omega)).mono ?_; rintro e x5 ⟨q, q0, q1, _, rfl, hcx, hmx⟩
                have q2 := q1 (by omega)
                replace HT9 := hide (HT9.out.moves hmx)
                replace HD := hide (HD.out.moves hmx)
                replace HM9 := hide (HM9.out.trans hmx)
                replace HC9 := hide hcx
                clear hcx hmx q1
                have hqq : q = 0 ∨ q = 1 := by omega
                refine hK _ _ ?_; clear hK K
                rcases hqq with rfl | rfl
                · skip
                  try simp only [Act.put, List.getElem_toArray, List.getElem_cons_succ, List.getElem_cons_zero, List.setIfInBounds_toArray, List.set_cons_zero, List.set_cons_succ]
                  refine wpAny_ready (rs := [3]) (by kernel_rfl) (by simp) ?_
                  refine (AllReady.cons rfl (fun K hK => ?_) AllReady.nil)
                  go_simp
                  obtain ⟨x6, hx6⟩ : ∃ u, x5.alloc (.cells #[.string ⟨#[]⟩, .string z] 9) = u := ⟨_, rfl⟩
                  have hbx6 : Below x5.heap.size x5 x6 := by rw [← hx6]; exact (Below.refl _ _).alloc (Nat.le_refl _) _
                  have HR : Hid (RowIs x6 x5.heap.size 9 [.string ⟨#[]⟩, .string z]) := by show _; rw [← hx6]; exact rowIs_new x5 _ _
                  have hqr : x5.heap.size ≠ g := by have := HC9.out.lt; omega
                  replace HT9 := hide (HT9.out.new hbx6)
                  replace HC9 := hide (HC9.out.below hbx6)
                  replace HD := hide (HD.out.new hbx6)
                  replace HM9 := hide (HM9.out.trans (Moves.of_below hbx6))
                  rw [hx6]
                  clear hx6 hbx6
                  generalize x5.heap.size = qr at *
                  refine hK _ _ ?_; clear hK K
                  try simp only [Act.put, List.getElem_toArray, List.getElem_cons_succ, List.getElem_cons_zero, List.setIfInBounds_toArray, List.set_cons_zero, List.set_cons_succ]
                  refine wpAny_take (i := 6) (v := ?_) rfl (by kernel_rfl) (by kernel_rfl) (by kernel_rfl) (fun _ _ _ h => h) (Or.inl ⟨by rfl, ?_⟩) ?_; rotate_left; focus (intro uu; go_simp; try with_reducible rfl)
                  try simp only [Act.put, List.getElem_toArray, List.getElem_cons_succ, List.getElem_cons_zero, List.setIfInBounds_toArray, List.set_cons_zero, List.set_cons_succ]
                  have hx7 := HR.out.cell (j := 0) rfl
                  refine wpAny_ready (rs := [7]) (by kernel_rfl) (by simp) ?_
                  refine (AllReady.cons rfl (fun K hK => ?_) AllReady.nil)
                  go_simp
                  refine hK _ _ ?_; clear hK K hx7
                  try simp only [Act.put, List.getElem_toArray, List.getElem_cons_succ, List.getElem_cons_zero, List.setIfInBounds_toArray, List.set_cons_zero, List.set_cons_succ]
                  refine wpAny_take (i := 8) (v := ?_) rfl (by kernel_rfl) (by kernel_rfl) (by kernel_rfl) (fun _ _ _ h => h) (Or.inl ⟨by rfl, ?_⟩) ?_; rotate_left; focus (intro uu; go_simp; try with_reducible rfl)
                  try simp only [Act.put, List.getElem_toArray, List.getElem_cons_succ, List.getElem_cons_zero, List.setIfInBounds_toArray, List.set_cons_zero, List.set_cons_succ]
                  refine wpAny_take (i := 9) (v := ?_) rfl (by kernel_rfl) (by kernel_rfl) (by kernel_rfl) (fun _ _ _ h => h) (Or.inl ⟨by rfl, ?_⟩) ?_; rotate_left; focus (intro uu; go_simp; try with_reducible rfl)
                  try simp only [Act.put, List.getElem_toArray, List.getElem_cons_succ, List.getElem_cons_zero, List.setIfInBounds_toArray, List.set_cons_zero, List.set_cons_succ]
                  have y0 := RowIs.cell (j := 0) HT9.out.row rfl; have y1 := RowIs.cell (j := 1) HT9.out.row rfl; have y2 := RowIs.cell (j := 2) HT9.out.row rfl; have y3 := RowIs.cell (j := 3) HT9.out.row rfl; have y4 := RowIs.cell (j := 4) HT9.out.row rfl; have y5 := RowIs.cell (j := 5) HT9.out.row rfl; have y6 := RowIs.cell (j := 6) HT9.out.row rfl; have y7 := RowIs.cell (j := 7) HT9.out.row rfl; have y9 := fun j => RowIs.frozen HT9.out.row j; have y8 := HT9.out.row.lt
                  have HT5 := hide (HT9.out.set 5 (.string ⟨#[]⟩) t0 (⟨t1.1.nm, ⟨#[]⟩, t1.1.list, t1.1.quota⟩, t1.2) rfl HT9.out.l0 HT9.out.l1 HT9.out.s0 ⟨HT9.out.s1.1, by show ByteArray.size ⟨#[]⟩ ≤ 100; decide, HT9.out.s1.2.2⟩)
                  refine wpAny_ready (rs := [10]) (by kernel_rfl) (by simp) ?_
                  refine (AllReady.cons rfl (fun K hK => ?_) AllReady.nil)
                  go_simp
                  refine hK _ _ ?_; clear hK K
                  refine wpAny_done (by kernel_rfl) ?_ _
                  go_wp2_with fail
                  go_ret
                  first | exact ⟨_, _, rfl, HT5.out.st1, by simp, (fun x hx => by simp at hx; subst hx; exact HT5.out.s1), HC9.out.set ⟨b, 5, none⟩ _ (by show g < b; omega), HM9.out.setNew ⟨b, 5, none⟩ (by show w.heap.size ≤ b; omega) _⟩ | exact ⟨_, rfl, _, HT5.out.st1, by simp, (fun x hx => by simp at hx; subst hx; exact HT5.out.s1), HC9.out.set ⟨b, 5, none⟩ _ (by show g < b; omega), HM9.out.setNew ⟨b, 5, none⟩ (by show w.heap.size ≤ b; omega) _⟩
                · skip
                  try simp only [Act.put, List.getElem_toArray, List.getElem_cons_succ, List.getElem_cons_zero, List.setIfInBounds_toArray, List.set_cons_zero, List.set_cons_succ]
                  refine wpAny_ready (rs := [3]) (by kernel_rfl) (by simp) ?_
                  refine (AllReady.cons rfl (fun K hK => ?_) AllReady.nil)
                  go_simp
                  obtain ⟨x7, hx7⟩ : ∃ u, x5.alloc (.cells #[.string ⟨#[]⟩, .string z] 9) = u := ⟨_, rfl⟩
                  have hbx7 : Below x5.heap.size x5 x7 := by rw [← hx7]; exact (Below.refl _ _).alloc (Nat.le_refl _) _
                  have HR : Hid (RowIs x7 x5.heap.size 9 [.string ⟨#[]⟩, .string z]) := by show _; rw [← hx7]; exact rowIs_new x5 _ _
                  have hqr : x5.heap.size ≠ g := by have := HC9.out.lt; omega
                  replace HT9 := hide (HT9.out.new hbx7)
                  replace HC9 := hide (HC9.out.below hbx7)
                  replace HD := hide (HD.out.new hbx7)
                  replace HM9 := hide (HM9.out.trans (Moves.of_below hbx7))
                  rw [hx7]
                  clear hx7 hbx7
                  generalize x5.heap.size = qr at *
                  refine hK _ _ ?_; clear hK K
                  try simp only [Act.put, List.getElem_toArray, List.getElem_cons_succ, List.getElem_cons_zero, List.setIfInBounds_toArray, List.set_cons_zero, List.set_cons_succ]
                  refine wpAny_take (i := 6) (v := ?_) rfl (by kernel_rfl) (by kernel_rfl) (by kernel_rfl) (fun _ _ _ h => h) (Or.inl ⟨by rfl, ?_⟩) ?_; rotate_left; focus (intro uu; go_simp; try with_reducible rfl)
                  try simp only [Act.put, List.getElem_toArray, List.getElem_cons_succ, List.getElem_cons_zero, List.setIfInBounds_toArray, List.set_cons_zero, List.set_cons_succ]
                  have hx7 := HR.out.cell (j := 1) rfl
                  refine wpAny_ready (rs := [7]) (by kernel_rfl) (by simp) ?_
                  refine (AllReady.cons rfl (fun K hK => ?_) AllReady.nil)
                  go_simp
                  refine hK _ _ ?_; clear hK K hx7
                  try simp only [Act.put, List.getElem_toArray, List.getElem_cons_succ, List.getElem_cons_zero, List.setIfInBounds_toArray, List.set_cons_zero, List.set_cons_succ]
                  refine wpAny_take (i := 8) (v := ?_) rfl (by kernel_rfl) (by kernel_rfl) (by kernel_rfl) (fun _ _ _ h => h) (Or.inl ⟨by rfl, ?_⟩) ?_; rotate_left; focus (intro uu; go_simp; try with_reducible rfl)
                  try simp only [Act.put, List.getElem_toArray, List.getElem_cons_succ, List.getElem_cons_zero, List.setIfInBounds_toArray, List.set_cons_zero, List.set_cons_succ]
                  refine wpAny_take (i := 9) (v := ?_) rfl (by kernel_rfl) (by kernel_rfl) (by kernel_rfl) (fun _ _ _ h => h) (Or.inl ⟨by rfl, ?_⟩) ?_; rotate_left; focus (intro uu; go_simp; try with_reducible rfl)
                  try simp only [Act.put, List.getElem_toArray, List.getElem_cons_succ, List.getElem_cons_zero, List.setIfInBounds_toArray, List.set_cons_zero, List.set_cons_succ]
                  have y0 := RowIs.cell (j := 0) HT9.out.row rfl; have y1 := RowIs.cell (j := 1) HT9.out.row rfl; have y2 := RowIs.cell (j := 2) HT9.out.row rfl; have y3 := RowIs.cell (j := 3) HT9.out.row rfl; have y4 := RowIs.cell (j := 4) HT9.out.row rfl; have y5 := RowIs.cell (j := 5) HT9.out.row rfl; have y6 := RowIs.cell (j := 6) HT9.out.row rfl; have y7 := RowIs.cell (j := 7) HT9.out.row rfl; have y9 := fun j => RowIs.frozen HT9.out.row j; have y8 := HT9.out.row.lt
                  have HT5 := hide (HT9.out.set 5 (.string z) t0 (⟨t1.1.nm, z, t1.1.list, t1.1.quota⟩, t1.2) rfl HT9.out.l0 HT9.out.l1 HT9.out.s0 ⟨HT9.out.s1.1, by show ByteArray.size z ≤ 100; omega, HT9.out.s1.2.2⟩)
                  refine wpAny_ready (rs := [10]) (by kernel_rfl) (by simp) ?_
                  refine (AllReady.cons rfl (fun K hK => ?_) AllReady.nil)
                  go_simp
                  refine hK _ _ ?_; clear hK K
                  refine wpAny_done (by kernel_rfl) ?_ _
                  go_wp2_with fail
                  go_ret
                  first | exact ⟨_, _, rfl, HT5.out.st1, by simp, (fun x hx => by simp at hx; subst hx; exact HT5.out.s1), HC9.out.set ⟨b, 5, none⟩ _ (by show g < b; omega), HM9.out.setNew ⟨b, 5, none⟩ (by show w.heap.size ≤ b; omega) _⟩ | exact ⟨_, rfl, _, HT5.out.st1, by simp, (fun x hx => by simp at hx; subst hx; exact HT5.out.s1), HC9.out.set ⟨b, 5, none⟩ _ (by show g < b; omega), HM9.out.setNew ⟨b, 5, none⟩ (by show w.heap.size ≤ b; omega) _⟩
            · skip
              go_simp
              refine (below1 g B 2 _ HC9.out (by omega)).mono ?_; rintro e x8 ⟨q, q0, q1, _, rfl, hcx, hmx⟩
              have q2 := q1 (by omega)
              replace HT9 := hide (HT9.out.moves hmx)
              replace HD := hide (HD.out.moves hmx)
              replace HM9 := hide (HM9.out.trans hmx)
              replace HC9 := hide hcx
              clear hcx hmx q1
              have hqq : q = 0 ∨ q = 1 := by omega
              refine hK _ _ ?_; clear hK K
              rcases hqq with rfl | rfl
              · skip
                try simp only [Act.put, List.getElem_toArray, List.getElem_cons_succ, List.getElem_cons_zero, List.setIfInBounds_toArray, List.set_cons_zero, List.set_cons_succ]
                refine wpAny_ready (rs := [2]) (by kernel_rfl) (by simp) ?_
                refine (AllReady.cons rfl (fun K hK => ?_) AllReady.nil)
                obtain ⟨z, hzs, hcv⟩ := HD.out.text
                go_simp
                refine hK _ _ ?_; clear hK K hcv
                try simp only [Act.put, List.getElem_toArray, List.getElem_cons_succ, List.getElem_cons_zero, List.setIfInBounds_toArray, List.set_cons_zero, List.set_cons_succ]
                refine wpAny_ready (rs := [3]) (by kernel_rfl) (by simp) ?_
                refine (AllReady.cons rfl (fun K hK => ?_) AllReady.nil)
                go_simp
                obtain ⟨x10, hx10⟩ : ∃ u, x8.alloc (.cells #[.string ⟨#[]⟩, .string z] 9) = u := ⟨_, rfl⟩
                have hbx10 : Below x8.heap.size x8 x10 := by rw [← hx10]; exact (Below.refl _ _).alloc (Nat.le_refl _) _
                have HR : Hid (RowIs x10 x8.heap.size 9 [.string ⟨#[]⟩, .string z]) := by show _; rw [← hx10]; exact rowIs_new x8 _ _
                have hqr : x8.heap.size ≠ g := by have := HC9.out.lt; omega
                replace HT9 := hide (HT9.out.new hbx10)
                replace HC9 := hide (HC9.out.below hbx10)
                replace HD := hide (HD.out.new hbx10)
                replace HM9 := hide (HM9.out.trans (Moves.of_below hbx10))
                rw [hx10]
                clear hx10 hbx10
                generalize x8.heap.size = qr at *
                refine hK _ _ ?_; clear hK K
                try simp only [Act.put, List.getElem_toArray, List.getElem_cons_succ, List.getElem_cons_zero, List.setIfInBounds_toArray, List.set_cons_zero, List.set_cons_succ]
                refine wpAny_take (i := 6) (v := ?_) rfl (by kernel_rfl) (by kernel_rfl) (by kernel_rfl) (fun _ _ _ h => h) (Or.inl ⟨by rfl, ?_⟩) ?_; rotate_left; focus (intro uu; go_simp; try with_reducible rfl)
                try simp only [Act.put, List.getElem_toArray, List.getElem_cons_succ, List.getElem_cons_zero, List.setIfInBounds_toArray, List.set_cons_zero, List.set_cons_succ]
                have hx7 := HR.out.cell (j := 0) rfl
                refine wpAny_ready (rs := [7]) (by kernel_rfl) (by simp) ?_
                refine (AllReady.cons rfl (fun K hK => ?_) AllReady.nil)
                go_simp
                refine hK _ _ ?_; clear hK K hx7
                try simp only [Act.put, List.getElem_toArray, List.getElem_cons_succ, List.getElem_cons_zero, List.setIfInBounds_toArray, List.set_cons_zero, List.set_cons_succ]
                refine wpAny_take (i := 8) (v := ?_) rfl (by kernel_rfl) (by kernel_rfl) (by kernel_rfl) (fun _ _ _ h => h) (Or.inl ⟨by rfl, ?_⟩) ?_; rotate_left; focus (intro uu; go_simp; try with_reducible rfl)
                try simp only [Act.put, List.getElem_toArray, List.getElem_cons_succ, List.getElem_cons_zero, List.setIfInBounds_toArray, List.set_cons_zero, List.set_cons_succ]
                refine wpAny_take (i := 9) (v := ?_) rfl (by kernel_rfl) (by kernel_rfl) (by kernel_rfl) (fun _ _ _ h => h) (Or.inl ⟨by rfl, ?_⟩) ?_; rotate_left; focus (intro uu; go_simp; try with_reducible rfl)
                try simp only [Act.put, List.getElem_toArray, List.getElem_cons_succ, List.getElem_cons_zero, List.setIfInBounds_toArray, List.set_cons_zero, List.set_cons_succ]
                have y0 := RowIs.cell (j := 0) HT9.out.row rfl; have y1 := RowIs.cell (j := 1) HT9.out.row rfl; have y2 := RowIs.cell (j := 2) HT9.out.row rfl; have y3 := RowIs.cell (j := 3) HT9.out.row rfl; have y4 := RowIs.cell (j := 4) HT9.out.row rfl; have y5 := RowIs.cell (j := 5) HT9.out.row rfl; have y6 := RowIs.cell (j := 6) HT9.out.row rfl; have y7 := RowIs.cell (j := 7) HT9.out.row rfl; have y9 := fun j => RowIs.frozen HT9.out.row j; have y8 := HT9.out.row.lt
                have HT5 := hide (HT9.out.set 5 (.string ⟨#[]⟩) t0 (⟨t1.1.nm, ⟨#[]⟩, t1.1.list, t1.1.quota⟩, t1.2) rfl HT9.out.l0 HT9.out.l1 HT9.out.s0 ⟨HT9.out.s1.1, by show ByteArray.size ⟨#[]⟩ ≤ 100; decide, HT9.out.s1.2.2⟩)
                refine wpAny_ready (rs := [10]) (by kernel_rfl) (by simp) ?_
                refine (AllReady.cons rfl (fun K hK => ?_) AllReady.nil)
                go_simp
                refine hK _ _ ?_; clear hK K
                refine wpAny_done (by kernel_rfl) ?_ _
                go_wp2_with fail
                go_ret
                first | exact ⟨_, _, rfl, HT5.out.st1, by simp, (fun x hx => by simp at hx; subst hx; exact HT5.out.s1), HC9.out.set ⟨b, 5, none⟩ _ (by show g < b; omega), HM9.out.setNew ⟨b, 5, none⟩ (by show w.heap.size ≤ b; omega) _⟩ | exact ⟨_, rfl, _, HT5.out.st1, by simp, (fun x hx => by simp at hx; subst hx; exact HT5.out.s1), HC9.out.set ⟨b, 5, none⟩ _ (by show g < b; omega), HM9.out.setNew ⟨b, 5, none⟩ (by show w.heap.size ≤ b; omega) _⟩
              · skip
                try simp only [Act.put, List.getElem_toArray, List.getElem_cons_succ, List.getElem_cons_zero, List.setIfInBounds_toArray, List.set_cons_zero, List.set_cons_succ]
                refine wpAny_ready (rs := [2]) (by kernel_rfl) (by simp) ?_
                refine (AllReady.cons rfl (fun K hK => ?_) AllReady.nil)
                obtain ⟨z, hzs, hcv⟩ := HD.out.text
                go_simp
                refine hK _ _ ?_; clear hK K hcv
                try simp only [Act.put, List.getElem_toArray, List.getElem_cons_succ, List.getElem_cons_zero, List.setIfInBounds_toArray, List.set_cons_zero, List.set_cons_succ]
                refine wpAny_ready (rs := [3]) (by kernel_rfl) (by simp) ?_
                refine (AllReady.cons rfl (fun K hK => ?_) AllReady.nil)
                go_simp
                obtain ⟨x12, hx12⟩ : ∃ u, x8.alloc (.cells #[.string ⟨#[]⟩, .string z] 9) = u := ⟨_, rfl⟩
                have hbx12 : Below x8.heap.size x8 x12 := by rw [← hx12]; exact (Below.refl _ _).alloc (Nat.le_refl _) _
                have HR : Hid (RowIs x12 x8.heap.size 9 [.string ⟨#[]⟩, .string z]) := by show _; rw [← hx12]; exact rowIs_new x8 _ _
                have hqr : x8.heap.size ≠ g := by have := HC9.out.lt; omega
                replace HT9 := hide (HT9.out.new hbx12)
                replace HC9 := hide (HC9.out.below hbx12)
                replace HD := hide (HD.out.new hbx12)
                replace HM9 := hide (HM9.out.trans (Moves.of_below hbx12))
                rw [hx12]
                clear hx12 hbx12
                generalize x8.heap.size = qr at *
                refine hK _ _ ?_; clear hK K
                try simp only [Act.put, List.getElem_toArray, List.getElem_cons_succ, List.getElem_cons_zero, List.setIfInBounds_toArray, List.set_cons_zero, List.set_cons_succ]
                refine wpAny_take (i := 6) (v := ?_) rfl (by kernel_rfl) (by kernel_rfl) (by kernel_rfl) (fun _ _ _ h => h) (Or.inl ⟨by rfl, ?_⟩) ?_; rotate_left; focus (intro uu; go_simp; try with_reducible rfl)
                try simp only [Act.put, List.getElem_toArray, List.getElem_cons_succ, List.getElem_cons_zero, List.setIfInBounds_toArray, List.set_cons_zero, List.set_cons_succ]
                have hx7 := HR.out.cell (j := 1) rfl
                refine wpAny_ready (rs := [7]) (by kernel_rfl) (by simp) ?_
                refine (AllReady.cons rfl (fun K hK => ?_) AllReady.nil)
                go_simp
                refine hK _ _ ?_; clear hK K hx7
                try simp only [Act.put, List.getElem_toArray, List.getElem_cons_succ, List.getElem_cons_zero, List.setIfInBounds_toArray, List.set_cons_zero, List.set_cons_succ]
                refine wpAny_take (i := 8) (v := ?_) rfl (by kernel_rfl) (by kernel_rfl) (by kernel_rfl) (fun _ _ _ h => h) (Or.inl ⟨by rfl, ?_⟩) ?_; rotate_left; focus (intro uu; go_simp; try with_reducible rfl)
                try simp only [Act.put, List.getElem_toArray, List.getElem_cons_succ, List.getElem_cons_zero, List.setIfInBounds_toArray, List.set_cons_zero, List.set_cons_succ]
                refine wpAny_take (i := 9) (v := ?_) rfl (by kernel_rfl) (by kernel_rfl) (by kernel_rfl) (fun _ _ _ h => h) (Or.inl ⟨by rfl, ?_⟩) ?_; rotate_left; focus (intro uu; go_simp; try with_reducible rfl)
                try simp only [Act.put, List.getElem_toArray, List.getElem_cons_succ, List.getElem_cons_zero, List.setIfInBounds_toArray, List.set_cons_zero, List.set_cons_succ]
                have y0 := RowIs.cell (j := 0) HT9.out.row rfl; have y1 := RowIs.cell (j := 1) HT9.out.row rfl; have y2 := RowIs.cell (j := 2) HT9.out.row rfl; have y3 := RowIs.cell (j := 3) HT9.out.row rfl; have y4 := RowIs.cell (j := 4) HT9.out.row rfl; have y5 := RowIs.cell (j := 5) HT9.out.row rfl; have y6 := RowIs.cell (j := 6) HT9.out.row rfl; have y7 := RowIs.cell (j := 7) HT9.out.row rfl; have y9 := fun j => RowIs.frozen HT9.out.row j; have y8 := HT9.out.row.lt
                have HT5 := hide (HT9.out.set 5 (.string z) t0 (⟨t1.1.nm, z, t1.1.list, t1.1.quota⟩, t1.2) rfl HT9.out.l0 HT9.out.l1 HT9.out.s0 ⟨HT9.out.s1.1, by show ByteArray.size z ≤ 100; omega, HT9.out.s1.2.2⟩)
                refine wpAny_ready (rs := [10]) (by kernel_rfl) (by simp) ?_
                refine (AllReady.cons rfl (fun K hK => ?_) AllReady.nil)
                go_simp
                refine hK _ _ ?_; clear hK K
                refine wpAny_done (by kernel_rfl) ?_ _
                go_wp2_with fail
                go_ret
                first | exact ⟨_, _, rfl, HT5.out.st1, by simp, (fun x hx => by simp at hx; subst hx; exact HT5.out.s1), HC9.out.set ⟨b, 5, none⟩ _ (by show g < b; omega), HM9.out.setNew ⟨b, 5, none⟩ (by show w.heap.size ≤ b; omega) _⟩ | exact ⟨_, rfl, _, HT5.out.st1, by simp, (fun x hx => by simp at hx; subst hx; exact HT5.out.s1), HC9.out.set ⟨b, 5, none⟩ _ (by show g < b; omega), HM9.out.setNew ⟨b, 5, none⟩ (by show w.heap.size ≤ b; omega) _⟩
          · skip
            go_simp
            refine (below1 g B 2 _ HC9.out (by omega)).mono ?_; rintro e x13 ⟨q, q0, q1, _, rfl, hcx, hmx⟩
            have q2 := q1 (by omega)
            replace HT9 := hide (HT9.out.moves hmx)
            replace HM9 := hide (HM9.out.trans hmx)
            replace HC9 := hide hcx
            clear hcx hmx q1
            have hqq : q = 0 ∨ q = 1 := by omega
            refine hK _ _ ?_; clear hK K
            rcases hqq with rfl | rfl
            · skip
              try simp only [Act.put, List.getElem_toArray, List.getElem_cons_succ, List.getElem_cons_zero, List.setIfInBounds_toArray, List.set_cons_zero, List.set_cons_succ]
              refine wpAny_ready (rs := [1]) (by kernel_rfl) (by simp) ?_
              refine (AllReady.cons rfl (fun K hK => ?_) AllReady.nil)
              go_simp
              obtain ⟨x14, hx14⟩ : ∃ u, x13.alloc (.cells M 5) = u := ⟨_, rfl⟩
              have hbx14 : Below x13.heap.size x13 x14 := by rw [← hx14]; exact (Below.refl _ _).alloc (Nat.le_refl _) _
              have HD : Hid (MadeB x14 x13.heap.size 41 g) := by show _; rw [← hx14]; exact madeB_of hMs hML HC9.out.lt (by omega)
              replace HT9 := hide (HT9.out.new hbx14)
              replace HC9 := hide (HC9.out.below hbx14)
              replace HM9 := hide (HM9.out.trans (Moves.of_below hbx14))
              rw [hx14]
              clear hx14 hbx14
              generalize x13.heap.size = qd at *
              refine hK _ _ ?_; clear hK K
              try simp only [Act.put, List.getElem_toArray, List.getElem_cons_succ, List.getElem_cons_zero, List.setIfInBounds_toArray, List.set_cons_zero, List.set_cons_succ]
              refine wpAny_ready (rs := [2]) (by kernel_rfl) (by simp) ?_
              refine (AllReady.cons rfl (fun K hK => ?_) AllReady.nil)
              obtain ⟨z, hzs, hcv⟩ := HD.out.text
              go_simp
              refine hK _ _ ?_; clear hK K hcv
              try simp only [Act.put, List.getElem_toArray, List.getElem_cons_succ, List.getElem_cons_zero, List.setIfInBounds_toArray, List.set_cons_zero, List.set_cons_succ]
              refine wpAny_ready (rs := [3]) (by kernel_rfl) (by simp) ?_
              refine (AllReady.cons rfl (fun K hK => ?_) AllReady.nil)
              go_simp
              obtain ⟨x16, hx16⟩ : ∃ u, x14.alloc (.cells #[.string ⟨#[]⟩, .string z] 9) = u := ⟨_, rfl⟩
              have hbx16 : Below x14.heap.size x14 x16 := by rw [← hx16]; exact (Below.refl _ _).alloc (Nat.le_refl _) _
              have HR : Hid (RowIs x16 x14.heap.size 9 [.string ⟨#[]⟩, .string z]) := by show _; rw [← hx16]; exact rowIs_new x14 _ _
              have hqr : x14.heap.size ≠ g := by have := HC9.out.lt; omega
              replace HT9 := hide (HT9.out.new hbx16)
              replace HC9 := hide (HC9.out.below hbx16)
              replace HD := hide (HD.out.new hbx16)
              replace HM9 := hide (HM9.out.trans (Moves.of_below hbx16))
              rw [hx16]
              clear hx16 hbx16
              generalize x14.heap.size = qr at *
              refine hK _ _ ?_; clear hK K
              try simp only [Act.put, List.getElem_toArray, List.getElem_cons_succ, List.getElem_cons_zero, List.setIfInBounds_toArray, List.set_cons_zero, List.set_cons_succ]
              refine wpAny_take (i := 6) (v := ?_) rfl (by kernel_rfl) (by kernel_rfl) (by kernel_rfl) (fun _ _ _ h => h) (Or.inl ⟨by rfl, ?_⟩) ?_; rotate_left; focus (intro uu; go_simp; try with_reducible rfl)
              try simp only [Act.put, List.getElem_toArray, List.getElem_cons_succ, List.getElem_cons_zero, List.setIfInBounds_toArray, List.set_cons_zero, List.set_cons_succ]
              have hx7 := HR.out.cell (j := 0) rfl
              refine wpAny_ready (rs := [7]) (by kernel_rfl) (by simp) ?_
              refine (AllReady.cons rfl (fun K hK => ?_) AllReady.nil)
              go_simp
              refine hK _ _ ?_; clear hK K hx7
              try simp only [Act.put, List.getElem_toArray, List.getElem_cons_succ, List.getElem_cons_zero, List.setIfInBounds_toArray, List.set_cons_zero, List.set_cons_succ]
              refine wpAny_take (i := 8) (v := ?_) rfl (by kernel_rfl) (by kernel_rfl) (by kernel_rfl) (fun _ _ _ h => h) (Or.inl ⟨by rfl, ?_⟩) ?_; rotate_left; focus (intro uu; go_simp; try with_reducible rfl)
              try simp only [Act.put, List.getElem_toArray, List.getElem_cons_succ, List.getElem_cons_zero, List.setIfInBounds_toArray, List.set_cons_zero, List.set_cons_succ]
              refine wpAny_take (i := 9) (v := ?_) rfl (by kernel_rfl) (by kernel_rfl) (by kernel_rfl) (fun _ _ _ h => h) (Or.inl ⟨by rfl, ?_⟩) ?_; rotate_left; focus (intro uu; go_simp; try with_reducible rfl)
              try simp only [Act.put, List.getElem_toArray, List.getElem_cons_succ, List.getElem_cons_zero, List.setIfInBounds_toArray, List.set_cons_zero, List.set_cons_succ]
              have y0 := RowIs.cell (j := 0) HT9.out.row rfl; have y1 := RowIs.cell (j := 1) HT9.out.row rfl; have y2 := RowIs.cell (j := 2) HT9.out.row rfl; have y3 := RowIs.cell (j := 3) HT9.out.row rfl; have y4 := RowIs.cell (j := 4) HT9.out.row rfl; have y5 := RowIs.cell (j := 5) HT9.out.row rfl; have y6 := RowIs.cell (j := 6) HT9.out.row rfl; have y7 := RowIs.cell (j := 7) HT9.out.row rfl; have y9 := fun j => RowIs.frozen HT9.out.row j; have y8 := HT9.out.row.lt
              have HT5 := hide (HT9.out.set 5 (.string ⟨#[]⟩) t0 (⟨t1.1.nm, ⟨#[]⟩, t1.1.list, t1.1.quota⟩, t1.2) rfl HT9.out.l0 HT9.out.l1 HT9.out.s0 ⟨HT9.out.s1.1, by show ByteArray.size ⟨#[]⟩ ≤ 100; decide, HT9.out.s1.2.2⟩)
              refine wpAny_ready (rs := [10]) (by kernel_rfl) (by simp) ?_
              refine (AllReady.cons rfl (fun K hK => ?_) AllReady.nil)
              go_simp
              refine hK _ _ ?_; clear hK K
              refine wpAny_done (by kernel_rfl) ?_ _
              go_wp2_with fail
              go_ret
              first | exact ⟨_, _, rfl, HT5.out.st1, by simp, (fun x hx => by simp at hx; subst hx; exact HT5.out.s1), HC9.out.set ⟨b, 5, none⟩ _ (by show g < b; omega), HM9.out.setNew ⟨b, 5, none⟩ (by show w.heap.size ≤ b; omega) _⟩ | exact ⟨_, rfl, _, HT5.out.st1, by simp, (fun x hx => by simp at hx; subst hx; exact HT5.out.s1), HC9.out.set ⟨b, 5, none⟩ _ (by show g < b; omega), HM9.out.setNew ⟨b, 5, none⟩ (by show w.heap.size ≤ b; omega) _⟩
            · skip
              try simp only [Act.put, List.getElem_toArray, List.getElem_cons_succ, List.getElem_cons_zero, List.setIfInBounds_toArray, List.set_cons_zero, List.set_cons_succ]
              refine wpAny_ready (rs := [1]) (by kernel_rfl) (by simp) ?_
              refine (AllReady.cons rfl (fun K hK => ?_) AllReady.nil)
              go_simp
              obtain ⟨x17, hx17⟩ : ∃ u, x13.alloc (.cells M 5) = u := ⟨_, rfl⟩
              have hbx17 : Below x13.heap.size x13 x17 := by rw [← hx17]; exact (Below.refl _ _).alloc (Nat.le_refl _) _
              have HD : Hid (MadeB x17 x13.heap.size 41 g) := by show _; rw [← hx17]; exact madeB_of hMs hML HC9.out.lt (by omega)
              replace HT9 := hide (HT9.out.new hbx17)
              replace HC9 := hide (HC9.out.below hbx17)
              replace HM9 := hide (HM9.out.trans (Moves.of_below hbx17))
              rw [hx17]
              clear hx17 hbx17
              generalize x13.heap.size = qd at *
              refine hK _ _ ?_; clear hK K
              try simp only [Act.put, List.getElem_toArray, List.getElem_cons_succ, List.getElem_cons_zero, List.setIfInBounds_toArray, List.set_cons_zero, List.set_cons_succ]
              refine wpAny_ready (rs := [2]) (by kernel_rfl) (by simp) ?_
              refine (AllReady.cons rfl (fun K hK => ?_) AllReady.nil)
              obtain ⟨z, hzs, hcv⟩ := HD.out.text
              go_simp
              refine hK _ _ ?_; clear hK K hcv
              try simp only [Act.put, List.getElem_toArray, List.getElem_cons_succ, List.getElem_cons_zero, List.setIfInBounds_toArray, List.set_cons_zero, List.set_cons_succ]
              refine wpAny_ready (rs := [3]) (by kernel_rfl) (by simp) ?_
              refine (AllReady.cons rfl (fun K hK => ?_) AllReady.nil)
              go_simp
              obtain ⟨x19, hx19⟩ : ∃ u, x17.alloc (.cells #[.string ⟨#[]⟩, .string z] 9) = u := ⟨_, rfl⟩
              have hbx19 : Below x17.heap.size x17 x19 := by rw [← hx19]; exact (Below.refl _ _).alloc (Nat.le_refl _) _
              have HR : Hid (RowIs x19 x17.heap.size 9 [.string ⟨#[]⟩, .string z]) := by show _; rw [← hx19]; exact rowIs_new x17 _ _
              have hqr : x17.heap.size ≠ g := by have := HC9.out.lt; omega
              replace HT9 := hide (HT9.out.new hbx19)
              replace HC9 := hide (HC9.out.below hbx19)
              replace HD := hide (HD.out.new hbx19)
              replace HM9 := hide (HM9.out.trans (Moves.of_below hbx19))
              rw [hx19]
              clear hx19 hbx19
              generalize x17.heap.size = qr at *
              refine hK _ _ ?_; clear hK K
              try simp only [Act.put, List.getElem_toArray, List.getElem_cons_succ, List.getElem_cons_zero, List.setIfInBounds_toArray, List.set_cons_zero, List.set_cons_succ]
              refine wpAny_take (i := 6) (v := ?_) rfl (by kernel_rfl) (by kernel_rfl) (by kernel_rfl) (fun _ _ _ h => h) (Or.inl ⟨by rfl, ?_⟩) ?_; rotate_left; focus (intro uu; go_simp; try with_reducible rfl)
              try simp only [Act.put, List.getElem_toArray, List.getElem_cons_succ, List.getElem_cons_zero, List.setIfInBounds_toArray, List.set_cons_zero, List.set_cons_succ]
              have hx7 := HR.out.cell (j := 1) rfl
              refine wpAny_ready (rs := [7]) (by kernel_rfl) (by simp) ?_
              refine (AllReady.cons rfl (fun K hK => ?_) AllReady.nil)
              go_simp
              refine hK _ _ ?_; clear hK K hx7
              try simp only [Act.put, List.getElem_toArray, List.getElem_cons_succ, List.getElem_cons_zero, List.setIfInBounds_toArray, List.set_cons_zero, List.set_cons_succ]
              refine wpAny_take (i := 8) (v := ?_) rfl (by kernel_rfl) (by kernel_rfl) (by kernel_rfl) (fun _ _ _ h => h) (Or.inl ⟨by rfl, ?_⟩) ?_; rotate_left; focus (intro uu; go_simp; try with_reducible rfl)
              try simp only [Act.put, List.getElem_toArray, List.getElem_cons_succ, List.getElem_cons_zero, List.setIfInBounds_toArray, List.set_cons_zero, List.set_cons_succ]
              refine wpAny_take (i := 9) (v := ?_) rfl (by kernel_rfl) (by kernel_rfl) (by kernel_rfl) (fun _ _ _ h => h) (Or.inl ⟨by rfl, ?_⟩) ?_; rotate_left; focus (intro uu; go_simp; try with_reducible rfl)
              try simp only [Act.put, List.getElem_toArray, List.getElem_cons_succ, List.getElem_cons_zero, List.setIfInBounds_toArray, List.set_cons_zero, List.set_cons_succ]
              have y0 := RowIs.cell (j := 0) HT9.out.row rfl; have y1 := RowIs.cell (j := 1) HT9.out.row rfl; have y2 := RowIs.cell (j := 2) HT9.out.row rfl; have y3 := RowIs.cell (j := 3) HT9.out.row rfl; have y4 := RowIs.cell (j := 4) HT9.out.row rfl; have y5 := RowIs.cell (j := 5) HT9.out.row rfl; have y6 := RowIs.cell (j := 6) HT9.out.row rfl; have y7 := RowIs.cell (j := 7) HT9.out.row rfl; have y9 := fun j => RowIs.frozen HT9.out.row j; have y8 := HT9.out.row.lt
              have HT5 := hide (HT9.out.set 5 (.string z) t0 (⟨t1.1.nm, z, t1.1.list, t1.1.quota⟩, t1.2) rfl HT9.out.l0 HT9.out.l1 HT9.out.s0 ⟨HT9.out.s1.1, by show ByteArray.size z ≤ 100; omega, HT9.out.s1.2.2⟩)
              refine wpAny_ready (rs := [10]) (by kernel_rfl) (by simp) ?_
              refine (AllReady.cons rfl (fun K hK => ?_) AllReady.nil)
              go_simp
              refine hK _ _ ?_; clear hK K
              refine wpAny_done (by kernel_rfl) ?_ _
              go_wp2_with fail
              go_ret
              first | exact ⟨_, _, rfl, HT5.out.st1, by simp, (fun x hx => by simp at hx; subst hx; exact HT5.out.s1), HC9.out.set ⟨b, 5, none⟩ _ (by show g < b; omega), HM9.out.setNew ⟨b, 5, none⟩ (by show w.heap.size ≤ b; omega) _⟩ | exact ⟨_, rfl, _, HT5.out.st1, by simp, (fun x hx => by simp at hx; subst hx; exact HT5.out.s1), HC9.out.set ⟨b, 5, none⟩ _ (by show g < b; omega), HM9.out.setNew ⟨b, 5, none⟩ (by show w.heap.size ≤ b; omega) _⟩
        · skip
          obtain ⟨VA, hVA⟩ : ∃ V, w3.alloc (.cells #[.int .i64 (-1), .int .i64 20, .int .i64 21] 2) = V := ⟨_, rfl⟩
          have RA : RowIs VA w3.heap.size 2 [.int .i64 (-1), .int .i64 20, .int .i64 21] := by rw [← hVA]; exact rowIs_new w3 _ _
          have hbA : Below w3.heap.size w3 VA := by rw [← hVA]; exact (Below.refl _ _).alloc (Nat.le_refl _) _
          have hl3 := HC3.out.lt
          go_wp2_with fail
          (try rw [hVA])
          clear hVA
          refine (below1 g B 3 _ (HC3.out.below hbA) (by omega)).mono ?_; rintro e w4 ⟨q, q0, q1, _, rfl, hc4, hm4⟩
          have q6 := q1 (by omega)
          replace RA := RA.moves hm4 (by omega)
          obtain ⟨qn, rfl⟩ : ∃ n : Nat, q = n := ⟨q.toNat, by omega⟩
          obtain ⟨z, hz⟩ : ∃ z : Int, w4.cell? ⟨w3.heap.size, qn, none⟩ = some (.int .i64 z) := by
            have : qn = 0 ∨ qn = 1 ∨ qn = 2 := by omega
            rcases this with rfl | rfl | rfl <;> exact ⟨_, RA.cell rfl⟩
          have hlA := RA.lt
          have HT4 := hide ((HT3.out.new hbA).moves hm4)
          have HM4 := hide ((HM3.out.trans (Moves.of_below hbA)).trans hm4)
          have HC4 := hide hc4
          have y0 := RowIs.cell (j := 0) HT4.out.row rfl; have y1 := RowIs.cell (j := 1) HT4.out.row rfl; have y2 := RowIs.cell (j := 2) HT4.out.row rfl; have y3 := RowIs.cell (j := 3) HT4.out.row rfl; have y4 := RowIs.cell (j := 4) HT4.out.row rfl; have y5 := RowIs.cell (j := 5) HT4.out.row rfl; have y6 := RowIs.cell (j := 6) HT4.out.row rfl; have y7 := RowIs.cell (j := 7) HT4.out.row rfl; have y9 := fun j => RowIs.frozen HT4.out.row j; have y8 := HT4.out.row.lt
          have HT5 := hide (HT4.out.set 7 (.int .i64 z) t0 (⟨t1.1.nm, t1.1.key, t1.1.list, z⟩, t1.2) rfl HT4.out.l0 HT4.out.l1 HT4.out.s0 HT4.out.s1)
          clear q1 RA hbA hm4 HT3 HC3 HM3 hc4
          go_wp2_with fail
          go_ret
          first | exact ⟨_, _, rfl, HT5.out.st1, by simp, (fun x hx => by simp at hx; subst hx; exact HT5.out.s1), HC4.out.set ⟨b, 7, none⟩ _ (by show g < b; omega), HM4.out.setNew ⟨b, 7, none⟩ (by show w.heap.size ≤ b; omega) _⟩ | exact ⟨_, rfl, _, HT5.out.st1, by simp, (fun x hx => by simp at hx; subst hx; exact HT5.out.s1), HC4.out.set ⟨b, 7, none⟩ _ (by show g < b; omega), HM4.out.setNew ⟨b, 7, none⟩ (by show w.heap.size ≤ b; omega) _⟩
        · skip
          have HR0 := hide HT3.out.reads1
          have HL0 : Hid (∀ t ∈ ([t1] : List (TenantD × Value)), LsAt w3 w.heap.size g t.2 t.1.list ∧ smT t.1) := fun t ht => by
            simp at ht
            subst ht; exact ⟨HT3.out.l1, HT3.out.s1⟩
          have hgl := HT3.out.l0.lt
          clear HT3
          go_wp2_with fail
          go_loopw [3] (fun s wr => ∃ (T : List (TenantD × Value)) (b1 o1 p : Nat), s = .slice (some ⟨b1, o1, none⟩) T.length p ∧ 1 ≤ T.length ∧ T.length ≤ 9 ∧ w.heap.size ≤ b1 ∧ Hid (Reads wr (.slice (some ⟨b1, o1, none⟩) T.length p) T.length 4 (T.flatMap tcs)) ∧ Hid (p = T.length ∨ wr.ownsRow w.heap.size 32 4 (.slice (some ⟨b1, o1, none⟩) T.length p) T.length (T.flatMap tcs)) ∧ Hid (∀ t ∈ T, LsAt wr w.heap.size g t.2 t.1.list ∧ smT t.1) ∧ Hid (Cur wr g B) ∧ Hid (Moves g w wr)) (fun s _ => 9 - lenS15 s)
          case atStart => exact ⟨[t1], b, 4, 1, rfl, by simp, by simp, hbb, HR0, .inl rfl, HL0, HC3, HM3⟩
          case round =>
            clear HR0 HL0 HC3 HM3
            obtain ⟨T, b1, o1, p, rfl, hT1, hT9, hb1, HR, HO, HL, HC, HM⟩ := hrel
            by_cases hlt : T.length < 9
            rotate_left
            · have hltI : ¬ (T.length : Int) < 9 := by omega
              go_wp2_with fail
              go_ret
              first | exact ⟨_, _, rfl, st_of T (fun u' hm => HR.out.kept hm.size (fun k hk hl => hm.block k hl (by simp [Value.ownBlock] at hk; omega))) HL.out, by simpa using hT9, (fun x hx => by obtain ⟨t, ht, rfl⟩ := List.mem_map.1 hx; exact (HL.out t ht).2), HC.out, HM.out⟩ | exact ⟨_, rfl, _, st_of T (fun u' hm => HR.out.kept hm.size (fun k hk hl => hm.block k hl (by simp [Value.ownBlock] at hk; omega))) HL.out, by simpa using hT9, (fun x hx => by obtain ⟨t, ht, rfl⟩ := List.mem_map.1 hx; exact (HL.out t ht).2), HC.out, HM.out⟩
            have hltI : (T.length : Int) < 9 := by omega
            have hT0 : (0 : Int) < T.length := by omega
            obtain ⟨t, T', rfl⟩ : ∃ t T', T = t :: T' := by
              cases T with
              | nil => simp at hT1
              | cons t T' => exact ⟨t, T', rfl⟩
            have hlb : b1 < wr.heap.size := by obtain ⟨_, _, _, he, _, _, h4⟩ := HR.out; obtain ⟨b', o', e1, hb', _⟩ := h4 (by omega); simp only [Value.slice.injEq] at he; rw [← he.1] at e1; simp at e1; omega
            have hc := reads_add HR.out (by omega)
            have hadd : ∀ j, (⟨b1, o1, none⟩ : Addr).add j = ⟨b1, o1 + j, none⟩ := fun j => by unfold Addr.add; split <;> simp_all
            simp only [hadd] at hc
            have c0 : wr.cell? ⟨b1, o1, none⟩ = _ := hc 0 _ rfl
            have c1 := hc 1 _ rfl
            have c2 := hc 2 _ rfl
            have c3 := hc 3 _ rfl
            obtain ⟨al, pl, hal, _⟩ := owns_form (HL.out t (by simp)).1.own
            rw [hal] at c2
            clear hc hadd
            have hX : Below wr.heap.size wr (wr.alloc (.cells #[.string t.1.nm, .string t.1.key, .slice al t.1.list.length pl, .int .i64 t.1.quota] 32)) := (Below.refl _ _).alloc (Nat.le_refl _) _
            have RX := rowIs_new wr 32 [.string t.1.nm, .string t.1.key, .slice al t.1.list.length pl, .int .i64 t.1.quota]
            have hrX := reads_row RX 0 1 [.string t.1.nm, .string t.1.key, .slice al t.1.list.length pl, .int .i64 t.1.quota] rfl (by omega) (fun j x hj => by simpa using hj)
            have hone : ∀ y ∈ ([.string t.1.nm, .string t.1.key, .slice al t.1.list.length pl, .int .i64 t.1.quota] : List Value), y.oneCell' = true := by intro y hy; simp at hy; rcases hy with rfl | rfl | rfl | rfl <;> rfl
            have hfl : ((t :: T').flatMap tcs) ++ [.string t.1.nm, .string t.1.key, .slice al t.1.list.length pl, .int .i64 t.1.quota] = ((t :: T') ++ [t]).flatMap tcs := by rw [List.flatMap_append, List.flatMap_cons (xs := []), List.flatMap_nil, List.append_nil]; unfold tcs; rw [hal]
            have hln : ((t :: T') ++ [t]).length = (t :: T').length + 1 := by simp
            have HFL := hide hfl
            obtain ⟨N, hN⟩ : ∃ N, (t :: T').length = N := ⟨_, rfl⟩
            have hrd := HR.out
            have hoo := HO.out
            rw [hN] at hrd hoo hln
            obtain ⟨FX, hFX⟩ : ∃ X, (t :: T').flatMap tcs = X := ⟨_, rfl⟩
            rw [hFX] at hrd hoo HFL
            clear hfl
            try rw [hN]
            rcases hoo with hpn | hown
            · subst hpn
              have hrY := hrd.new hX
              go_wp2_with (at_builtin; go_must (refine wpList_app_full _ (by rfl) _ _ 24 (by rfl) 32 (.agg #[.string ⟨#[]⟩, .string ⟨#[]⟩, .slice none 0 0, .int .i64 0]) 4 64 Tryz.underlying24 (by kernel_rfl) rfl b1 o1 p p FX (by rfl) hrY (by omega) _ 0 1 1 _ (by rfl) hrX (by omega) (by omega) (by omega) (by decide) ?_))
              intro ad9 cp9 w9 hown9 hb9
              rw [HFL.out] at hown9
              have hbY := hX.trans (hb9.mono (by omega))
              obtain ⟨q9, cq, hq9, _, hq9b, _⟩ := owns_open hown9 (by omega)
              simp only [Value.slice.injEq] at hq9
              obtain ⟨rfl, _, rfl⟩ := hq9
              have hs9 := HM.out.size
              have hzX := hX.size
              have HO9 := hide (owns_base hown9 (base' := w.heap.size) (fun k hk => by simp [Value.ownBlock] at hk; omega))
              have HL9 : Hid (∀ x ∈ (t :: T') ++ [t], LsAt w9 w.heap.size g x.2 x.1.list ∧ smT x.1) := fun x hx => by
                have hx' : x ∈ t :: T' := by simp at hx ⊢; rcases hx with h | h | h <;> simp [h]
                exact ⟨(HL.out x hx').1.new hbY, (HL.out x hx').2⟩
              have HC9 := hide (HC.out.below hbY)
              have HM9 := hide (HM.out.trans (Moves.of_below hbY))
              go_wp2_with fail
              go_roundw
              case rel => exact ⟨(t :: T') ++ [t], q9, 0, cp9, by rw [hln], by rw [hln]; omega, by rw [hln]; omega, by omega, by rw [hln]; exact reads_of_owns HO9.out, .inr (by rw [hln]; exact HO9.out), HL9, HC9, HM9⟩
              case measure => simp [lenS15]; omega
            · have hoY := owns_new hown hX
              go_wp2_with (at_builtin; go_must (refine wpList_app _ (by rfl) _ _ 24 (by rfl) 32 (.agg #[.string ⟨#[]⟩, .string ⟨#[]⟩, .slice none 0 0, .int .i64 0]) 4 64 Tryz.underlying24 (by kernel_rfl) rfl (by decide) w.heap.size _ N FX (by rfl) hoY _ 1 _ (by rfl) hrX hone (by omega) (by decide) (by have := HM.out.size; have := hX.size; omega) ?_))
              intro ad9 cp9 w9 hown9 hg9 hat9
              rw [HFL.out] at hown9
              obtain ⟨q9, cq, hq9, _, hq9b, _⟩ := owns_open hown9 (by omega)
              simp only [Value.slice.injEq] at hq9
              obtain ⟨rfl, _, rfl⟩ := hq9
              have HO9 := hide hown9
              have HL9 : Hid (∀ x ∈ (t :: T') ++ [t], LsAt w9 w.heap.size g x.2 x.1.list ∧ smT x.1) := fun x hx => by
                have hx' : x ∈ t :: T' := by simp at hx ⊢; rcases hx with h | h | h <;> simp [h]
                exact ⟨ls_grown ((HL.out x hx').1.new hX) hoY hg9, (HL.out x hx').2⟩
              have HC9 := hide (cur_grown (HC.out.below hX) hg9 (fun k hk => by have := (hoY.lt k hk).1; omega))
              have HM9 := hide (moves_grown (HM.out.trans (Moves.of_below hX)) hg9 (fun k hk => (hoY.lt k hk).1))
              go_wp2_with fail
              go_roundw
              case rel => exact ⟨(t :: T') ++ [t], q9, 0, cp9, by rw [hln], by rw [hln]; omega, by rw [hln]; omega, by omega, by rw [hln]; exact reads_of_owns HO9.out, .inr (by rw [hln]; exact HO9.out), HL9, HC9, HM9⟩
              case measure => simp [lenS15]; omega
end Go.Proofs.YtbikmedbmnfdbaaGreatDoor
