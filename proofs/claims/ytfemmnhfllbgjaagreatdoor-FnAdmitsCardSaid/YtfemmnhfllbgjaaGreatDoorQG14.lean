/- Several small texts of one level, one behind the other. -/
import Derived.Test.YtfemmnhfllbgjaaGreatDoorQG13
import Derived.Deep.Cut
import Derived.Deep.DeepCutAuto
import Derived.Deep.RegionHeld3
/- A list of tenants that is drawn: it reads so, whatever the cursor does. -/
namespace Go.Proofs.YtfemmnhfllbgjaaGreatDoor
open Go.RowKit
set_option maxRecDepth 100000
set_option linter.unusedSimpArgs false
set_option linter.unusedVariables false
def lenS15 (v : Value) : Nat := match v with | .slice _ n _ => n | _ => 0
set_option maxRecDepth 100000 in
set_option maxHeartbeats 8000000 in
theorem draw15 (g B : Nat) (w : World) (hc : Cur w g B) :
    Calls Tryz.prog 26 #[.pointer (some ⟨g, 0, none⟩)] w fun e w' => ∃ (v : Value) (L : List TenantD), e = .returned v ∧ StR g w' v L ∧ L.length ≤ 9 ∧ (∀ x ∈ L, smT x) ∧ Cur w' g B ∧ Moves g w w' := by
  have hgw := hc.lt
  go_enter Tryz.func26, Tryz.ntmps26
  go_wp2_with fail
  refine (two15 g _ hgw).mono ?_; rintro e w1 ⟨b, t0, t1, rfl, ht1, hb1⟩
  have HC1 := hide (hc.below hb1)
  have HM1 : Hid (Moves g w w1) := Moves.of_below hb1
  have HT1 := hide ht1
  have hbb : w.heap.size ≤ b := ht1.hb
  clear hc hb1 ht1
  go_wp2_with fail
  go_loopw [4] (fun i wr => ∃ (k : Nat) (t0 t1 : TenantD × Value), i = .int .i64 (k : Int) ∧ k ≤ 2 ∧ Hid (TwoAt wr w.heap.size g b t0 t1) ∧ Hid (Cur wr g B) ∧ Hid (Moves g w wr)) (fun i _ => 2 - (intOf i).toNat)
  case atStart => exact ⟨0, t0, t1, rfl, by omega, HT1, HC1, HM1⟩
  case round =>
    clear HT1 HC1 HM1 t0 t1
    obtain ⟨k, t0, t1, rfl, hk, HT, HC, HM⟩ := hrel
    have hkk : k = 0 ∨ k = 1 ∨ k = 2 := by omega
    rcases hkk with rfl | rfl | rfl
    · skip
      go_wp2_with fail
      refine (once1 g B 3 _ HC.out (by omega)).mono ?_; rintro e wa ⟨bb, rfl, hca, hma⟩
      have HTa := hide (HT.out.moves hma)
      have HCa := hide hca
      have HMa := hide (HM.out.trans hma)
      clear HT HC HM hca hma
      cases bb
      · skip
        go_wp2_with fail
        refine (below1 g B 4 _ HCa.out (by omega)).mono ?_; rintro e wb ⟨q, q0, q1, _, rfl, hcb, hmb⟩
        have HTb := hide (HTa.out.moves hmb)
        have hsb := (HMa.out.trans hmb).size
        have y0 := RowIs.cell (j := 0) HTb.out.row rfl; have y1 := RowIs.cell (j := 1) HTb.out.row rfl; have y2 := RowIs.cell (j := 2) HTb.out.row rfl; have y3 := RowIs.cell (j := 3) HTb.out.row rfl; have y4 := RowIs.cell (j := 4) HTb.out.row rfl; have y5 := RowIs.cell (j := 5) HTb.out.row rfl; have y6 := RowIs.cell (j := 6) HTb.out.row rfl; have y7 := RowIs.cell (j := 7) HTb.out.row rfl; have y9 := fun j => RowIs.frozen HTb.out.row j; have y8 := HTb.out.row.lt
        go_wp2_with fail
        go_roundw
        case rel =>
          have hgb := HTb.out.l0.lt
          exact ⟨0 + 1, (⟨t0.1.nm, t0.1.key, t0.1.list, q⟩, t0.2), t1, by go_num, by omega, HTb.out.set 3 (.int .i64 q) _ _ rfl HTb.out.l0 HTb.out.l1 HTb.out.s0 HTb.out.s1, hcb.set ⟨b, 3, none⟩ _ (by show g < b; omega), (HMa.out.trans hmb).setNew ⟨b, 3, none⟩ (by show w.heap.size ≤ b; omega) _⟩
        case measure => simp [intOf]
      · skip
        go_wp2_with fail
        refine (drawList14 g B _ HCa.out).mono ?_; rintro e wd ⟨v, M, rfl, hls, hML, hcd, hmd⟩
        obtain ⟨ad, pd, rfl, _⟩ := owns_form hls.own
        have hsa := HMa.out.size
        have HTd := hide (HTa.out.moves hmd)
        have hgb := HTd.out.l0.lt
        have HLd := hide (ls_base hls (by omega) hgb)
        have y0 := RowIs.cell (j := 0) HTd.out.row rfl; have y1 := RowIs.cell (j := 1) HTd.out.row rfl; have y2 := RowIs.cell (j := 2) HTd.out.row rfl; have y3 := RowIs.cell (j := 3) HTd.out.row rfl; have y4 := RowIs.cell (j := 4) HTd.out.row rfl; have y5 := RowIs.cell (j := 5) HTd.out.row rfl; have y6 := RowIs.cell (j := 6) HTd.out.row rfl; have y7 := RowIs.cell (j := 7) HTd.out.row rfl; have y9 := fun j => RowIs.frozen HTd.out.row j; have y8 := HTd.out.row.lt
        have HTe := hide (HTd.out.set 2 (.slice ad M.length pd) (⟨t0.1.nm, t0.1.key, M, t0.1.quota⟩, .slice ad M.length pd) t1 rfl HLd.out HTd.out.l1 ⟨HTd.out.s0.1, HTd.out.s0.2.1, hML⟩ HTd.out.s1)
        have HCe := hide (hcd.set ⟨b, 2, none⟩ (.slice ad M.length pd) (by show g < b; omega))
        have HMe := hide ((HMa.out.trans hmd).setNew ⟨b, 2, none⟩ (by show w.heap.size ≤ b; omega) (.slice ad M.length pd))
        clear HTa HCa HMa hls hcd hmd
        go_wp2_with fail
        clear y0 y1 y2 y3 y4 y5 y6 y7 y9 y8
        clear HTd HLd
        generalize wd.setCell ⟨b, 2, none⟩ (.slice ad M.length pd) = wa at *
        obtain ⟨t0, ht⟩ : ∃ t : TenantD × Value, t = (⟨t0.1.nm, t0.1.key, M, t0.1.quota⟩, .slice ad M.length pd) := ⟨_, rfl⟩
        rw [← ht] at HTe
        have HTa := HTe
        have HCa := HCe
        have HMa := HMe
        clear HTe HCe HMe ht
        go_wp2_with fail
        refine (below1 g B 4 _ HCa.out (by omega)).mono ?_; rintro e wb ⟨q, q0, q1, _, rfl, hcb, hmb⟩
        have HTb := hide (HTa.out.moves hmb)
        have hsb := (HMa.out.trans hmb).size
        have y0 := RowIs.cell (j := 0) HTb.out.row rfl; have y1 := RowIs.cell (j := 1) HTb.out.row rfl; have y2 := RowIs.cell (j := 2) HTb.out.row rfl; have y3 := RowIs.cell (j := 3) HTb.out.row rfl; have y4 := RowIs.cell (j := 4) HTb.out.row rfl; have y5 := RowIs.cell (j := 5) HTb.out.row rfl; have y6 := RowIs.cell (j := 6) HTb.out.row rfl; have y7 := RowIs.cell (j := 7) HTb.out.row rfl; have y9 := fun j => RowIs.frozen HTb.out.row j; have y8 := HTb.out.row.lt
        go_wp2_with fail
        go_roundw
        case rel =>
          have hgb := HTb.out.l0.lt
          exact ⟨0 + 1, (⟨t0.1.nm, t0.1.key, t0.1.list, q⟩, t0.2), t1, by go_num, by omega, HTb.out.set 3 (.int .i64 q) _ _ rfl HTb.out.l0 HTb.out.l1 HTb.out.s0 HTb.out.s1, hcb.set ⟨b, 3, none⟩ _ (by show g < b; omega), (HMa.out.trans hmb).setNew ⟨b, 3, none⟩ (by show w.heap.size ≤ b; omega) _⟩
        case measure => simp [intOf]
    · skip
      go_wp2_with fail
      refine (once1 g B 3 _ HC.out (by omega)).mono ?_; rintro e wa ⟨bb, rfl, hca, hma⟩
      have HTa := hide (HT.out.moves hma)
      have HCa := hide hca
      have HMa := hide (HM.out.trans hma)
      clear HT HC HM hca hma
      cases bb
      · skip
        go_wp2_with fail
        refine (below1 g B 4 _ HCa.out (by omega)).mono ?_; rintro e wb ⟨q, q0, q1, _, rfl, hcb, hmb⟩
        have HTb := hide (HTa.out.moves hmb)
        have hsb := (HMa.out.trans hmb).size
        have y0 := RowIs.cell (j := 0) HTb.out.row rfl; have y1 := RowIs.cell (j := 1) HTb.out.row rfl; have y2 := RowIs.cell (j := 2) HTb.out.row rfl; have y3 := RowIs.cell (j := 3) HTb.out.row rfl; have y4 := RowIs.cell (j := 4) HTb.out.row rfl; have y5 := RowIs.cell (j := 5) HTb.out.row rfl; have y6 := RowIs.cell (j := 6) HTb.out.row rfl; have y7 := RowIs.cell (j := 7) HTb.out.row rfl; have y9 := fun j => RowIs.frozen HTb.out.row j; have y8 := HTb.out.row.lt
        go_wp2_with fail
        go_roundw
        case rel =>
          have hgb := HTb.out.l0.lt
          exact ⟨1 + 1, t0, (⟨t1.1.nm, t1.1.key, t1.1.list, q⟩, t1.2), by go_num, by omega, HTb.out.set 7 (.int .i64 q) _ _ rfl HTb.out.l0 HTb.out.l1 HTb.out.s0 HTb.out.s1, hcb.set ⟨b, 7, none⟩ _ (by show g < b; omega), (HMa.out.trans hmb).setNew ⟨b, 7, none⟩ (by show w.heap.size ≤ b; omega) _⟩
        case measure => simp [intOf]
      · skip
        go_wp2_with fail
        refine (drawList14 g B _ HCa.out).mono ?_; rintro e wd ⟨v, M, rfl, hls, hML, hcd, hmd⟩
        obtain ⟨ad, pd, rfl, _⟩ := owns_form hls.own
        have hsa := HMa.out.size
        have HTd := hide (HTa.out.moves hmd)
        have hgb := HTd.out.l0.lt
        have HLd := hide (ls_base hls (by omega) hgb)
        have y0 := RowIs.cell (j := 0) HTd.out.row rfl; have y1 := RowIs.cell (j := 1) HTd.out.row rfl; have y2 := RowIs.cell (j := 2) HTd.out.row rfl; have y3 := RowIs.cell (j := 3) HTd.out.row rfl; have y4 := RowIs.cell (j := 4) HTd.out.row rfl; have y5 := RowIs.cell (j := 5) HTd.out.row rfl; have y6 := RowIs.cell (j := 6) HTd.out.row rfl; have y7 := RowIs.cell (j := 7) HTd.out.row rfl; have y9 := fun j => RowIs.frozen HTd.out.row j; have y8 := HTd.out.row.lt
        have HTe := hide (HTd.out.set 6 (.slice ad M.length pd) t0 (⟨t1.1.nm, t1.1.key, M, t1.1.quota⟩, .slice ad M.length pd) rfl HTd.out.l0 HLd.out HTd.out.s0 ⟨HTd.out.s1.1, HTd.out.s1.2.1, hML⟩)
        have HCe := hide (hcd.set ⟨b, 6, none⟩ (.slice ad M.length pd) (by show g < b; omega))
        have HMe := hide ((HMa.out.trans hmd).setNew ⟨b, 6, none⟩ (by show w.heap.size ≤ b; omega) (.slice ad M.length pd))
        clear HTa HCa HMa hls hcd hmd
        go_wp2_with fail
        clear y0 y1 y2 y3 y4 y5 y6 y7 y9 y8
        clear HTd HLd
        generalize wd.setCell ⟨b, 6, none⟩ (.slice ad M.length pd) = wa at *
        obtain ⟨t1, ht⟩ : ∃ t : TenantD × Value, t = (⟨t1.1.nm, t1.1.key, M, t1.1.quota⟩, .slice ad M.length pd) := ⟨_, rfl⟩
        rw [← ht] at HTe
        have HTa := HTe
        have HCa := HCe
        have HMa := HMe
        clear HTe HCe HMe ht
        go_wp2_with fail
        refine (below1 g B 4 _ HCa.out (by omega)).mono ?_; rintro e wb ⟨q, q0, q1, _, rfl, hcb, hmb⟩
        have HTb := hide (HTa.out.moves hmb)
        have hsb := (HMa.out.trans hmb).size
        have y0 := RowIs.cell (j := 0) HTb.out.row rfl; have y1 := RowIs.cell (j := 1) HTb.out.row rfl; have y2 := RowIs.cell (j := 2) HTb.out.row rfl; have y3 := RowIs.cell (j := 3) HTb.out.row rfl; have y4 := RowIs.cell (j := 4) HTb.out.row rfl; have y5 := RowIs.cell (j := 5) HTb.out.row rfl; have y6 := RowIs.cell (j := 6) HTb.out.row rfl; have y7 := RowIs.cell (j := 7) HTb.out.row rfl; have y9 := fun j => RowIs.frozen HTb.out.row j; have y8 := HTb.out.row.lt
        go_wp2_with fail
        go_roundw
        case rel =>
          have hgb := HTb.out.l0.lt
          exact ⟨1 + 1, t0, (⟨t1.1.nm, t1.1.key, t1.1.list, q⟩, t1.2), by go_num, by omega, HTb.out.set 7 (.int .i64 q) _ _ rfl HTb.out.l0 HTb.out.l1 HTb.out.s0 HTb.out.s1, hcb.set ⟨b, 7, none⟩ _ (by show g < b; omega), (HMa.out.trans hmb).setNew ⟨b, 7, none⟩ (by show w.heap.size ≤ b; omega) _⟩
        case measure => simp [intOf]
    · skip
      go_wp2_with fail
      refine (once1 g B 5 _ HC.out (by omega)).mono ?_; rintro e w0 ⟨b0, rfl, hc0, hm0⟩
      have HT1 := hide (HT.out.moves hm0)
      have HC1 := hide hc0
      have HM1 := hide (HM.out.trans hm0)
      clear HT HC HM hc0 hm0
      cases b0
      · skip
        go_wp2_with fail
        refine (once1 g B 12 _ HC1.out (by omega)).mono ?_; rintro e w2 ⟨b2, rfl, hc2, hm2⟩
        have HT2 := hide (HT1.out.moves hm2)
        have HC2 := hide hc2
        have HM2 := hide (HM1.out.trans hm2)
        clear HT1 HC1 HM1 hc2 hm2
        cases b2
        · skip
          go_wp2_with fail
          go_ret
          first | exact ⟨_, _, rfl, HT2.out.st0, by simp, (fun x hx => by simp at hx; rcases hx with rfl | rfl <;> first | exact HT2.out.s0 | exact HT2.out.s1), HC2.out, HM2.out⟩ | exact ⟨_, rfl, _, HT2.out.st0, by simp, (fun x hx => by simp at hx; rcases hx with rfl | rfl <;> first | exact HT2.out.s0 | exact HT2.out.s1), HC2.out, HM2.out⟩
        go_wp2_with fail
        refine (below1 g B 4 _ HC2.out (by omega)).mono ?_; rintro e w3 ⟨m, m0, m1, _, rfl, hc3, hm3⟩
        have m4 := m1 (by omega)
        have HT3 := hide (HT2.out.moves hm3)
        have HC3 := hide hc3
        have HM3 := hide (HM2.out.trans hm3)
        clear HT2 HC2 HM2 hc3 hm3 m1
        have hgb : g < b := by have := HT3.out.l0.lt; omega
        have hmm : m = 0 ∨ m = 1 ∨ m = 2 ∨ m = 3 := by omega
        rcases hmm with rfl | rfl | rfl | rfl
        · skip
          go_wp2_with fail
          refine (drawName14 g B _ HC3.out).mono ?_; rintro e w4 ⟨z, hz, rfl, hc4, hm4⟩
          have HT4 := hide (HT3.out.moves hm4)
          have HC4 := hide hc4
          have HM4 := hide (HM3.out.trans hm4)
          have y0 := RowIs.cell (j := 0) HT4.out.row rfl; have y1 := RowIs.cell (j := 1) HT4.out.row rfl; have y2 := RowIs.cell (j := 2) HT4.out.row rfl; have y3 := RowIs.cell (j := 3) HT4.out.row rfl; have y4 := RowIs.cell (j := 4) HT4.out.row rfl; have y5 := RowIs.cell (j := 5) HT4.out.row rfl; have y6 := RowIs.cell (j := 6) HT4.out.row rfl; have y7 := RowIs.cell (j := 7) HT4.out.row rfl; have y9 := fun j => RowIs.frozen HT4.out.row j; have y8 := HT4.out.row.lt
          have HT5 := hide (HT4.out.set 0 (.string z) (⟨z, t0.1.key, t0.1.list, t0.1.quota⟩, t0.2) t1 rfl HT4.out.l0 HT4.out.l1 ⟨by show z.size ≤ 100; omega, HT4.out.s0.2⟩ HT4.out.s1)
          clear HT3 HC3 HM3 hc4 hm4
          go_wp2_with fail
          go_ret
          first | exact ⟨_, _, rfl, HT5.out.st0, by simp, (fun x hx => by simp at hx; rcases hx with rfl | rfl <;> first | exact HT5.out.s0 | exact HT5.out.s1), HC4.out.set ⟨b, 0, none⟩ _ (by show g < b; omega), HM4.out.setNew ⟨b, 0, none⟩ (by show w.heap.size ≤ b; omega) _⟩ | exact ⟨_, rfl, _, HT5.out.st0, by simp, (fun x hx => by simp at hx; rcases hx with rfl | rfl <;> first | exact HT5.out.s0 | exact HT5.out.s1), HC4.out.set ⟨b, 0, none⟩ _ (by show g < b; omega), HM4.out.setNew ⟨b, 0, none⟩ (by show w.heap.size ≤ b; omega) _⟩
        · skip
          obtain ⟨M, hMs, hML, hmk⟩ := make_bytesF 41 (by omega)
          have hmk' : ∀ X : World, (Instr.makeSlice 22 (.int .i64 41) (.int .i64 41)).run Tryz.prog X = .ok (.slice (some ⟨X.heap.size, 0, none⟩) 41 41) (X.alloc (.cells M 5)) := fun X => by have := hmk X; exact this
          clear hmk
          go_wp2_with fail
          refine wp_region_any (by kernel_rfl) ?_
          change wpAny _ _ _ _ _ _ _ (World.drew _)
          have HT9 : Hid (TwoAt (World.drew w3) w.heap.size g b t0 t1) := hide (HT3.out.new (Below.refl _ _).drew)
          have HC9 : Hid (Cur (World.drew w3) g B) := hide HC3.out.drew
          have HM9 : Hid (Moves g w (World.drew w3)) := hide HM3.out.drew
          clear HT3 HC3 HM3
          generalize World.drew w3 = u0 at *
          refine wpAny_take (i := 0) (v := ?_) rfl (by kernel_rfl) (by kernel_rfl) (by kernel_rfl) (fun _ _ _ h => h) (Or.inl ⟨by rfl, ?_⟩) ?_; rotate_left; focus (intro uu; go_simp; try with_reducible rfl)
          try simp only [Act.put, List.getElem_toArray, List.getElem_cons_succ, List.getElem_cons_zero, List.setIfInBounds_toArray, List.set_cons_zero, List.set_cons_succ]
          refine wpAny_take (i := 4) (v := ?_) rfl (by kernel_rfl) (by kernel_rfl) (by kernel_rfl) (fun _ _ _ h => h) (Or.inl ⟨by rfl, ?_⟩) ?_; rotate_left; focus (intro uu; go_simp; try with_reducible rfl)
          try simp only [Act.put, List.getElem_toArray, List.getElem_cons_succ, List.getElem_cons_zero, List.setIfInBounds_toArray, List.set_cons_zero, List.set_cons_succ]
          refine wpAny_ready (rs := [1, 5]) (by kernel_rfl) (by simp) ?_
          refine (AllReady.cons rfl (fun K hK => ?_) (AllReady.cons rfl (fun K hK => ?_) AllReady.nil))
          · skip
            go_simp
            obtain ⟨x1, hx1⟩ : ∃ u, u0.alloc (.cells M 5) = u := ⟨_, rfl⟩
            have hbx1 : Below u0.heap.size u0 x1 := by rw [← hx1]; exact (Below.refl _ _).alloc (Nat.le_refl _) _
            have HD : Hid (MadeB x1 u0.heap.size 41 g) := by show _; rw [← hx1]; exact madeB_of hMs hML HC9.out.lt (by omega)
            replace HT9 := hide (HT9.out.new hbx1)
            replace HC9 := hide (HC9.out.below hbx1)
            replace HM9 := hide (HM9.out.trans (Moves.of_below hbx1))
            rw [hx1]
            clear hx1 hbx1
            generalize u0.heap.size = qd at *
            refine hK _ _ ?_; clear hK K
            try simp only [Act.put, List.getElem_toArray, List.getElem_cons_succ, List.getElem_cons_zero, List.setIfInBounds_toArray, List.set_cons_zero, List.set_cons_succ]
            refine wpAny_ready (rs := [2, 5]) (by kernel_rfl) (by simp) ?_
            refine (AllReady.cons rfl (fun K hK => ?_) (AllReady.cons rfl (fun K hK => ?_) AllReady.nil))
            · skip
              obtain ⟨z, hzs, hcv⟩ := HD.out.text
              go_simp
              refine hK _ _ ?_; clear hK K hcv
              try simp only [Act.put, List.getElem_toArray, List.getElem_cons_succ, List.getElem_cons_zero, List.setIfInBounds_toArray, List.set_cons_zero, List.set_cons_succ]
              refine wpAny_ready (rs := [3, 5]) (by kernel_rfl) (by simp) ?_
              refine (AllReady.cons rfl (fun K hK => ?_) (AllReady.cons rfl (fun K hK => ?_) AllReady.nil))
              · skip
                go_simp
                obtain ⟨x3, hx3⟩ : ∃ u, x1.alloc (.cells #[.string ⟨#[]⟩, .string z] 9) = u := ⟨_, rfl⟩
                have hbx3 : Below x1.heap.size x1 x3 := by rw [← hx3]; exact (Below.refl _ _).alloc (Nat.le_refl _) _
                have HR : Hid (RowIs x3 x1.heap.size 9 [.string ⟨#[]⟩, .string z]) := by show _; rw [← hx3]; exact rowIs_new x1 _ _
                have hqr : x1.heap.size ≠ g := by have := HC9.out.lt; omega
                replace HT9 := hide (HT9.out.new hbx3)
                replace HC9 := hide (HC9.out.below hbx3)
                replace HD := hide (HD.out.new hbx3)
                replace HM9 := hide (HM9.out.trans (Moves.of_below hbx3))
                rw [hx3]
                clear hx3 hbx3
                generalize x1.heap.size = qr at *
                refine hK _ _ ?_; clear hK K
                try simp only [Act.put, List.getElem_toArray, List.getElem_cons_succ, List.getElem_cons_zero, List.setIfInBounds_toArray, List.set_cons_zero, List.set_cons_succ]
                refine wpAny_ready (rs := [5]) (by kernel_rfl) (by simp) ?_
                refine (AllReady.cons rfl (fun K hK => ?_) AllReady.nil)
                go_simp
                refine (below1 g B 2 _ HC9.out (by omega)).mono ?_; rintro e x4 ⟨q, q0, q1, _, rfl, hcx, hmx⟩
                have q2 := q1 (by omega)
                replace HT9 := hide (HT9.out.moves hmx)
                replace HD := hide (HD.out.moves hmx)
                replace HR := hide (HR.out.moves hmx hqr)
                replace HM9 := hide (HM9.out.trans hmx)
                replace HC9 := hide hcx
                clear hcx hmx q1
                have hqq : q = 0 ∨ q = 1 := by omega
                refine hK _ _ ?_; clear hK K
                rcases hqq with rfl | rfl
                · skip
                  try simp only [Act.put, List.getElem_toArray, List.getElem_cons_succ, List.getElem_cons_zero, List.setIfInBounds_toArray, List.set_cons_zero, List.set_cons_succ]
                  refine wpAny_take (i := 6) (v := ?_) rfl (by kernel_rfl) (by kernel_rfl) (by kernel_rfl) (fun _ _ _ h => h) (Or.inl ⟨by rfl, ?_⟩) ?_; rotate_left; focus (intro uu; go_simp; try with_reducible rfl)
                  try simp only [Act.put, List.getElem_toArray, List.getElem_cons_succ, List.getElem_cons_zero, List.setIfInBounds_toArray, List.set_cons_zero, List.set_cons_succ]
                  have hx7 := HR.out.cell (j := 0) rfl
                  refine wpAny_ready (rs := [7]) (by kernel_rfl) (by simp) ?_
                  refine (AllReady.cons rfl (fun K hK => ?_) AllReady.nil)
                  go_simp
                  refine hK _ _ ?_; clear hK K hx7
                  try simp only [Act.put, List.getElem_toArray, List.getElem_cons_succ, List.getElem_cons_zero, List.setIfInBounds_toArray, List.set_cons_zero, List.set_cons_succ]
                  refine wpAny_take (i := 8) (v := ?_) rfl (by kernel_rfl) (by kernel_rfl) (by kernel_rfl) (fun _ _ _ h => h) (Or.inl ⟨by rfl, ?_⟩) ?_; rotate_left; focus (intro uu; go_simp; try with_reducible rfl)
                  try simp only [Act.put, List.getElem_toArray, List.getElem_cons_succ, List.getElem_cons_zero, List.setIfInBounds_toArray, List.set_cons_zero, List.set_cons_succ]
                  refine wpAny_take (i := 9) (v := ?_) rfl (by kernel_rfl) (by kernel_rfl) (by kernel_rfl) (fun _ _ _ h => h) (Or.inl ⟨by rfl, ?_⟩) ?_; rotate_left; focus (intro uu; go_simp; try with_reducible rfl)
                  try simp only [Act.put, List.getElem_toArray, List.getElem_cons_succ, List.getElem_cons_zero, List.setIfInBounds_toArray, List.set_cons_zero, List.set_cons_succ]
                  have y0 := RowIs.cell (j := 0) HT9.out.row rfl; have y1 := RowIs.cell (j := 1) HT9.out.row rfl; have y2 := RowIs.cell (j := 2) HT9.out.row rfl; have y3 := RowIs.cell (j := 3) HT9.out.row rfl; have y4 := RowIs.cell (j := 4) HT9.out.row rfl; have y5 := RowIs.cell (j := 5) HT9.out.row rfl; have y6 := RowIs.cell (j := 6) HT9.out.row rfl; have y7 := RowIs.cell (j := 7) HT9.out.row rfl; have y9 := fun j => RowIs.frozen HT9.out.row j; have y8 := HT9.out.row.lt
                  have HT5 := hide (HT9.out.set 1 (.string ⟨#[]⟩) (⟨t0.1.nm, ⟨#[]⟩, t0.1.list, t0.1.quota⟩, t0.2) t1 rfl HT9.out.l0 HT9.out.l1 ⟨HT9.out.s0.1, by show ByteArray.size ⟨#[]⟩ ≤ 100; decide, HT9.out.s0.2.2⟩ HT9.out.s1)
                  refine wpAny_ready (rs := [10]) (by kernel_rfl) (by simp) ?_
                  refine (AllReady.cons rfl (fun K hK => ?_) AllReady.nil)
                  go_simp
                  refine hK _ _ ?_; clear hK K
                  refine wpAny_done (by kernel_rfl) ?_ _
                  go_wp2_with fail
                  go_ret
                  first | exact ⟨_, _, rfl, HT5.out.st0, by simp, (fun x hx => by simp at hx; rcases hx with rfl | rfl <;> first | exact HT5.out.s0 | exact HT5.out.s1), HC9.out.set ⟨b, 1, none⟩ _ (by show g < b; omega), HM9.out.setNew ⟨b, 1, none⟩ (by show w.heap.size ≤ b; omega) _⟩ | exact ⟨_, rfl, _, HT5.out.st0, by simp, (fun x hx => by simp at hx; rcases hx with rfl | rfl <;> first | exact HT5.out.s0 | exact HT5.out.s1), HC9.out.set ⟨b, 1, none⟩ _ (by show g < b; omega), HM9.out.setNew ⟨b, 1, none⟩ (by show w.heap.size ≤ b; omega) _⟩
                · skip
                  try simp only [Act.put, List.getElem_toArray, List.getElem_cons_succ, List.getElem_cons_zero, List.setIfInBounds_toArray, List.set_cons_zero, List.set_cons_succ]
                  refine wpAny_take (i := 6) (v := ?_) rfl (by kernel_rfl) (by kernel_rfl) (by kernel_rfl) (fun _ _ _ h => h) (Or.inl ⟨by rfl, ?_⟩) ?_; rotate_left; focus (intro uu; go_simp; try with_reducible rfl)
                  try simp only [Act.put, List.getElem_toArray, List.getElem_cons_succ, List.getElem_cons_zero, List.setIfInBounds_toArray, List.set_cons_zero, List.set_cons_succ]
                  have hx7 := HR.out.cell (j := 1) rfl
                  refine wpAny_ready (rs := [7]) (by kernel_rfl) (by simp) ?_
                  refine (AllReady.cons rfl (fun K hK => ?_) AllReady.nil)
                  go_simp
                  refine hK _ _ ?_; clear hK K hx7
                  try simp only [Act.put, List.getElem_toArray, List.getElem_cons_succ, List.getElem_cons_zero, List.setIfInBounds_toArray, List.set_cons_zero, List.set_cons_succ]
                  refine wpAny_take (i := 8) (v := ?_) rfl (by kernel_rfl) (by kernel_rfl) (by kernel_rfl) (fun _ _ _ h => h) (Or.inl ⟨by rfl, ?_⟩) ?_; rotate_left; focus (intro uu; go_simp; try with_reducible rfl)
                  try simp only [Act.put, List.getElem_toArray, List.getElem_cons_succ, List.getElem_cons_zero, List.setIfInBounds_toArray, List.set_cons_zero, List.set_cons_succ]
                  refine wpAny_take (i := 9) (v := ?_) rfl (by kernel_rfl) (by kernel_rfl) (by kernel_rfl) (fun _ _ _ h => h) (Or.inl ⟨by rfl, ?_⟩) ?_; rotate_left; focus (intro uu; go_simp; try with_reducible rfl)
                  try simp only [Act.put, List.getElem_toArray, List.getElem_cons_succ, List.getElem_cons_zero, List.setIfInBounds_toArray, List.set_cons_zero, List.set_cons_succ]
                  have y0 := RowIs.cell (j := 0) HT9.out.row rfl; have y1 := RowIs.cell (j := 1) HT9.out.row rfl; have y2 := RowIs.cell (j := 2) HT9.out.row rfl; have y3 := RowIs.cell (j := 3) HT9.out.row rfl; have y4 := RowIs.cell (j := 4) HT9.out.row rfl; have y5 := RowIs.cell (j := 5) HT9.out.row rfl; have y6 := RowIs.cell (j := 6) HT9.out.row rfl; have y7 := RowIs.cell (j := 7) HT9.out.row rfl; have y9 := fun j => RowIs.frozen HT9.out.row j; have y8 := HT9.out.row.lt
                  have HT5 := hide (HT9.out.set 1 (.string z) (⟨t0.1.nm, z, t0.1.list, t0.1.quota⟩, t0.2) t1 rfl HT9.out.l0 HT9.out.l1 ⟨HT9.out.s0.1, by show ByteArray.size z ≤ 100; omega, HT9.out.s0.2.2⟩ HT9.out.s1)
                  refine wpAny_ready (rs := [10]) (by kernel_rfl) (by simp) ?_
                  refine (AllReady.cons rfl (fun K hK => ?_) AllReady.nil)
                  go_simp
                  refine hK _ _ ?_; clear hK K
                  refine wpAny_done (by kernel_rfl) ?_ _
                  go_wp2_with fail
                  go_ret
                  first | exact ⟨_, _, rfl, HT5.out.st0, by simp, (fun x hx => by simp at hx; rcases hx with rfl | rfl <;> first | exact HT5.out.s0 | exact HT5.out.s1), HC9.out.set ⟨b, 1, none⟩ _ (by show g < b; omega), HM9.out.setNew ⟨b, 1, none⟩ (by show w.heap.size ≤ b; omega) _⟩ | exact ⟨_, rfl, _, HT5.out.st0, by simp, (fun x hx => by simp at hx; rcases hx with rfl | rfl <;> first | exact HT5.out.s0 | exact HT5.out.s1), HC9.out.set ⟨b, 1, none⟩ _ (by show g < b; omega), HM9.out.setNew ⟨b, 1, none⟩ (by show w.heap.size ≤ b; omega) _⟩
              · skip
                go_simp
                refine (below1 g B 2 _ HC9.out (by omega)).mono ?_; rintro e x5 ⟨q, q0, q1, _, rfl, hcx, hmx⟩
                have q2 := q1 (by omega)
                replace HT9 := hide (HT9.out.moves hmx)
                replace HD := hide (HD.out.moves hmx)
                replace HM9 := hide (HM9.out.trans hmx)
                replace HC9 := hide hcx
                clear hcx hmx q1
                have hqq : q = 0 ∨ q = 1 := by omega
                refine hK _ _ ?_; clear hK K
                rcases hqq with rfl | rfl
                · skip
                  try simp only [Act.put, List.getElem_toArray, List.getElem_cons_succ, List.getElem_cons_zero, List.setIfInBounds_toArray, List.set_cons_zero, List.set_cons_succ]
                  refine wpAny_ready (rs := [3]) (by kernel_rfl) (by simp) ?_
                  refine (AllReady.cons rfl (fun K hK => ?_) AllReady.nil)
                  go_simp
                  obtain ⟨x6, hx6⟩ : ∃ u, x5.alloc (.cells #[.string ⟨#[]⟩, .string z] 9) = u := ⟨_, rfl⟩
                  have hbx6 : Below x5.heap.size x5 x6 := by rw [← hx6]; exact (Below.refl _ _).alloc (Nat.le_refl _) _
                  have HR : Hid (RowIs x6 x5.heap.size 9 [.string ⟨#[]⟩, .string z]) := by show _; rw [← hx6]; exact rowIs_new x5 _ _
                  have hqr : x5.heap.size ≠ g := by have := HC9.out.lt; omega
                  replace HT9 := hide (HT9.out.new hbx6)
                  replace HC9 := hide (HC9.out.below hbx6)
                  replace HD := hide (HD.out.new hbx6)
                  replace HM9 := hide (HM9.out.trans (Moves.of_below hbx6))
                  rw [hx6]
                  clear hx6 hbx6
                  generalize x5.heap.size = qr at *
                  refine hK _ _ ?_; clear hK K
                  try simp only [Act.put, List.getElem_toArray, List.getElem_cons_succ, List.getElem_cons_zero, List.setIfInBounds_toArray, List.set_cons_zero, List.set_cons_succ]
                  refine wpAny_take (i := 6) (v := ?_) rfl (by kernel_rfl) (by kernel_rfl) (by kernel_rfl) (fun _ _ _ h => h) (Or.inl ⟨by rfl, ?_⟩) ?_; rotate_left; focus (intro uu; go_simp; try with_reducible rfl)
                  try simp only [Act.put, List.getElem_toArray, List.getElem_cons_succ, List.getElem_cons_zero, List.setIfInBounds_toArray, List.set_cons_zero, List.set_cons_succ]
                  have hx7 := HR.out.cell (j := 0) rfl
                  refine wpAny_ready (rs := [7]) (by kernel_rfl) (by simp) ?_
                  refine (AllReady.cons rfl (fun K hK => ?_) AllReady.nil)
                  go_simp
                  refine hK _ _ ?_; clear hK K hx7
                  try simp only [Act.put, List.getElem_toArray, List.getElem_cons_succ, List.getElem_cons_zero, List.setIfInBounds_toArray, List.set_cons_zero, List.set_cons_succ]
                  refine wpAny_take (i := 8) (v := ?_) rfl (by kernel_rfl) (by kernel_rfl) (by kernel_rfl) (fun _ _ _ h => h) (Or.inl ⟨by rfl, ?_⟩) ?_; rotate_left; focus (intro uu; go_simp; try with_reducible rfl)
                  try simp only [Act.put, List.getElem_toArray, List.getElem_cons_succ, List.getElem_cons_zero, List.setIfInBounds_toArray, List.set_cons_zero, List.set_cons_succ]
                  refine wpAny_take (i := 9) (v := ?_) rfl (by kernel_rfl) (by kernel_rfl) (by kernel_rfl) (fun _ _ _ h => h) (Or.inl ⟨by rfl, ?_⟩) ?_; rotate_left; focus (intro uu; go_simp; try with_reducible rfl)
                  try simp only [Act.put, List.getElem_toArray, List.getElem_cons_succ, List.getElem_cons_zero, List.setIfInBounds_toArray, List.set_cons_zero, List.set_cons_succ]
                  have y0 := RowIs.cell (j := 0) HT9.out.row rfl; have y1 := RowIs.cell (j := 1) HT9.out.row rfl; have y2 := RowIs.cell (j := 2) HT9.out.row rfl; have y3 := RowIs.cell (j := 3) HT9.out.row rfl; have y4 := RowIs.cell (j := 4) HT9.out.row rfl; have y5 := RowIs.cell (j := 5) HT9.out.row rfl; have y6 := RowIs.cell (j := 6) HT9.out.row rfl; have y7 := RowIs.cell (j := 7) HT9.out.row rfl; have y9 := fun j => RowIs.frozen HT9.out.row j; have y8 := HT9.out.row.lt
                  have HT5 := hide (HT9.out.set 1 (.string ⟨#[]⟩) (⟨t0.1.nm, ⟨#[]⟩, t0.1.list, t0.1.quota⟩, t0.2) t1 rfl HT9.out.l0 HT9.out.l1 ⟨HT9.out.s0.1, by show ByteArray.size ⟨#[]⟩ ≤ 100; decide, HT9.out.s0.2.2⟩ HT9.out.s1)
                  refine wpAny_ready (rs := [10]) (by kernel_rfl) (by simp) ?_
                  refine (AllReady.cons rfl (fun K hK => ?_) AllReady.nil)
                  go_simp
                  refine hK _ _ ?_; clear hK K
                  refine wpAny_done (by kernel_rfl) ?_ _
                  go_wp2_with fail
                  go_ret
                  first | exact ⟨_, _, rfl, HT5.out.st0, by simp, (fun x hx => by simp at hx; rcases hx with rfl | rfl <;> first | exact HT5.out.s0 | exact HT5.out.s1), HC9.out.set ⟨b, 1, none⟩ _ (by show g < b; omega), HM9.out.setNew ⟨b, 1, none⟩ (by show w.heap.size ≤ b; omega) _⟩ | exact ⟨_, rfl, _, HT5.out.st0, by simp, (fun x hx => by simp at hx; rcases hx with rfl | rfl <;> first | exact HT5.out.s0 | exact HT5.out.s1), HC9.out.set ⟨b, 1, none⟩ _ (by show g < b; omega), HM9.out.setNew ⟨b, 1, none⟩ (by show w.heap.size ≤ b; omega) _⟩
                · skip
                  try simp only [Act.put, List.getElem_toArray, List.getElem_cons_succ, List.getElem_cons_zero, List.setIfInBounds_toArray, List.set_cons_zero, List.set_cons_succ]
                  refine wpAny_ready (rs := [3]) (by kernel_rfl) (by simp) ?_
                  refine (AllReady.cons rfl (fun K hK => ?_) AllReady.nil)
                  go_simp
                  obtain ⟨x7, hx7⟩ : ∃ u, x5.alloc (.cells #[.string ⟨#[]⟩, .string z] 9) = u := ⟨_, rfl⟩
                  have hbx7 : Below x5.heap.size x5 x7 := by rw [← hx7]; exact (Below.refl _ _).alloc (Nat.le_refl _) _
                  have HR : Hid (RowIs x7 x5.heap.size 9 [.string ⟨#[]⟩, .string z]) := by show _; rw [← hx7]; exact rowIs_new x5 _ _
                  have hqr : x5.heap.size ≠ g := by have := HC9.out.lt; omega
                  replace HT9 := hide (HT9.out.new hbx7)
                  replace HC9 := hide (HC9.out.below hbx7)
                  replace HD := hide (HD.out.new hbx7)
                  replace HM9 := hide (HM9.out.trans (Moves.of_below hbx7))
                  rw [hx7]
                  clear hx7 hbx7
                  generalize x5.heap.size = qr at *
                  refine hK _ _ ?_; clear hK K
                  try simp only [Act.put, List.getElem_toArray, List.getElem_cons_succ, List.getElem_cons_zero, List.setIfInBounds_toArray, List.set_cons_zero, List.set_cons_succ]
                  refine wpAny_take (i := 6) (v := ?_) rfl (by kernel_rfl) (by kernel_rfl) (by kernel_rfl) (fun _ _ _ h => h) (Or.inl ⟨by rfl, ?_⟩) ?_; rotate_left; focus (intro uu; go_simp; try with_reducible rfl)
                  try simp only [Act.put, List.getElem_toArray, List.getElem_cons_succ, List.getElem_cons_zero, List.setIfInBounds_toArray, List.set_cons_zero, List.set_cons_succ]
                  have hx7 := HR.out.cell (j := 1) rfl
                  refine wpAny_ready (rs := [7]) (by kernel_rfl) (by simp) ?_
                  refine (AllReady.cons rfl (fun K hK => ?_) AllReady.nil)
                  go_simp
                  refine hK _ _ ?_; clear hK K hx7
                  try simp only [Act.put, List.getElem_toArray, List.getElem_cons_succ, List.getElem_cons_zero, List.setIfInBounds_toArray, List.set_cons_zero, List.set_cons_succ]
                  refine wpAny_take (i := 8) (v := ?_) rfl (by kernel_rfl) (by kernel_rfl) (by kernel_rfl) (fun _ _ _ h => h) (Or.inl ⟨by rfl, ?_⟩) ?_; rotate_left; focus (intro uu; go_simp; try with_reducible rfl)
                  try simp only [Act.put, List.getElem_toArray, List.getElem_cons_succ, List.getElem_cons_zero, List.setIfInBounds_toArray, List.set_cons_zero, List.set_cons_succ]
                  refine wpAny_take (i := 9) (v := ?_) rfl (by kernel_rfl) (by kernel_rfl) (by kernel_rfl) (fun _ _ _ h => h) (Or.inl ⟨by rfl, ?_⟩) ?_; rotate_left; focus (intro uu; go_simp; try with_reducible rfl)
                  try simp only [Act.put, List.getElem_toArray, List.getElem_cons_succ, List.getElem_cons_zero, List.setIfInBounds_toArray, List.set_cons_zero, List.set_cons_succ]
                  have y0 := RowIs.cell (j := 0) HT9.out.row rfl; have y1 := RowIs.cell (j := 1) HT9.out.row rfl; have y2 := RowIs.cell (j := 2) HT9.out.row rfl; have y3 := RowIs.cell (j := 3) HT9.out.row rfl; have y4 := RowIs.cell (j := 4) HT9.out.row rfl; have y5 := RowIs.cell (j := 5) HT9.out.row rfl; have y6 := RowIs.cell (j := 6) HT9.out.row rfl; have y7 := RowIs.cell (j := 7) HT9.out.row rfl; have y9 := fun j => RowIs.frozen HT9.out.row j; have y8 := HT9.out.row.lt
                  have HT5 := hide (HT9.out.set 1 (.string z) (⟨t0.1.nm, z, t0.1.list, t0.1.quota⟩, t0.2) t1 rfl HT9.out.l0 HT9.out.l1 ⟨HT9.out.s0.1, by show ByteArray.size z ≤ 100; omega, HT9.out.s0.2.2⟩ HT9.out.s1)
                  refine wpAny_ready (rs := [10]) (by kernel_rfl) (by simp) ?_
                  refine (AllReady.cons rfl (fun K hK => ?_) AllReady.nil)
                  go_simp
                  refine hK _ _ ?_; clear hK K
                  refine wpAny_done (by kernel_rfl) ?_ _
                  go_wp2_with fail
                  go_ret
                  first | exact ⟨_, _, rfl, HT5.out.st0, by simp, (fun x hx => by simp at hx; rcases hx with rfl | rfl <;> first | exact HT5.out.s0 | exact HT5.out.s1), HC9.out.set ⟨b, 1, none⟩ _ (by show g < b; omega), HM9.out.setNew ⟨b, 1, none⟩ (by show w.heap.size ≤ b; omega) _⟩ | exact ⟨_, rfl, _, HT5.out.st0, by simp, (fun x hx => by simp at hx; rcases hx with rfl | rfl <;> first | exact HT5.out.s0 | exact HT5.out.s1), HC9.out.set ⟨b, 1, none⟩ _ (by show g < b; omega), HM9.out.setNew ⟨b, 1, none⟩ (by show w.heap.size ≤ b; omega) _⟩
            · skip
              go_simp
              refine (below1 g B 2 _ HC9.out (by omega)).mono ?_; rintro e x8 ⟨q, q0, q1, _, rfl, hcx, hmx⟩
              have q2 := q1 (by omega)
              replace HT9 := hide (HT9.out.moves hmx)
              replace HD := hide (HD.out.moves hmx)
              replace HM9 := hide (HM9.out.trans hmx)
              replace HC9 := hide hcx
              clear hcx hmx q1
              have hqq : q = 0 ∨ q = 1 := by omega
              refine hK _ _ ?_; clear hK K
              rcases hqq with rfl | rfl
              · skip
                try simp only [Act.put, List.getElem_toArray, List.getElem_cons_succ, List.getElem_cons_zero, List.setIfInBounds_toArray, List.set_cons_zero, List.set_cons_succ]
                refine wpAny_ready (rs := [2]) (by kernel_rfl) (by simp) ?_
                refine (AllReady.cons rfl (fun K hK => ?_) AllReady.nil)
                obtain ⟨z, hzs, hcv⟩ := HD.out.text
                go_simp
                refine hK _ _ ?_; clear hK K hcv
                try simp only [Act.put, List.getElem_toArray, List.getElem_cons_succ, List.getElem_cons_zero, List.setIfInBounds_toArray, List.set_cons_zero, List.set_cons_succ]
                refine wpAny_ready (rs := [3]) (by kernel_rfl) (by simp) ?_
                refine (AllReady.cons rfl (fun K hK => ?_) AllReady.nil)
                go_simp
                obtain ⟨x10, hx10⟩ : ∃ u, x8.alloc (.cells #[.string ⟨#[]⟩, .string z] 9) = u := ⟨_, rfl⟩
                have hbx10 : Below x8.heap.size x8 x10 := by rw [← hx10]; exact (Below.refl _ _).alloc (Nat.le_refl _) _
                have HR : Hid (RowIs x10 x8.heap.size 9 [.string ⟨#[]⟩, .string z]) := by show _; rw [← hx10]; exact rowIs_new x8 _ _
                have hqr : x8.heap.size ≠ g := by have := HC9.out.lt; omega
                replace HT9 := hide (HT9.out.new hbx10)
                replace HC9 := hide (HC9.out.below hbx10)
                replace HD := hide (HD.out.new hbx10)
                replace HM9 := hide (HM9.out.trans (Moves.of_below hbx10))
                rw [hx10]
                clear hx10 hbx10
                generalize x8.heap.size = qr at *
                refine hK _ _ ?_; clear hK K
                try simp only [Act.put, List.getElem_toArray, List.getElem_cons_succ, List.getElem_cons_zero, List.setIfInBounds_toArray, List.set_cons_zero, List.set_cons_succ]
                refine wpAny_take (i := 6) (v := ?_) rfl (by kernel_rfl) (by kernel_rfl) (by kernel_rfl) (fun _ _ _ h => h) (Or.inl ⟨by rfl, ?_⟩) ?_; rotate_left; focus (intro uu; go_simp; try with_reducible rfl)
                try simp only [Act.put, List.getElem_toArray, List.getElem_cons_succ, List.getElem_cons_zero, List.setIfInBounds_toArray, List.set_cons_zero, List.set_cons_succ]
                have hx7 := HR.out.cell (j := 0) rfl
                refine wpAny_ready (rs := [7]) (by kernel_rfl) (by simp) ?_
                refine (AllReady.cons rfl (fun K hK => ?_) AllReady.nil)
                go_simp
                refine hK _ _ ?_; clear hK K hx7
                try simp only [Act.put, List.getElem_toArray, List.getElem_cons_succ, List.getElem_cons_zero, List.setIfInBounds_toArray, List.set_cons_zero, List.set_cons_succ]
                refine wpAny_take (i := 8) (v := ?_) rfl (by kernel_rfl) (by kernel_rfl) (by kernel_rfl) (fun _ _ _ h => h) (Or.inl ⟨by rfl, ?_⟩) ?_; rotate_left; focus (intro uu; go_simp; try with_reducible rfl)
                try simp only [Act.put, List.getElem_toArray, List.getElem_cons_succ, List.getElem_cons_zero, List.setIfInBounds_toArray, List.set_cons_zero, List.set_cons_succ]
                refine wpAny_take (i := 9) (v := ?_) rfl (by kernel_rfl) (by kernel_rfl) (by kernel_rfl) (fun _ _ _ h => h) (Or.inl ⟨by rfl, ?_⟩) ?_; rotate_left; focus (intro uu; go_simp; try with_reducible rfl)
                try simp only [Act.put, List.getElem_toArray, List.getElem_cons_succ, List.getElem_cons_zero, List.setIfInBounds_toArray, List.set_cons_zero, List.set_cons_succ]
                have y0 := RowIs.cell (j := 0) HT9.out.row rfl; have y1 := RowIs.cell (j := 1) HT9.out.row rfl; have y2 := RowIs.cell (j := 2) HT9.out.row rfl; have y3 := RowIs.cell (j := 3) HT9.out.row rfl; have y4 := RowIs.cell (j := 4) HT9.out.row rfl; have y5 := RowIs.cell (j := 5) HT9.out.row rfl; have y6 := RowIs.cell (j := 6) HT9.out.row rfl; have y7 := RowIs.cell (j := 7) HT9.out.row rfl; have y9 := fun j => RowIs.frozen HT9.out.row j; have y8 := HT9.out.row.lt
                have HT5 := hide (HT9.out.set 1 (.string ⟨#[]⟩) (⟨t0.1.nm, ⟨#[]⟩, t0.1.list, t0.1.quota⟩, t0.2) t1 rfl HT9.out.l0 HT9.out.l1 ⟨HT9.out.s0.1, by show ByteArray.size ⟨#[]⟩ ≤ 100; decide, HT9.out.s0.2.2⟩ HT9.out.s1)
                refine wpAny_ready (rs := [10]) (by kernel_rfl) (by simp) ?_
                refine (AllReady.cons rfl (fun K hK => ?_) AllReady.nil)
                go_simp
                refine hK _ _ ?_; clear hK K
                refine wpAny_done (by kernel_rfl) ?_ _
                go_wp2_with fail
                go_ret
                first | exact ⟨_, _, rfl, HT5.out.st0, by simp, (fun x hx => by simp at hx; rcases hx with rfl | rfl <;> first | exact HT5.out.s0 | exact HT5.out.s1), HC9.out.set ⟨b, 1, none⟩ _ (by show g < b; omega), HM9.out.setNew ⟨b, 1, none⟩ (by show w.heap.size ≤ b; omega) _⟩ | exact ⟨_, rfl, _, HT5.out.st0, by simp, (fun x hx => by simp at hx; rcases hx with rfl | rfl <;> first | exact HT5.out.s0 | exact HT5.out.s1), HC9.out.set ⟨b, 1, none⟩ _ (by show g < b; omega), HM9.out.setNew ⟨b, 1, none⟩ (by show w.heap.size ≤ b; omega) _⟩
              · skip
                try simp only [Act.put, List.getElem_toArray, List.getElem_cons_succ, List.getElem_cons_zero, List.setIfInBounds_toArray, List.set_cons_zero, List.set_cons_succ]
                refine wpAny_ready (rs := [2]) (by kernel_rfl) (by simp) ?_
                refine (AllReady.cons rfl (fun K hK => ?_) AllReady.nil)
                obtain ⟨z, hzs, hcv⟩ := HD.out.text
                go_simp
                refine hK _ _ ?_; clear hK K hcv
                try simp only [Act.put, List.getElem_toArray, List.getElem_cons_succ, List.getElem_cons_zero, List.setIfInBounds_toArray, List.set_cons_zero, List.set_cons_succ]
                refine wpAny_ready (rs := [3]) (by kernel_rfl) (by simp) ?_
                refine (AllReady.cons rfl (fun K hK => ?_) AllReady.nil)
                go_simp
                obtain ⟨x12, hx12⟩ : ∃ u, x8.alloc (.cells #[.string ⟨#[]⟩, .string z] 9) = u := ⟨_, rfl⟩
                have hbx12 : Below x8.heap.size x8 x12 := by rw [← hx12]; exact (Below.refl _ _).alloc (Nat.le_refl _) _
                have HR : Hid (RowIs x12 x8.heap.size 9 [.string ⟨#[]⟩, .string z]) := by show _; rw [← hx12]; exact rowIs_new x8 _ _
                have hqr : x8.heap.size ≠ g := by have := HC9.out.lt; omega
                replace HT9 := hide (HT9.out.new hbx12)
                replace HC9 := hide (HC9.out.below hbx12)
                replace HD := hide (HD.out.new hbx12)
                replace HM9 := hide (HM9.out.trans (Moves.of_below hbx12))
                rw [hx12]
                clear hx12 hbx12
                generalize x8.heap.size = qr at *
                refine hK _ _ ?_; clear hK K
                try simp only [Act.put, List.getElem_toArray, List.getElem_cons_succ, List.getElem_cons_zero, List.setIfInBounds_toArray, List.set_cons_zero, List.set_cons_succ]
                refine wpAny_take (i := 6) (v := ?_) rfl (by kernel_rfl) (by kernel_rfl) (by kernel_rfl) (fun _ _ _ h => h) (Or.inl ⟨by rfl, ?_⟩) ?_; rotate_left; focus (intro uu; go_simp; try with_reducible rfl)
                try simp only [Act.put, List.getElem_toArray, List.getElem_cons_succ, List.getElem_cons_zero, List.setIfInBounds_toArray, List.set_cons_zero, List.set_cons_succ]
                have hx7 := HR.out.cell (j := 1) rfl
                refine wpAny_ready (rs := [7]) (by kernel_rfl) (by simp) ?_
                refine (AllReady.cons rfl (fun K hK => ?_) AllReady.nil)
                go_simp
                refine hK _ _ ?_; clear hK K hx7
                try simp only [Act.put, List.getElem_toArray, List.getElem_cons_succ, List.getElem_cons_zero, List.setIfInBounds_toArray, List.set_cons_zero, List.set_cons_succ]
                refine wpAny_take (i := 8) (v := ?_) rfl (by kernel_rfl) (by kernel_rfl) (by kernel_rfl) (fun _ _ _ h => h) (Or.inl ⟨by rfl, ?_⟩) ?_; rotate_left; focus (intro uu; go_simp; try with_reducible rfl)
                try simp only [Act.put, List.getElem_toArray, List.getElem_cons_succ, List.getElem_cons_zero, List.setIfInBounds_toArray, List.set_cons_zero, List.set_cons_succ]
                refine wpAny_take (i := 9) (v := ?_) rfl (by kernel_rfl) (by kernel_rfl) (by kernel_rfl) (fun _ _ _ h => h) (Or.inl ⟨by rfl, ?_⟩) ?_; rotate_left; focus (intro uu; go_simp; try with_reducible rfl)
                try simp only [Act.put, List.getElem_toArray, List.getElem_cons_succ, List.getElem_cons_zero, List.setIfInBounds_toArray, List.set_cons_zero, List.set_cons_succ]
                have y0 := RowIs.cell (j := 0) HT9.out.row rfl; have y1 := RowIs.cell (j := 1) HT9.out.row rfl; have y2 := RowIs.cell (j := 2) HT9.out.row rfl; have y3 := RowIs.cell (j := 3) HT9.out.row rfl; have y4 := RowIs.cell (j := 4) HT9.out.row rfl; have y5 := RowIs.cell (j := 5) HT9.out.row rfl; have y6 := RowIs.cell (j := 6) HT9.out.row rfl; have y7 := RowIs.cell (j := 7) HT9.out.row rfl; have y9 := fun j => RowIs.frozen HT9.out.row j; have y8 := HT9.out.row.lt
                have HT5 := hide (HT9.out.set 1 (.string z) (⟨t0.1.nm, z, t0.1.list, t0.1.quota⟩, t0.2) t1 rfl HT9.out.l0 HT9.out.l1 ⟨HT9.out.s0.1, by show ByteArray.size z ≤ 100; omega, HT9.out.s0.2.2⟩ HT9.out.s1)
                refine wpAny_ready (rs := [10]) (by kernel_rfl) (by simp) ?_
                refine (AllReady.cons rfl (fun K hK => ?_) AllReady.nil)
                go_simp
                refine hK _ _ ?_; clear hK K
                refine wpAny_done (by kernel_rfl) ?_ _
                go_wp2_with fail
                go_ret
                first | exact ⟨_, _, rfl, HT5.out.st0, by simp, (fun x hx => by simp at hx; rcases hx with rfl | rfl <;> first | exact HT5.out.s0 | exact HT5.out.s1), HC9.out.set ⟨b, 1, none⟩ _ (by show g < b; omega), HM9.out.setNew ⟨b, 1, none⟩ (by show w.heap.size ≤ b; omega) _⟩ | exact ⟨_, rfl, _, HT5.out.st0, by simp, (fun x hx => by simp at hx; rcases hx with rfl | rfl <;> first | exact HT5.out.s0 | exact HT5.out.s1), HC9.out.set ⟨b, 1, none⟩ _ (by show g < b; omega), HM9.out.setNew ⟨b, 1, none⟩ (by show w.heap.size ≤ b; omega) _⟩
          · skip
            go_simp
            refine (below1 g B 2 _ HC9.out (by omega)).mono ?_; rintro e x13 ⟨q, q0, q1, _, rfl, hcx, hmx⟩
            have q2 := q1 (by omega)
            replace HT9 := hide (HT9.out.moves hmx)
            replace HM9 := hide (HM9.out.trans hmx)
            replace HC9 := hide hcx
            clear hcx hmx q1
            have hqq : q = 0 ∨ q = 1 := by omega
            refine hK _ _ ?_; clear hK K
            rcases hqq with rfl | rfl
            · skip
              try simp only [Act.put, List.getElem_toArray, List.getElem_cons_succ, List.getElem_cons_zero, List.setIfInBounds_toArray, List.set_cons_zero, List.set_cons_succ]
              refine wpAny_ready (rs := [1]) (by kernel_rfl) (by simp) ?_
              refine (AllReady.cons rfl (fun K hK => ?_) AllReady.nil)
              go_simp
              obtain ⟨x14, hx14⟩ : ∃ u, x13.alloc (.cells M 5) = u := ⟨_, rfl⟩
              have hbx14 : Below x13.heap.size x13 x14 := by rw [← hx14]; exact (Below.refl _ _).alloc (Nat.le_refl _) _
              have HD : Hid (MadeB x14 x13.heap.size 41 g) := by show _; rw [← hx14]; exact madeB_of hMs hML HC9.out.lt (by omega)
              replace HT9 := hide (HT9.out.new hbx14)
              replace HC9 := hide (HC9.out.below hbx14)
              replace HM9 := hide (HM9.out.trans (Moves.of_below hbx14))
              rw [hx14]
              clear hx14 hbx14
              generalize x13.heap.size = qd at *
              refine hK _ _ ?_; clear hK K
              try simp only [Act.put, List.getElem_toArray, List.getElem_cons_succ, List.getElem_cons_zero, List.setIfInBounds_toArray, List.set_cons_zero, List.set_cons_succ]
              refine wpAny_ready (rs := [2]) (by kernel_rfl) (by simp) ?_
              refine (AllReady.cons rfl (fun K hK => ?_) AllReady.nil)
              obtain ⟨z, hzs, hcv⟩ := HD.out.text
              go_simp
              refine hK _ _ ?_; clear hK K hcv
              try simp only [Act.put, List.getElem_toArray, List.getElem_cons_succ, List.getElem_cons_zero, List.setIfInBounds_toArray, List.set_cons_zero, List.set_cons_succ]
              refine wpAny_ready (rs := [3]) (by kernel_rfl) (by simp) ?_
              refine (AllReady.cons rfl (fun K hK => ?_) AllReady.nil)
              go_simp
              obtain ⟨x16, hx16⟩ : ∃ u, x14.alloc (.cells #[.string ⟨#[]⟩, .string z] 9) = u := ⟨_, rfl⟩
              have hbx16 : Below x14.heap.size x14 x16 := by rw [← hx16]; exact (Below.refl _ _).alloc (Nat.le_refl _) _
              have HR : Hid (RowIs x16 x14.heap.size 9 [.string ⟨#[]⟩, .string z]) := by show _; rw [← hx16]; exact rowIs_new x14 _ _
              have hqr : x14.heap.size ≠ g := by have := HC9.out.lt; omega
              replace HT9 := hide (HT9.out.new hbx16)
              replace HC9 := hide (HC9.out.below hbx16)
              replace HD := hide (HD.out.new hbx16)
              replace HM9 := hide (HM9.out.trans (Moves.of_below hbx16))
              rw [hx16]
              clear hx16 hbx16
              generalize x14.heap.size = qr at *
              refine hK _ _ ?_; clear hK K
              try simp only [Act.put, List.getElem_toArray, List.getElem_cons_succ, List.getElem_cons_zero, List.setIfInBounds_toArray, List.set_cons_zero, List.set_cons_succ]
              refine wpAny_take (i := 6) (v := ?_) rfl (by kernel_rfl) (by kernel_rfl) (by kernel_rfl) (fun _ _ _ h => h) (Or.inl ⟨by rfl, ?_⟩) ?_; rotate_left; focus (intro uu; go_simp; try with_reducible rfl)
              try simp only [Act.put, List.getElem_toArray, List.getElem_cons_succ, List.getElem_cons_zero, List.setIfInBounds_toArray, List.set_cons_zero, List.set_cons_succ]
              have hx7 := HR.out.cell (j := 0) rfl
              refine wpAny_ready (rs := [7]) (by kernel_rfl) (by simp) ?_
              refine (AllReady.cons rfl (fun K hK => ?_) AllReady.nil)
              go_simp
              refine hK _ _ ?_; clear hK K hx7
              try simp only [Act.put, List.getElem_toArray, List.getElem_cons_succ, List.getElem_cons_zero, List.setIfInBounds_toArray, List.set_cons_zero, List.set_cons_succ]
              refine wpAny_take (i := 8) (v := ?_) rfl (by kernel_rfl) (by kernel_rfl) (by kernel_rfl) (fun _ _ _ h => h) (Or.inl ⟨by rfl, ?_⟩) ?_; rotate_left; focus (intro uu; go_simp; try with_reducible rfl)
              try simp only [Act.put, List.getElem_toArray, List.getElem_cons_succ, List.getElem_cons_zero, List.setIfInBounds_toArray, List.set_cons_zero, List.set_cons_succ]
              refine wpAny_take (i := 9) (v := ?_) rfl (by kernel_rfl) (by kernel_rfl) (by kernel_rfl) (fun _ _ _ h => h) (Or.inl ⟨by rfl, ?_⟩) ?_; rotate_left; focus (intro uu; go_simp; try with_reducible rfl)
              try simp only [Act.put, List.getElem_toArray, List.getElem_cons_succ, List.getElem_cons_zero, List.setIfInBounds_toArray, List.set_cons_zero, List.set_cons_succ]
              have y0 := RowIs.cell (j := 0) HT9.out.row rfl; have y1 := RowIs.cell (j := 1) HT9.out.row rfl; have y2 := RowIs.cell (j := 2) HT9.out.row rfl; have y3 := RowIs.cell (j := 3) HT9.out.row rfl; have y4 := RowIs.cell (j := 4) HT9.out.row rfl; have y5 := RowIs.cell (j := 5) HT9.out.row rfl; have y6 := RowIs.cell (j := 6) HT9.out.row rfl; have y7 := RowIs.cell (j := 7) HT9.out.row rfl; have y9 := fun j => RowIs.frozen HT9.out.row j; have y8 := HT9.out.row.lt
              have HT5 := hide (HT9.out.set 1 (.string ⟨#[]⟩) (⟨t0.1.nm, ⟨#[]⟩, t0.1.list, t0.1.quota⟩, t0.2) t1 rfl HT9.out.l0 HT9.out.l1 ⟨HT9.out.s0.1, by show ByteArray.size ⟨#[]⟩ ≤ 100; decide, HT9.out.s0.2.2⟩ HT9.out.s1)
              refine wpAny_ready (rs := [10]) (by kernel_rfl) (by simp) ?_
              refine (AllReady.cons rfl (fun K hK => ?_) AllReady.nil)
              go_simp
              refine hK _ _ ?_; clear hK K
              refine wpAny_done (by kernel_rfl) ?_ _
              go_wp2_with fail
              go_ret
              first | exact ⟨_, _, rfl, HT5.out.st0, by simp, (fun x hx => by simp at hx; rcases hx with rfl | rfl <;> first | exact HT5.out.s0 | exact HT5.out.s1), HC9.out.set ⟨b, 1, none⟩ _ (by show g < b; omega), HM9.out.setNew ⟨b, 1, none⟩ (by show w.heap.size ≤ b; omega) _⟩ | exact ⟨_, rfl, _, HT5.out.st0, by simp, (fun x hx => by simp at hx; rcases hx with rfl | rfl <;> first | exact HT5.out.s0 | exact HT5.out.s1), HC9.out.set ⟨b, 1, none⟩ _ (by show g < b; omega), HM9.out.setNew ⟨b, 1, none⟩ (by show w.heap.size ≤ b; omega) _⟩
            · skip
              try simp only [Act.put, List.getElem_toArray, List.getElem_cons_succ, List.getElem_cons_zero, List.setIfInBounds_toArray, List.set_cons_zero, List.set_cons_succ]
              refine wpAny_ready (rs := [1]) (by kernel_rfl) (by simp) ?_
              refine (AllReady.cons rfl (fun K hK => ?_) AllReady.nil)
              go_simp
              obtain ⟨x17, hx17⟩ : ∃ u, x13.alloc (.cells M 5) = u := ⟨_, rfl⟩
              have hbx17 : Below x13.heap.size x13 x17 := by rw [← hx17]; exact (Below.refl _ _).alloc (Nat.le_refl _) _
              have HD : Hid (MadeB x17 x13.heap.size 41 g) := by show _; rw [← hx17]; exact madeB_of hMs hML HC9.out.lt (by omega)
              replace HT9 := hide (HT9.out.new hbx17)
              replace HC9 := hide (HC9.out.below hbx17)
              replace HM9 := hide (HM9.out.trans (Moves.of_below hbx17))
              rw [hx17]
              clear hx17 hbx17
              generalize x13.heap.size = qd at *
              refine hK _ _ ?_; clear hK K
              try simp only [Act.put, List.getElem_toArray, List.getElem_cons_succ, List.getElem_cons_zero, List.setIfInBounds_toArray, List.set_cons_zero, List.set_cons_succ]
              refine wpAny_ready (rs := [2]) (by kernel_rfl) (by simp) ?_
              refine (AllReady.cons rfl (fun K hK => ?_) AllReady.nil)
              obtain ⟨z, hzs, hcv⟩ := HD.out.text
              go_simp
              refine hK _ _ ?_; clear hK K hcv
              try simp only [Act.put, List.getElem_toArray, List.getElem_cons_succ, List.getElem_cons_zero, List.setIfInBounds_toArray, List.set_cons_zero, List.set_cons_succ]
              refine wpAny_ready (rs := [3]) (by kernel_rfl) (by simp) ?_
              refine (AllReady.cons rfl (fun K hK => ?_) AllReady.nil)
              go_simp
              obtain ⟨x19, hx19⟩ : ∃ u, x17.alloc (.cells #[.string ⟨#[]⟩, .string z] 9) = u := ⟨_, rfl⟩
              have hbx19 : Below x17.heap.size x17 x19 := by rw [← hx19]; exact (Below.refl _ _).alloc (Nat.le_refl _) _
              have HR : Hid (RowIs x19 x17.heap.size 9 [.string ⟨#[]⟩, .string z]) := by show _; rw [← hx19]; exact rowIs_new x17 _ _
              have hqr : x17.heap.size ≠ g := by have := HC9.out.lt; omega
              replace HT9 := hide (HT9.out.new hbx19)
              replace HC9 := hide (HC9.out.below hbx19)
              replace HD := hide (HD.out.new hbx19)
              replace HM9 := hide (HM9.out.trans (Moves.of_below hbx19))
              rw [hx19]
              clear hx19 hbx19
              generalize x17.heap.size = qr at *
              refine hK _ _ ?_; clear hK K
              try simp only [Act.put, List.getElem_toArray, List.getElem_cons_succ, List.getElem_cons_zero, List.setIfInBounds_toArray, List.set_cons_zero, List.set_cons_succ]
              refine wpAny_take (i := 6) (v := ?_) rfl (by kernel_rfl) (by kernel_rfl) (by kernel_rfl) (fun _ _ _ h => h) (Or.inl ⟨by rfl, ?_⟩) ?_; rotate_left; focus (intro uu; go_simp; try with_reducible rfl)
              try simp only [Act.put, List.getElem_toArray, List.getElem_cons_succ, List.getElem_cons_zero, List.setIfInBounds_toArray, List.set_cons_zero, List.set_cons_succ]
              have hx7 := HR.out.cell (j := 1) rfl
              refine wpAny_ready (rs := [7]) (by kernel_rfl) (by simp) ?_
              refine (AllReady.cons rfl (fun K hK => ?_) AllReady.nil)
              go_simp
              refine hK _ _ ?_; clear hK K hx7
              try simp only [Act.put, List.getElem_toArray, List.getElem_cons_succ, List.getElem_cons_zero, List.setIfInBounds_toArray, List.set_cons_zero, List.set_cons_succ]
              refine wpAny_take (i := 8) (v := ?_) rfl (by kernel_rfl) (by kernel_rfl) (by kernel_rfl) (fun _ _ _ h => h) (Or.inl ⟨by rfl, ?_⟩) ?_; rotate_left; focus (intro uu; go_simp; try with_reducible rfl)
              try simp only [Act.put, List.getElem_toArray, List.getElem_cons_succ, List.getElem_cons_zero, List.setIfInBounds_toArray, List.set_cons_zero, List.set_cons_succ]
              refine wpAny_take (i := 9) (v := ?_) rfl (by kernel_rfl) (by kernel_rfl) (by kernel_rfl) (fun _ _ _ h => h) (Or.inl ⟨by rfl, ?_⟩) ?_; rotate_left; focus (intro uu; go_simp; try with_reducible rfl)
              try simp only [Act.put, List.getElem_toArray, List.getElem_cons_succ, List.getElem_cons_zero, List.setIfInBounds_toArray, List.set_cons_zero, List.set_cons_succ]
              have y0 := RowIs.cell (j := 0) HT9.out.row rfl; have y1 := RowIs.cell (j := 1) HT9.out.row rfl; have y2 := RowIs.cell (j := 2) HT9.out.row rfl; have y3 := RowIs.cell (j := 3) HT9.out.row rfl; have y4 := RowIs.cell (j := 4) HT9.out.row rfl; have y5 := RowIs.cell (j := 5) HT9.out.row rfl; have y6 := RowIs.cell (j := 6) HT9.out.row rfl; have y7 := RowIs.cell (j := 7) HT9.out.row rfl; have y9 := fun j => RowIs.frozen HT9.out.row j; have y8 := HT9.out.row.lt
              have HT5 := hide (HT9.out.set 1 (.string z) (⟨t0.1.nm, z, t0.1.list, t0.1.quota⟩, t0.2) t1 rfl HT9.out.l0 HT9.out.l1 ⟨HT9.out.s0.1, by show ByteArray.size z ≤ 100; omega, HT9.out.s0.2.2⟩ HT9.out.s1)
              refine wpAny_ready (rs := [10]) (by kernel_rfl) (by simp) ?_
              refine (AllReady.cons rfl (fun K hK => ?_) AllReady.nil)
              go_simp
              refine hK _ _ ?_; clear hK K
              refine wpAny_done (by kernel_rfl) ?_ _
              go_wp2_with fail
              go_ret
              first | exact ⟨_, _, rfl, HT5.out.st0, by simp, (fun x hx => by simp at hx; rcases hx with rfl | rfl <;> first | exact HT5.out.s0 | exact HT5.out.s1), HC9.out.set ⟨b, 1, none⟩ _ (by show g < b; omega), HM9.out.setNew ⟨b, 1, none⟩ (by show w.heap.size ≤ b; omega) _⟩ | exact ⟨_, rfl, _, HT5.out.st0, by simp, (fun x hx => by simp at hx; rcases hx with rfl | rfl <;> first | exact HT5.out.s0 | exact HT5.out.s1), HC9.out.set ⟨b, 1, none⟩ _ (by show g < b; omega), HM9.out.setNew ⟨b, 1, none⟩ (by show w.heap.size ≤ b; omega) _⟩
        · skip
          obtain ⟨VA, hVA⟩ : ∃ V, w3.alloc (.cells #[.int .i64 (-1), .int .i64 20, .int .i64 21] 2) = V := ⟨_, rfl⟩
          have RA : RowIs VA w3.heap.size 2 [.int .i64 (-1), .int .i64 20, .int .i64 21] := by rw [← hVA]; exact rowIs_new w3 _ _
          have hbA : Below w3.heap.size w3 VA := by rw [← hVA]; exact (Below.refl _ _).alloc (Nat.le_refl _) _
          have hl3 := HC3.out.lt
          go_wp2_with fail
          (try rw [hVA])
          clear hVA
          refine (below1 g B 3 _ (HC3.out.below hbA) (by omega)).mono ?_; rintro e w4 ⟨q, q0, q1, _, rfl, hc4, hm4⟩
          have q6 := q1 (by omega)
          replace RA := RA.moves hm4 (by omega)
          obtain ⟨qn, rfl⟩ : ∃ n : Nat, q = n := ⟨q.toNat, by omega⟩
          obtain ⟨z, hz⟩ : ∃ z : Int, w4.cell? ⟨w3.heap.size, qn, none⟩ = some (.int .i64 z) := by
            have : qn = 0 ∨ qn = 1 ∨ qn = 2 := by omega
            rcases this with rfl | rfl | rfl <;> exact ⟨_, RA.cell rfl⟩
          have hlA := RA.lt
          have HT4 := hide ((HT3.out.new hbA).moves hm4)
          have HM4 := hide ((HM3.out.trans (Moves.of_below hbA)).trans hm4)
          have HC4 := hide hc4
          have y0 := RowIs.cell (j := 0) HT4.out.row rfl; have y1 := RowIs.cell (j := 1) HT4.out.row rfl; have y2 := RowIs.cell (j := 2) HT4.out.row rfl; have y3 := RowIs.cell (j := 3) HT4.out.row rfl; have y4 := RowIs.cell (j := 4) HT4.out.row rfl; have y5 := RowIs.cell (j := 5) HT4.out.row rfl; have y6 := RowIs.cell (j := 6) HT4.out.row rfl; have y7 := RowIs.cell (j := 7) HT4.out.row rfl; have y9 := fun j => RowIs.frozen HT4.out.row j; have y8 := HT4.out.row.lt
          have HT5 := hide (HT4.out.set 3 (.int .i64 z) (⟨t0.1.nm, t0.1.key, t0.1.list, z⟩, t0.2) t1 rfl HT4.out.l0 HT4.out.l1 HT4.out.s0 HT4.out.s1)
          clear q1 RA hbA hm4 HT3 HC3 HM3 hc4
          go_wp2_with fail
          go_ret
          first | exact ⟨_, _, rfl, HT5.out.st0, by simp, (fun x hx => by simp at hx; rcases hx with rfl | rfl <;> first | exact HT5.out.s0 | exact HT5.out.s1), HC4.out.set ⟨b, 3, none⟩ _ (by show g < b; omega), HM4.out.setNew ⟨b, 3, none⟩ (by show w.heap.size ≤ b; omega) _⟩ | exact ⟨_, rfl, _, HT5.out.st0, by simp, (fun x hx => by simp at hx; rcases hx with rfl | rfl <;> first | exact HT5.out.s0 | exact HT5.out.s1), HC4.out.set ⟨b, 3, none⟩ _ (by show g < b; omega), HM4.out.setNew ⟨b, 3, none⟩ (by show w.heap.size ≤ b; omega) _⟩
        · skip
          have HR0 := hide HT3.out.reads0
          have HL0 : Hid (∀ t ∈ ([t0, t1] : List (TenantD × Value)), LsAt w3 w.heap.size g t.2 t.1.list ∧ smT t.1) := fun t ht => by
            simp at ht
            rcases ht with rfl | rfl <;> first | exact ⟨HT3.out.l0, HT3.out.s0⟩ | exact ⟨HT3.out.l1, HT3.out.s1⟩
          have hgl := HT3.out.l0.lt
          clear HT3
          go_wp2_with fail
          go_loopw [3] (fun s wr => ∃ (T : List (TenantD × Value)) (b1 o1 p : Nat), s = .slice (some ⟨b1, o1, none⟩) T.length p ∧ 1 ≤ T.length ∧ T.length ≤ 9 ∧ w.heap.size ≤ b1 ∧ Hid (Reads wr (.slice (some ⟨b1, o1, none⟩) T.length p) T.length 4 (T.flatMap tcs)) ∧ Hid (p = T.length ∨ wr.ownsRow w.heap.size 32 4 (.slice (some ⟨b1, o1, none⟩) T.length p) T.length (T.flatMap tcs)) ∧ Hid (∀ t ∈ T, LsAt wr w.heap.size g t.2 t.1.list ∧ smT t.1) ∧ Hid (Cur wr g B) ∧ Hid (Moves g w wr)) (fun s _ => 9 - lenS15 s)
          case atStart => exact ⟨[t0, t1], b, 0, 2, rfl, by simp, by simp, hbb, HR0, .inl rfl, HL0, HC3, HM3⟩
          case round =>
            clear HR0 HL0 HC3 HM3
            obtain ⟨T, b1, o1, p, rfl, hT1, hT9, hb1, HR, HO, HL, HC, HM⟩ := hrel
            by_cases hlt : T.length < 9
            rotate_left
            · have hltI : ¬ (T.length : Int) < 9 := by omega
              go_wp2_with fail
              go_ret
              first | exact ⟨_, _, rfl, st_of T (fun u' hm => HR.out.kept hm.size (fun k hk hl => hm.block k hl (by simp [Value.ownBlock] at hk; omega))) HL.out, by simpa using hT9, (fun x hx => by obtain ⟨t, ht, rfl⟩ := List.mem_map.1 hx; exact (HL.out t ht).2), HC.out, HM.out⟩ | exact ⟨_, rfl, _, st_of T (fun u' hm => HR.out.kept hm.size (fun k hk hl => hm.block k hl (by simp [Value.ownBlock] at hk; omega))) HL.out, by simpa using hT9, (fun x hx => by obtain ⟨t, ht, rfl⟩ := List.mem_map.1 hx; exact (HL.out t ht).2), HC.out, HM.out⟩
            have hltI : (T.length : Int) < 9 := by omega
            have hT0 : (0 : Int) < T.length := by omega
            obtain ⟨t, T', rfl⟩ : ∃ t T', T = t :: T' := by
              cases T with
              | nil => simp at hT1
              | cons t T' => exact ⟨t, T', rfl⟩
            have hlb : b1 < wr.heap.size := by obtain ⟨_, _, _, he, _, _, h4⟩ := HR.out; obtain ⟨b', o', e1, hb', _⟩ := h4 (by omega); simp only [Value.slice.injEq] at he; rw [← he.1] at e1; simp at e1; omega
            have hc := reads_add HR.out (by omega)
            have hadd : ∀ j, (⟨b1, o1, none⟩ : Addr).add j = ⟨b1, o1 + j, none⟩ := fun j => by unfold Addr.add; split <;> simp_all
            simp only [hadd] at hc
            have c0 : wr.cell? ⟨b1, o1, none⟩ = _ := hc 0 _ rfl
            have c1 := hc 1 _ rfl
            have c2 := hc 2 _ rfl
            have c3 := hc 3 _ rfl
            obtain ⟨al, pl, hal, _⟩ := owns_form (HL.out t (by simp)).1.own
            rw [hal] at c2
            clear hc hadd
            have hX : Below wr.heap.size wr (wr.alloc (.cells #[.string t.1.nm, .string t.1.key, .slice al t.1.list.length pl, .int .i64 t.1.quota] 32)) := (Below.refl _ _).alloc (Nat.le_refl _) _
            have RX := rowIs_new wr 32 [.string t.1.nm, .string t.1.key, .slice al t.1.list.length pl, .int .i64 t.1.quota]
            have hrX := reads_row RX 0 1 [.string t.1.nm, .string t.1.key, .slice al t.1.list.length pl, .int .i64 t.1.quota] rfl (by omega) (fun j x hj => by simpa using hj)
            have hone : ∀ y ∈ ([.string t.1.nm, .string t.1.key, .slice al t.1.list.length pl, .int .i64 t.1.quota] : List Value), y.oneCell' = true := by intro y hy; simp at hy; rcases hy with rfl | rfl | rfl | rfl <;> rfl
            have hfl : ((t :: T').flatMap tcs) ++ [.string t.1.nm, .string t.1.key, .slice al t.1.list.length pl, .int .i64 t.1.quota] = ((t :: T') ++ [t]).flatMap tcs := by rw [List.flatMap_append, List.flatMap_cons (xs := []), List.flatMap_nil, List.append_nil]; unfold tcs; rw [hal]
            have hln : ((t :: T') ++ [t]).length = (t :: T').length + 1 := by simp
            have HFL := hide hfl
            obtain ⟨N, hN⟩ : ∃ N, (t :: T').length = N := ⟨_, rfl⟩
            have hrd := HR.out
            have hoo := HO.out
            rw [hN] at hrd hoo hln
            obtain ⟨FX, hFX⟩ : ∃ X, (t :: T').flatMap tcs = X := ⟨_, rfl⟩
            rw [hFX] at hrd hoo HFL
            clear hfl
            try rw [hN]
            rcases hoo with hpn | hown
            · subst hpn
              have hrY := hrd.new hX
              go_wp2_with (at_builtin; go_must (refine wpList_app_full _ (by rfl) _ _ 24 (by rfl) 32 (.agg #[.string ⟨#[]⟩, .string ⟨#[]⟩, .slice none 0 0, .int .i64 0]) 4 64 Tryz.underlying24 (by kernel_rfl) rfl b1 o1 p p FX (by rfl) hrY (by omega) _ 0 1 1 _ (by rfl) hrX (by omega) (by omega) (by omega) (by decide) ?_))
              intro ad9 cp9 w9 hown9 hb9
              rw [HFL.out] at hown9
              have hbY := hX.trans (hb9.mono (by omega))
              obtain ⟨q9, cq, hq9, _, hq9b, _⟩ := owns_open hown9 (by omega)
              simp only [Value.slice.injEq] at hq9
              obtain ⟨rfl, _, rfl⟩ := hq9
              have hs9 := HM.out.size
              have hzX := hX.size
              have HO9 := hide (owns_base hown9 (base' := w.heap.size) (fun k hk => by simp [Value.ownBlock] at hk; omega))
              have HL9 : Hid (∀ x ∈ (t :: T') ++ [t], LsAt w9 w.heap.size g x.2 x.1.list ∧ smT x.1) := fun x hx => by
                have hx' : x ∈ t :: T' := by simp at hx ⊢; rcases hx with h | h | h <;> simp [h]
                exact ⟨(HL.out x hx').1.new hbY, (HL.out x hx').2⟩
              have HC9 := hide (HC.out.below hbY)
              have HM9 := hide (HM.out.trans (Moves.of_below hbY))
              go_wp2_with fail
              go_roundw
              case rel => exact ⟨(t :: T') ++ [t], q9, 0, cp9, by rw [hln], by rw [hln]; omega, by rw [hln]; omega, by omega, by rw [hln]; exact reads_of_owns HO9.out, .inr (by rw [hln]; exact HO9.out), HL9, HC9, HM9⟩
              case measure => simp [lenS15]; omega
            · have hoY := owns_new hown hX
              go_wp2_with (at_builtin; go_must (refine wpList_app _ (by rfl) _ _ 24 (by rfl) 32 (.agg #[.string ⟨#[]⟩, .string ⟨#[]⟩, .slice none 0 0, .int .i64 0]) 4 64 Tryz.underlying24 (by kernel_rfl) rfl (by decide) w.heap.size _ N FX (by rfl) hoY _ 1 _ (by rfl) hrX hone (by omega) (by decide) (by have := HM.out.size; have := hX.size; omega) ?_))
              intro ad9 cp9 w9 hown9 hg9 hat9
              rw [HFL.out] at hown9
              obtain ⟨q9, cq, hq9, _, hq9b, _⟩ := owns_open hown9 (by omega)
              simp only [Value.slice.injEq] at hq9
              obtain ⟨rfl, _, rfl⟩ := hq9
              have HO9 := hide hown9
              have HL9 : Hid (∀ x ∈ (t :: T') ++ [t], LsAt w9 w.heap.size g x.2 x.1.list ∧ smT x.1) := fun x hx => by
                have hx' : x ∈ t :: T' := by simp at hx ⊢; rcases hx with h | h | h <;> simp [h]
                exact ⟨ls_grown ((HL.out x hx').1.new hX) hoY hg9, (HL.out x hx').2⟩
              have HC9 := hide (cur_grown (HC.out.below hX) hg9 (fun k hk => by have := (hoY.lt k hk).1; omega))
              have HM9 := hide (moves_grown (HM.out.trans (Moves.of_below hX)) hg9 (fun k hk => (hoY.lt k hk).1))
              go_wp2_with fail
              go_roundw
              case rel => exact ⟨(t :: T') ++ [t], q9, 0, cp9, by rw [hln], by rw [hln]; omega, by rw [hln]; omega, by omega, by rw [hln]; exact reads_of_owns HO9.out, .inr (by rw [hln]; exact HO9.out), HL9, HC9, HM9⟩
              case measure => simp [lenS15]; omega
      · skip
        go_wp2_with fail
        refine (once1 g B 12 _ HC1.out (by omega)).mono ?_; rintro e w2 ⟨b2, rfl, hc2, hm2⟩
        have HT2 := hide (HT1.out.moves hm2)
        have HC2 := hide hc2
        have HM2 := hide (HM1.out.trans hm2)
        clear HT1 HC1 HM1 hc2 hm2
        cases b2
        · skip
          go_wp2_with fail
          go_ret
          first | exact ⟨_, _, rfl, HT2.out.st1, by simp, (fun x hx => by simp at hx; subst hx; exact HT2.out.s1), HC2.out, HM2.out⟩ | exact ⟨_, rfl, _, HT2.out.st1, by simp, (fun x hx => by simp at hx; subst hx; exact HT2.out.s1), HC2.out, HM2.out⟩
        go_wp2_with fail
        refine (below1 g B 4 _ HC2.out (by omega)).mono ?_; rintro e w3 ⟨m, m0, m1, _, rfl, hc3, hm3⟩
        have m4 := m1 (by omega)
        have HT3 := hide (HT2.out.moves hm3)
        have HC3 := hide hc3
        have HM3 := hide (HM2.out.trans hm3)
        clear HT2 HC2 HM2 hc3 hm3 m1
        have hgb : g < b := by have := HT3.out.l0.lt; omega
        have hmm : m = 0 ∨ m = 1 ∨ m = 2 ∨ m = 3 := by omega
        rcases hmm with rfl | rfl | rfl | rfl
        · skip
          go_wp2_with fail
          refine (drawName14 g B _ HC3.out).mono ?_; rintro e w4 ⟨z, hz, rfl, hc4, hm4⟩
          have HT4 := hide (HT3.out.moves hm4)
          have HC4 := hide hc4
          have HM4 := hide (HM3.out.trans hm4)
          have y0 := RowIs.cell (j := 0) HT4.out.row rfl; have y1 := RowIs.cell (j := 1) HT4.out.row rfl; have y2 := RowIs.cell (j := 2) HT4.out.row rfl; have y3 := RowIs.cell (j := 3) HT4.out.row rfl; have y4 := RowIs.cell (j := 4) HT4.out.row rfl; have y5 := RowIs.cell (j := 5) HT4.out.row rfl; have y6 := RowIs.cell (j := 6) HT4.out.row rfl; have y7 := RowIs.cell (j := 7) HT4.out.row rfl; have y9 := fun j => RowIs.frozen HT4.out.row j; have y8 := HT4.out.row.lt
          have HT5 := hide (HT4.out.set 4 (.string z) t0 (⟨z, t1.1.key, t1.1.list, t1.1.quota⟩, t1.2) rfl HT4.out.l0 HT4.out.l1 HT4.out.s0 ⟨by show z.size ≤ 100; omega, HT4.out.s1.2⟩)
          clear HT3 HC3 HM3 hc4 hm4
          go_wp2_with fail
          go_ret
          first | exact ⟨_, _, rfl, HT5.out.st1, by simp, (fun x hx => by simp at hx; subst hx; exact HT5.out.s1), HC4.out.set ⟨b, 4, none⟩ _ (by show g < b; omega), HM4.out.setNew ⟨b, 4, none⟩ (by show w.heap.size ≤ b; omega) _⟩ | exact ⟨_, rfl, _, HT5.out.st1, by simp, (fun x hx => by simp at hx; subst hx; exact HT5.out.s1), HC4.out.set ⟨b, 4, none⟩ _ (by show g < b; omega), HM4.out.setNew ⟨b, 4, none⟩ (by show w.heap.size ≤ b; omega) _⟩
        · skip
          obtain ⟨M, hMs, hML, hmk⟩ := make_bytesF 41 (by omega)
          have hmk' : ∀ X : World, (Instr.makeSlice 22 (.int .i64 41) (.int .i64 41)).run Tryz.prog X = .ok (.slice (some ⟨X.heap.size, 0, none⟩) 41 41) (X.alloc (.cells M 5)) := fun X => by have := hmk X; exact this
          clear hmk
          go_wp2_with fail
          refine wp_region_any (by kernel_rfl) ?_
          change wpAny _ _ _ _ _ _ _ (World.drew _)
          have HT9 : Hid (TwoAt (World.drew w3) w.heap.size g b t0 t1) := hide (HT3.out.new (Below.refl _ _).drew)
          have HC9 : Hid (Cur (World.drew w3) g B) := hide HC3.out.drew
          have HM9 : Hid (Moves g w (World.drew w3)) := hide HM3.out.drew
          clear HT3 HC3 HM3
          generalize World.drew w3 = u0 at *
          refine wpAny_take (i := 0) (v := ?_) rfl (by kernel_rfl) (by kernel_rfl) (by kernel_rfl) (fun _ _ _ h => h) (Or.inl ⟨by rfl, ?_⟩) ?_; rotate_left; focus (intro uu; go_simp; try with_reducible rfl)
          try simp only [Act.put, List.getElem_toArray, List.getElem_cons_succ, List.getElem_cons_zero, List.setIfInBounds_toArray, List.set_cons_zero, List.set_cons_succ]
          refine wpAny_take (i := 4) (v := ?_) rfl (by kernel_rfl) (by kernel_rfl) (by kernel_rfl) (fun _ _ _ h => h) (Or.inl ⟨by rfl, ?_⟩) ?_; rotate_left; focus (intro uu; go_simp; try with_reducible rfl)
          try simp only [Act.put, List.getElem_toArray, List.getElem_cons_succ, List.getElem_cons_zero, List.setIfInBounds_toArray, List.set_cons_zero, List.set_cons_succ]
          refine wpAny_ready (rs := [1, 5]) (by kernel_rfl) (by simp) ?_
          refine (AllReady.cons rfl (fun K hK => ?_) (AllReady.cons rfl (fun K hK => ?_) AllReady.nil))
          · skip
            go_simp
            obtain ⟨x1, hx1⟩ : ∃ u, u0.alloc (.cells M 5) = u := ⟨_, rfl⟩
            have hbx1 : Below u0.heap.size u0 x1 := by rw [← hx1]; exact (Below.refl _ _).alloc (Nat.le_refl _) _
            have HD : Hid (MadeB x1 u0.heap.size 41 g) := by show _; rw [← hx1]; exact madeB_of hMs hML HC9.out.lt (by omega)
            replace HT9 := hide (HT9.out.new hbx1)
            replace HC9 := hide (HC9.out.below hbx1)
            replace HM9 := hide (HM9.out.trans (Moves.of_below hbx1))
            rw [hx1]
            clear hx1 hbx1
            generalize u0.heap.size = qd at *
            refine hK _ _ ?_; clear hK K
            try simp only [Act.put, List.getElem_toArray, List.getElem_cons_succ, List.getElem_cons_zero, List.setIfInBounds_toArray, List.set_cons_zero, List.set_cons_succ]
            refine wpAny_ready (rs := [2, 5]) (by kernel_rfl) (by simp) ?_
            refine (AllReady.cons rfl (fun K hK => ?_) (AllReady.cons rfl (fun K hK => ?_) AllReady.nil))
            · skip
              obtain ⟨z, hzs, hcv⟩ := HD.out.text
              go_simp
              refine hK _ _ ?_; clear hK K hcv
              try simp only [Act.put, List.getElem_toArray, List.getElem_cons_succ, List.getElem_cons_zero, List.setIfInBounds_toArray, List.set_cons_zero, List.set_cons_succ]
              refine wpAny_ready (rs := [3, 5]) (by kernel_rfl) (by simp) ?_
              refine (AllReady.cons rfl (fun K hK => ?_) (AllReady.cons rfl (fun K hK => ?_) AllReady.nil))
              · skip
                go_simp
                obtain ⟨x3, hx3⟩ : ∃ u, x1.alloc (.cells #[.string ⟨#[]⟩, .string z] 9) = u := ⟨_, rfl⟩
                have hbx3 : Below x1.heap.size x1 x3 := by rw [← hx3]; exact (Below.refl _ _).alloc (Nat.le_refl _) _
                have HR : Hid (RowIs x3 x1.heap.size 9 [.string ⟨#[]⟩, .string z]) := by show _; rw [← hx3]; exact rowIs_new x1 _ _
                have hqr : x1.heap.size ≠ g := by have := HC9.out.lt; omega
                replace HT9 := hide (HT9.out.new hbx3)
                replace HC9 := hide (HC9.out.below hbx3)
                replace HD := hide (HD.out.new hbx3)
                replace HM9 := hide (HM9.out.trans (Moves.of_below hbx3))
                rw [hx3]
                clear hx3 hbx3
                generalize x1.heap.size = qr at *
                refine hK _ _ ?_; clear hK K
                try simp only [Act.put, List.getElem_toArray, List.getElem_cons_succ, List.getElem_cons_zero, List.setIfInBounds_toArray, List.set_cons_zero, List.set_cons_succ]
                refine wpAny_ready (rs := [5]) (by kernel_rfl) (by simp) ?_
                refine (AllReady.cons rfl (fun K hK => ?_) AllReady.nil)
                go_simp
                refine (below1 g B 2 _ HC9.out (by omega)).mono ?_; rintro e x4 ⟨q, q0, q1, _, rfl, hcx, hmx⟩
                have q2 := q1 (by omega)
                replace HT9 := hide (HT9.out.moves hmx)
                replace HD := hide (HD.out.moves hmx)
                replace HR := hide (HR.out.moves hmx hqr)
                replace HM9 := hide (HM9.out.trans hmx)
                replace HC9 := hide hcx
                clear hcx hmx q1
                have hqq : q = 0 ∨ q = 1 := by omega
                refine hK _ _ ?_; clear hK K
                rcases hqq with rfl | rfl
                · skip
                  try simp only [Act.put, List.getElem_toArray, List.getElem_cons_succ, List.getElem_cons_zero, List.setIfInBounds_toArray, List.set_cons_zero, List.set_cons_succ]
                  refine wpAny_take (i := 6) (v := ?_) rfl (by kernel_rfl) (by kernel_rfl) (by kernel_rfl) (fun _ _ _ h => h) (Or.inl ⟨by rfl, ?_⟩) ?_; rotate_left; focus (intro uu; go_simp; try with_reducible rfl)
                  try simp only [Act.put, List.getElem_toArray, List.getElem_cons_succ, List.getElem_cons_zero, List.setIfInBounds_toArray, List.set_cons_zero, List.set_cons_succ]
                  have hx7 := HR.out.cell (j := 0) rfl
                  refine wpAny_ready (rs := [7]) (by kernel_rfl) (by simp) ?_
                  refine (AllReady.cons rfl (fun K hK => ?_) AllReady.nil)
                  go_simp
                  refine hK _ _ ?_; clear hK K hx7
                  try simp only [Act.put, List.getElem_toArray, List.getElem_cons_succ, List.getElem_cons_zero, List.setIfInBounds_toArray, List.set_cons_zero, List.set_cons_succ]
                  refine wpAny_take (i := 8) (v := ?_) rfl (by kernel_rfl) (by kernel_rfl) (by kernel_rfl) (fun _ _ _ h => h) (Or.inl ⟨by rfl, ?_⟩) ?_; rotate_left; focus (intro uu; go_simp; try with_reducible rfl)
                  try simp only [Act.put, List.getElem_toArray, List.getElem_cons_succ, List.getElem_cons_zero, List.setIfInBounds_toArray, List.set_cons_zero, List.set_cons_succ]
                  refine wpAny_take (i := 9) (v := ?_) rfl (by kernel_rfl) (by kernel_rfl) (by kernel_rfl) (fun _ _ _ h => h) (Or.inl ⟨by rfl, ?_⟩) ?_; rotate_left; focus (intro uu; go_simp; try with_reducible rfl)
                  try simp only [Act.put, List.getElem_toArray, List.getElem_cons_succ, List.getElem_cons_zero, List.setIfInBounds_toArray, List.set_cons_zero, List.set_cons_succ]
                  have y0 := RowIs.cell (j := 0) HT9.out.row rfl; have y1 := RowIs.cell (j := 1) HT9.out.row rfl; have y2 := RowIs.cell (j := 2) HT9.out.row rfl; have y3 := RowIs.cell (j := 3) HT9.out.row rfl; have y4 := RowIs.cell (j := 4) HT9.out.row rfl; have y5 := RowIs.cell (j := 5) HT9.out.row rfl; have y6 := RowIs.cell (j := 6) HT9.out.row rfl; have y7 := RowIs.cell (j := 7) HT9.out.row rfl; have y9 := fun j => RowIs.frozen HT9.out.row j; have y8 := HT9.out.row.lt
                  have HT5 := hide (HT9.out.set 5 (.string ⟨#[]⟩) t0 (⟨t1.1.nm, ⟨#[]⟩, t1.1.list, t1.1.quota⟩, t1.2) rfl HT9.out.l0 HT9.out.l1 HT9.out.s0 ⟨HT9.out.s1.1, by show ByteArray.size ⟨#[]⟩ ≤ 100; decide, HT9.out.s1.2.2⟩)
                  refine wpAny_ready (rs := [10]) (by kernel_rfl) (by simp) ?_
                  refine (AllReady.cons rfl (fun K hK => ?_) AllReady.nil)
                  go_simp
                  refine hK _ _ ?_; clear hK K
                  refine wpAny_done (by kernel_rfl) ?_ _
                  go_wp2_with fail
                  go_ret
                  first | exact ⟨_, _, rfl, HT5.out.st1, by simp, (fun x hx => by simp at hx; subst hx; exact HT5.out.s1), HC9.out.set ⟨b, 5, none⟩ _ (by show g < b; omega), HM9.out.setNew ⟨b, 5, none⟩ (by show w.heap.size ≤ b; omega) _⟩ | exact ⟨_, rfl, _, HT5.out.st1, by simp, (fun x hx => by simp at hx; subst hx; exact HT5.out.s1), HC9.out.set ⟨b, 5, none⟩ _ (by show g < b; omega), HM9.out.setNew ⟨b, 5, none⟩ (by show w.heap.size ≤ b; omega) _⟩
                · skip
                  try simp only [Act.put, List.getElem_toArray, List.getElem_cons_succ, List.getElem_cons_zero, List.setIfInBounds_toArray, List.set_cons_zero, List.set_cons_succ]
                  refine wpAny_take (i := 6) (v := ?_) rfl (by kernel_rfl) (by kernel_rfl) (by kernel_rfl) (fun _ _ _ h => h) (Or.inl ⟨by rfl, ?_⟩) ?_; rotate_left; focus (intro uu; go_simp; try with_reducible rfl)
                  try simp only [Act.put, List.getElem_toArray, List.getElem_cons_succ, List.getElem_cons_zero, List.setIfInBounds_toArray, List.set_cons_zero, List.set_cons_succ]
                  have hx7 := HR.out.cell (j := 1) rfl
                  refine wpAny_ready (rs := [7]) (by kernel_rfl) (by simp) ?_
                  refine (AllReady.cons rfl (fun K hK => ?_) AllReady.nil)
                  go_simp
                  refine hK _ _ ?_; clear hK K hx7
                  try simp only [Act.put, List.getElem_toArray, List.getElem_cons_succ, List.getElem_cons_zero, List.setIfInBounds_toArray, List.set_cons_zero, List.set_cons_succ]
                  refine wpAny_take (i := 8) (v := ?_) rfl (by kernel_rfl) (by kernel_rfl) (by kernel_rfl) (fun _ _ _ h => h) (Or.inl ⟨by rfl, ?_⟩) ?_; rotate_left; focus (intro uu; go_simp; try with_reducible rfl)
                  try simp only [Act.put, List.getElem_toArray, List.getElem_cons_succ, List.getElem_cons_zero, List.setIfInBounds_toArray, List.set_cons_zero, List.set_cons_succ]
                  refine wpAny_take (i := 9) (v := ?_) rfl (by kernel_rfl) (by kernel_rfl) (by kernel_rfl) (fun _ _ _ h => h) (Or.inl ⟨by rfl, ?_⟩) ?_; rotate_left; focus (intro uu; go_simp; try with_reducible rfl)
                  try simp only [Act.put, List.getElem_toArray, List.getElem_cons_succ, List.getElem_cons_zero, List.setIfInBounds_toArray, List.set_cons_zero, List.set_cons_succ]
                  have y0 := RowIs.cell (j := 0) HT9.out.row rfl; have y1 := RowIs.cell (j := 1) HT9.out.row rfl; have y2 := RowIs.cell (j := 2) HT9.out.row rfl; have y3 := RowIs.cell (j := 3) HT9.out.row rfl; have y4 := RowIs.cell (j := 4) HT9.out.row rfl; have y5 := RowIs.cell (j := 5) HT9.out.row rfl; have y6 := RowIs.cell (j := 6) HT9.out.row rfl; have y7 := RowIs.cell (j := 7) HT9.out.row rfl; have y9 := fun j => RowIs.frozen HT9.out.row j; have y8 := HT9.out.row.lt
                  have HT5 := hide (HT9.out.set 5 (.string z) t0 (⟨t1.1.nm, z, t1.1.list, t1.1.quota⟩, t1.2) rfl HT9.out.l0 HT9.out.l1 HT9.out.s0 ⟨HT9.out.s1.1, by show ByteArray.size z ≤ 100; omega, HT9.out.s1.2.2⟩)
                  refine wpAny_ready (rs := [10]) (by kernel_rfl) (by simp) ?_
                  refine (AllReady.cons rfl (fun K hK => ?_) AllReady.nil)
                  go_simp
                  refine hK _ _ ?_; clear hK K
                  refine wpAny_done (by kernel_rfl) ?_ _
                  go_wp2_with fail
                  go_ret
                  first | exact ⟨_, _, rfl, HT5.out.st1, by simp, (fun x hx => by simp at hx; subst hx; exact HT5.out.s1), HC9.out.set ⟨b, 5, none⟩ _ (by show g < b; omega), HM9.out.setNew ⟨b, 5, none⟩ (by show w.heap.size ≤ b; omega) _⟩ | exact ⟨_, rfl, _, HT5.out.st1, by simp, (fun x hx => by simp at hx; subst hx; exact HT5.out.s1), HC9.out.set ⟨b, 5, none⟩ _ (by show g < b; omega), HM9.out.setNew ⟨b, 5, none⟩ (by show w.heap.size ≤ b; omega) _⟩
              · skip
                go_simp
                refine (below1 g B 2 _ HC9.out (by omega)).mono ?_; rintro e x5 ⟨q, q0, q1, _, rfl, hcx, hmx⟩
                have q2 := q1 (by omega)
                replace HT9 := hide (HT9.out.moves hmx)
                replace HD := hide (HD.out.moves hmx)
                replace HM9 := hide (HM9.out.trans hmx)
                replace HC9 := hide hcx
                clear hcx hmx q1
                have hqq : q = 0 ∨ q = 1 := by omega
                refine hK _ _ ?_; clear hK K
                rcases hqq with rfl | rfl
                · skip
                  try simp only [Act.put, List.getElem_toArray, List.getElem_cons_succ, List.getElem_cons_zero, List.setIfInBounds_toArray, List.set_cons_zero, List.set_cons_succ]
                  refine wpAny_ready (rs := [3]) (by kernel_rfl) (by simp) ?_
                  refine (AllReady.cons rfl (fun K hK => ?_) AllReady.nil)
                  go_simp
                  obtain ⟨x6, hx6⟩ : ∃ u, x5.alloc (.cells #[.string ⟨#[]⟩, .string z] 9) = u := ⟨_, rfl⟩
                  have hbx6 : Below x5.heap.size x5 x6 := by rw [← hx6]; exact (Below.refl _ _).alloc (Nat.le_refl _) _
                  have HR : Hid (RowIs x6 x5.heap.size 9 [.string ⟨#[]⟩, .string z]) := by show _; rw [← hx6]; exact rowIs_new x5 _ _
                  have hqr : x5.heap.size ≠ g := by have := HC9.out.lt; omega
                  replace HT9 := hide (HT9.out.new hbx6)
                  replace HC9 := hide (HC9.out.below hbx6)
                  replace HD := hide (HD.out.new hbx6)
                  replace HM9 := hide (HM9.out.trans (Moves.of_below hbx6))
                  rw [hx6]
                  clear hx6 hbx6
                  generalize x5.heap.size = qr at *
                  refine hK _ _ ?_; clear hK K
                  try simp only [Act.put, List.getElem_toArray, List.getElem_cons_succ, List.getElem_cons_zero, List.setIfInBounds_toArray, List.set_cons_zero, List.set_cons_succ]
                  refine wpAny_take (i := 6) (v := ?_) rfl (by kernel_rfl) (by kernel_rfl) (by kernel_rfl) (fun _ _ _ h => h) (Or.inl ⟨by rfl, ?_⟩) ?_; rotate_left; focus (intro uu; go_simp; try with_reducible rfl)
                  try simp only [Act.put, List.getElem_toArray, List.getElem_cons_succ, List.getElem_cons_zero, List.setIfInBounds_toArray, List.set_cons_zero, List.set_cons_succ]
                  have hx7 := HR.out.cell (j := 0) rfl
                  refine wpAny_ready (rs := [7]) (by kernel_rfl) (by simp) ?_
                  refine (AllReady.cons rfl (fun K hK => ?_) AllReady.nil)
                  go_simp
                  refine hK _ _ ?_; clear hK K hx7
                  try simp only [Act.put, List.getElem_toArray, List.getElem_cons_succ, List.getElem_cons_zero, List.setIfInBounds_toArray, List.set_cons_zero, List.set_cons_succ]
                  refine wpAny_take (i := 8) (v := ?_) rfl (by kernel_rfl) (by kernel_rfl) (by kernel_rfl) (fun _ _ _ h => h) (Or.inl ⟨by rfl, ?_⟩) ?_; rotate_left; focus (intro uu; go_simp; try with_reducible rfl)
                  try simp only [Act.put, List.getElem_toArray, List.getElem_cons_succ, List.getElem_cons_zero, List.setIfInBounds_toArray, List.set_cons_zero, List.set_cons_succ]
                  refine wpAny_take (i := 9) (v := ?_) rfl (by kernel_rfl) (by kernel_rfl) (by kernel_rfl) (fun _ _ _ h => h) (Or.inl ⟨by rfl, ?_⟩) ?_; rotate_left; focus (intro uu; go_simp; try with_reducible rfl)
                  try simp only [Act.put, List.getElem_toArray, List.getElem_cons_succ, List.getElem_cons_zero, List.setIfInBounds_toArray, List.set_cons_zero, List.set_cons_succ]
                  have y0 := RowIs.cell (j := 0) HT9.out.row rfl; have y1 := RowIs.cell (j := 1) HT9.out.row rfl; have y2 := RowIs.cell (j := 2) HT9.out.row rfl; have y3 := RowIs.cell (j := 3) HT9.out.row rfl; have y4 := RowIs.cell (j := 4) HT9.out.row rfl; have y5 := RowIs.cell (j := 5) HT9.out.row rfl; have y6 := RowIs.cell (j := 6) HT9.out.row rfl; have y7 := RowIs.cell (j := 7) HT9.out.row rfl; have y9 := fun j => RowIs.frozen HT9.out.row j; have y8 := HT9.out.row.lt
                  have HT5 := hide (HT9.out.set 5 (.string ⟨#[]⟩) t0 (⟨t1.1.nm, ⟨#[]⟩, t1.1.list, t1.1.quota⟩, t1.2) rfl HT9.out.l0 HT9.out.l1 HT9.out.s0 ⟨HT9.out.s1.1, by show ByteArray.size ⟨#[]⟩ ≤ 100; decide, HT9.out.s1.2.2⟩)
                  refine wpAny_ready (rs := [10]) (by kernel_rfl) (by simp) ?_
                  refine (AllReady.cons rfl (fun K hK => ?_) AllReady.nil)
                  go_simp
                  refine hK _ _ ?_; clear hK K
                  refine wpAny_done (by kernel_rfl) ?_ _
                  go_wp2_with fail
                  go_ret
                  first | exact ⟨_, _, rfl, HT5.out.st1, by simp, (fun x hx => by simp at hx; subst hx; exact HT5.out.s1), HC9.out.set ⟨b, 5, none⟩ _ (by show g < b; omega), HM9.out.setNew ⟨b, 5, none⟩ (by show w.heap.size ≤ b; omega) _⟩ | exact ⟨_, rfl, _, HT5.out.st1, by simp, (fun x hx => by simp at hx; subst hx; exact HT5.out.s1), HC9.out.set ⟨b, 5, none⟩ _ (by show g < b; omega), HM9.out.setNew ⟨b, 5, none⟩ (by show w.heap.size ≤ b; omega) _⟩
                · skip
                  try simp only [Act.put, List.getElem_toArray, List.getElem_cons_succ, List.getElem_cons_zero, List.setIfInBounds_toArray, List.set_cons_zero, List.set_cons_succ]
                  refine wpAny_ready (rs := [3]) (by kernel_rfl) (by simp) ?_
                  refine (AllReady.cons rfl (fun K hK => ?_) AllReady.nil)
                  go_simp
                  obtain ⟨x7, hx7⟩ : ∃ u, x5.alloc (.cells #[.string ⟨#[]⟩, .string z] 9) = u := ⟨_, rfl⟩
                  have hbx7 : Below x5.heap.size x5 x7 := by rw [← hx7]; exact (Below.refl _ _).alloc (Nat.le_refl _) _
                  have HR : Hid (RowIs x7 x5.heap.size 9 [.string ⟨#[]⟩, .string z]) := by show _; rw [← hx7]; exact rowIs_new x5 _ _
                  have hqr : x5.heap.size ≠ g := by have := HC9.out.lt; omega
                  replace HT9 := hide (HT9.out.new hbx7)
                  replace HC9 := hide (HC9.out.below hbx7)
                  replace HD := hide (HD.out.new hbx7)
                  replace HM9 := hide (HM9.out.trans (Moves.of_below hbx7))
                  rw [hx7]
                  clear hx7 hbx7
                  generalize x5.heap.size = qr at *
                  refine hK _ _ ?_; clear hK K
                  try simp only [Act.put, List.getElem_toArray, List.getElem_cons_succ, List.getElem_cons_zero, List.setIfInBounds_toArray, List.set_cons_zero, List.set_cons_succ]
                  refine wpAny_take (i := 6) (v := ?_) rfl (by kernel_rfl) (by kernel_rfl) (by kernel_rfl) (fun _ _ _ h => h) (Or.inl ⟨by rfl, ?_⟩) ?_; rotate_left; focus (intro uu; go_simp; try with_reducible rfl)
                  try simp only [Act.put, List.getElem_toArray, List.getElem_cons_succ, List.getElem_cons_zero, List.setIfInBounds_toArray, List.set_cons_zero, List.set_cons_succ]
                  have hx7 := HR.out.cell (j := 1) rfl
                  refine wpAny_ready (rs := [7]) (by kernel_rfl) (by simp) ?_
                  refine (AllReady.cons rfl (fun K hK => ?_) AllReady.nil)
                  go_simp
                  refine hK _ _ ?_; clear hK K hx7
                  try simp only [Act.put, List.getElem_toArray, List.getElem_cons_succ, List.getElem_cons_zero, List.setIfInBounds_toArray, List.set_cons_zero, List.set_cons_succ]
                  refine wpAny_take (i := 8) (v := ?_) rfl (by kernel_rfl) (by kernel_rfl) (by kernel_rfl) (fun _ _ _ h => h) (Or.inl ⟨by rfl, ?_⟩) ?_; rotate_left; focus (intro uu; go_simp; try with_reducible rfl)
                  try simp only [Act.put, List.getElem_toArray, List.getElem_cons_succ, List.getElem_cons_zero, List.setIfInBounds_toArray, List.set_cons_zero, List.set_cons_succ]
                  refine wpAny_take (i := 9) (v := ?_) rfl (by kernel_rfl) (by kernel_rfl) (by kernel_rfl) (fun _ _ _ h => h) (Or.inl ⟨by rfl, ?_⟩) ?_; rotate_left; focus (intro uu; go_simp; try with_reducible rfl)
                  try simp only [Act.put, List.getElem_toArray, List.getElem_cons_succ, List.getElem_cons_zero, List.setIfInBounds_toArray, List.set_cons_zero, List.set_cons_succ]
                  have y0 := RowIs.cell (j := 0) HT9.out.row rfl; have y1 := RowIs.cell (j := 1) HT9.out.row rfl; have y2 := RowIs.cell (j := 2) HT9.out.row rfl; have y3 := RowIs.cell (j := 3) HT9.out.row rfl; have y4 := RowIs.cell (j := 4) HT9.out.row rfl; have y5 := RowIs.cell (j := 5) HT9.out.row rfl; have y6 := RowIs.cell (j := 6) HT9.out.row rfl; have y7 := RowIs.cell (j := 7) HT9.out.row rfl; have y9 := fun j => RowIs.frozen HT9.out.row j; have y8 := HT9.out.row.lt
                  have HT5 := hide (HT9.out.set 5 (.string z) t0 (⟨t1.1.nm, z, t1.1.list, t1.1.quota⟩, t1.2) rfl HT9.out.l0 HT9.out.l1 HT9.out.s0 ⟨HT9.out.s1.1, by show ByteArray.size z ≤ 100; omega, HT9.out.s1.2.2⟩)
                  refine wpAny_ready (rs := [10]) (by kernel_rfl) (by simp) ?_
                  refine (AllReady.cons rfl (fun K hK => ?_) AllReady.nil)
                  go_simp
                  refine hK _ _ ?_; clear hK K
                  refine wpAny_done (by kernel_rfl) ?_ _
                  go_wp2_with fail
                  go_ret
                  first | exact ⟨_, _, rfl, HT5.out.st1, by simp, (fun x hx => by simp at hx; subst hx; exact HT5.out.s1), HC9.out.set ⟨b, 5, none⟩ _ (by show g < b; omega), HM9.out.setNew ⟨b, 5, none⟩ (by show w.heap.size ≤ b; omega) _⟩ | exact ⟨_, rfl, _, HT5.out.st1, by simp, (fun x hx => by simp at hx; subst hx; exact HT5.out.s1), HC9.out.set ⟨b, 5, none⟩ _ (by show g < b; omega), HM9.out.setNew ⟨b, 5, none⟩ (by show w.heap.size ≤ b; omega) _⟩
            · skip
              go_simp
              refine (below1 g B 2 _ HC9.out (by omega)).mono ?_; rintro e x8 ⟨q, q0, q1, _, rfl, hcx, hmx⟩
              have q2 := q1 (by omega)
              replace HT9 := hide (HT9.out.moves hmx)
              replace HD := hide (HD.out.moves hmx)
              replace HM9 := hide (HM9.out.trans hmx)
              replace HC9 := hide hcx
              clear hcx hmx q1
              have hqq : q = 0 ∨ q = 1 := by omega
              refine hK _ _ ?_; clear hK K
              rcases hqq with rfl | rfl
              · skip
                try simp only [Act.put, List.getElem_toArray, List.getElem_cons_succ, List.getElem_cons_zero, List.setIfInBounds_toArray, List.set_cons_zero, List.set_cons_succ]
                refine wpAny_ready (rs := [2]) (by kernel_rfl) (by simp) ?_
                refine (AllReady.cons rfl (fun K hK => ?_) AllReady.nil)
                obtain ⟨z, hzs, hcv⟩ := HD.out.text
                go_simp
                refine hK _ _ ?_; clear hK K hcv
                try simp only [Act.put, List.getElem_toArray, List.getElem_cons_succ, List.getElem_cons_zero, List.setIfInBounds_toArray, List.set_cons_zero, List.set_cons_succ]
                refine wpAny_ready (rs := [3]) (by kernel_rfl) (by simp) ?_
                refine (AllReady.cons rfl (fun K hK => ?_) AllReady.nil)
                go_simp
                obtain ⟨x10, hx10⟩ : ∃ u, x8.alloc (.cells #[.string ⟨#[]⟩, .string z] 9) = u := ⟨_, rfl⟩
                have hbx10 : Below x8.heap.size x8 x10 := by rw [← hx10]; exact (Below.refl _ _).alloc (Nat.le_refl _) _
                have HR : Hid (RowIs x10 x8.heap.size 9 [.string ⟨#[]⟩, .string z]) := by show _; rw [← hx10]; exact rowIs_new x8 _ _
                have hqr : x8.heap.size ≠ g := by have := HC9.out.lt; omega
                replace HT9 := hide (HT9.out.new hbx10)
                replace HC9 := hide (HC9.out.below hbx10)
                replace HD := hide (HD.out.new hbx10)
                replace HM9 := hide (HM9.out.trans (Moves.of_below hbx10))
                rw [hx10]
                clear hx10 hbx10
                generalize x8.heap.size = qr at *
                refine hK _ _ ?_; clear hK K
                try simp only [Act.put, List.getElem_toArray, List.getElem_cons_succ, List.getElem_cons_zero, List.setIfInBounds_toArray, List.set_cons_zero, List.set_cons_succ]
                refine wpAny_take (i := 6) (v := ?_) rfl (by kernel_rfl) (by kernel_rfl) (by kernel_rfl) (fun _ _ _ h => h) (Or.inl ⟨by rfl, ?_⟩) ?_; rotate_left; focus (intro uu; go_simp; try with_reducible rfl)
                try simp only [Act.put, List.getElem_toArray, List.getElem_cons_succ, List.getElem_cons_zero, List.setIfInBounds_toArray, List.set_cons_zero, List.set_cons_succ]
                have hx7 := HR.out.cell (j := 0) rfl
                refine wpAny_ready (rs := [7]) (by kernel_rfl) (by simp) ?_
                refine (AllReady.cons rfl (fun K hK => ?_) AllReady.nil)
                go_simp
                refine hK _ _ ?_; clear hK K hx7
                try simp only [Act.put, List.getElem_toArray, List.getElem_cons_succ, List.getElem_cons_zero, List.setIfInBounds_toArray, List.set_cons_zero, List.set_cons_succ]
                refine wpAny_take (i := 8) (v := ?_) rfl (by kernel_rfl) (by kernel_rfl) (by kernel_rfl) (fun _ _ _ h => h) (Or.inl ⟨by rfl, ?_⟩) ?_; rotate_left; focus (intro uu; go_simp; try with_reducible rfl)
                try simp only [Act.put, List.getElem_toArray, List.getElem_cons_succ, List.getElem_cons_zero, List.setIfInBounds_toArray, List.set_cons_zero, List.set_cons_succ]
                refine wpAny_take (i := 9) (v := ?_) rfl (by kernel_rfl) (by kernel_rfl) (by kernel_rfl) (fun _ _ _ h => h) (Or.inl ⟨by rfl, ?_⟩) ?_; rotate_left; focus (intro uu; go_simp; try with_reducible rfl)
                try simp only [Act.put, List.getElem_toArray, List.getElem_cons_succ, List.getElem_cons_zero, List.setIfInBounds_toArray, List.set_cons_zero, List.set_cons_succ]
                have y0 := RowIs.cell (j := 0) HT9.out.row rfl; have y1 := RowIs.cell (j := 1) HT9.out.row rfl; have y2 := RowIs.cell (j := 2) HT9.out.row rfl; have y3 := RowIs.cell (j := 3) HT9.out.row rfl; have y4 := RowIs.cell (j := 4) HT9.out.row rfl; have y5 := RowIs.cell (j := 5) HT9.out.row rfl; have y6 := RowIs.cell (j := 6) HT9.out.row rfl; have y7 := RowIs.cell (j := 7) HT9.out.row rfl; have y9 := fun j => RowIs.frozen HT9.out.row j; have y8 := HT9.out.row.lt
                have HT5 := hide (HT9.out.set 5 (.string ⟨#[]⟩) t0 (⟨t1.1.nm, ⟨#[]⟩, t1.1.list, t1.1.quota⟩, t1.2) rfl HT9.out.l0 HT9.out.l1 HT9.out.s0 ⟨HT9.out.s1.1, by show ByteArray.size ⟨#[]⟩ ≤ 100; decide, HT9.out.s1.2.2⟩)
                refine wpAny_ready (rs := [10]) (by kernel_rfl) (by simp) ?_
                refine (AllReady.cons rfl (fun K hK => ?_) AllReady.nil)
                go_simp
                refine hK _ _ ?_; clear hK K
                refine wpAny_done (by kernel_rfl) ?_ _
                go_wp2_with fail
                go_ret
                first | exact ⟨_, _, rfl, HT5.out.st1, by simp, (fun x hx => by simp at hx; subst hx; exact HT5.out.s1), HC9.out.set ⟨b, 5, none⟩ _ (by show g < b; omega), HM9.out.setNew ⟨b, 5, none⟩ (by show w.heap.size ≤ b; omega) _⟩ | exact ⟨_, rfl, _, HT5.out.st1, by simp, (fun x hx => by simp at hx; subst hx; exact HT5.out.s1), HC9.out.set ⟨b, 5, none⟩ _ (by show g < b; omega), HM9.out.setNew ⟨b, 5, none⟩ (by show w.heap.size ≤ b; omega) _⟩
              · skip
                try simp only [Act.put, List.getElem_toArray, List.getElem_cons_succ, List.getElem_cons_zero, List.setIfInBounds_toArray, List.set_cons_zero, List.set_cons_succ]
                refine wpAny_ready (rs := [2]) (by kernel_rfl) (by simp) ?_
                refine (AllReady.cons rfl (fun K hK => ?_) AllReady.nil)
                obtain ⟨z, hzs, hcv⟩ := HD.out.text
                go_simp
                refine hK _ _ ?_; clear hK K hcv
                try simp only [Act.put, List.getElem_toArray, List.getElem_cons_succ, List.getElem_cons_zero, List.setIfInBounds_toArray, List.set_cons_zero, List.set_cons_succ]
                refine wpAny_ready (rs := [3]) (by kernel_rfl) (by simp) ?_
                refine (AllReady.cons rfl (fun K hK => ?_) AllReady.nil)
                go_simp
                obtain ⟨x12, hx12⟩ : ∃ u, x8.alloc (.cells #[.string ⟨#[]⟩, .string z] 9) = u := ⟨_, rfl⟩
                have hbx12 : Below x8.heap.size x8 x12 := by rw [← hx12]; exact (Below.refl _ _).alloc (Nat.le_refl _) _
                have HR : Hid (RowIs x12 x8.heap.size 9 [.string ⟨#[]⟩, .string z]) := by show _; rw [← hx12]; exact rowIs_new x8 _ _
                have hqr : x8.heap.size ≠ g := by have := HC9.out.lt; omega
                replace HT9 := hide (HT9.out.new hbx12)
                replace HC9 := hide (HC9.out.below hbx12)
                replace HD := hide (HD.out.new hbx12)
                replace HM9 := hide (HM9.out.trans (Moves.of_below hbx12))
                rw [hx12]
                clear hx12 hbx12
                generalize x8.heap.size = qr at *
                refine hK _ _ ?_; clear hK K
                try simp only [Act.put, List.getElem_toArray, List.getElem_cons_succ, List.getElem_cons_zero, List.setIfInBounds_toArray, List.set_cons_zero, List.set_cons_succ]
                refine wpAny_take (i := 6) (v := ?_) rfl (by kernel_rfl) (by kernel_rfl) (by kernel_rfl) (fun _ _ _ h => h) (Or.inl ⟨by rfl, ?_⟩) ?_; rotate_left; focus (intro uu; go_simp; try with_reducible rfl)
                try simp only [Act.put, List.getElem_toArray, List.getElem_cons_succ, List.getElem_cons_zero, List.setIfInBounds_toArray, List.set_cons_zero, List.set_cons_succ]
                have hx7 := HR.out.cell (j := 1) rfl
                refine wpAny_ready (rs := [7]) (by kernel_rfl) (by simp) ?_
                refine (AllReady.cons rfl (fun K hK => ?_) AllReady.nil)
                go_simp
                refine hK _ _ ?_; clear hK K hx7
                try simp only [Act.put, List.getElem_toArray, List.getElem_cons_succ, List.getElem_cons_zero, List.setIfInBounds_toArray, List.set_cons_zero, List.set_cons_succ]
                refine wpAny_take (i := 8) (v := ?_) rfl (by kernel_rfl) (by kernel_rfl) (by kernel_rfl) (fun _ _ _ h => h) (Or.inl ⟨by rfl, ?_⟩) ?_; rotate_left; focus (intro uu; go_simp; try with_reducible rfl)
                try simp only [Act.put, List.getElem_toArray, List.getElem_cons_succ, List.getElem_cons_zero, List.setIfInBounds_toArray, List.set_cons_zero, List.set_cons_succ]
                refine wpAny_take (i := 9) (v := ?_) rfl (by kernel_rfl) (by kernel_rfl) (by kernel_rfl) (fun _ _ _ h => h) (Or.inl ⟨by rfl, ?_⟩) ?_; rotate_left; focus (intro uu; go_simp; try with_reducible rfl)
                try simp only [Act.put, List.getElem_toArray, List.getElem_cons_succ, List.getElem_cons_zero, List.setIfInBounds_toArray, List.set_cons_zero, List.set_cons_succ]
                have y0 := RowIs.cell (j := 0) HT9.out.row rfl; have y1 := RowIs.cell (j := 1) HT9.out.row rfl; have y2 := RowIs.cell (j := 2) HT9.out.row rfl; have y3 := RowIs.cell (j := 3) HT9.out.row rfl; have y4 := RowIs.cell (j := 4) HT9.out.row rfl; have y5 := RowIs.cell (j := 5) HT9.out.row rfl; have y6 := RowIs.cell (j := 6) HT9.out.row rfl; have y7 := RowIs.cell (j := 7) HT9.out.row rfl; have y9 := fun j => RowIs.frozen HT9.out.row j; have y8 := HT9.out.row.lt
                have HT5 := hide (HT9.out.set 5 (.string z) t0 (⟨t1.1.nm, z, t1.1.list, t1.1.quota⟩, t1.2) rfl HT9.out.l0 HT9.out.l1 HT9.out.s0 ⟨HT9.out.s1.1, by show ByteArray.size z ≤ 100; omega, HT9.out.s1.2.2⟩)
                refine wpAny_ready (rs := [10]) (by kernel_rfl) (by simp) ?_
                refine (AllReady.cons rfl (fun K hK => ?_) AllReady.nil)
                go_simp
                refine hK _ _ ?_; clear hK K
                refine wpAny_done (by kernel_rfl) ?_ _
                go_wp2_with fail
                go_ret
                first | exact ⟨_, _, rfl, HT5.out.st1, by simp, (fun x hx => by simp at hx; subst hx; exact HT5.out.s1), HC9.out.set ⟨b, 5, none⟩ _ (by show g < b; omega), HM9.out.setNew ⟨b, 5, none⟩ (by show w.heap.size ≤ b; omega) _⟩ | exact ⟨_, rfl, _, HT5.out.st1, by simp, (fun x hx => by simp at hx; subst hx; exact HT5.out.s1), HC9.out.set ⟨b, 5, none⟩ _ (by show g < b; omega), HM9.out.setNew ⟨b, 5, none⟩ (by show w.heap.size ≤ b; omega) _⟩
          · skip
            go_simp
            refine (below1 g B 2 _ HC9.out (by omega)).mono ?_; rintro e x13 ⟨q, q0, q1, _, rfl, hcx, hmx⟩
            have q2 := q1 (by omega)
            replace HT9 := hide (HT9.out.moves hmx)
            replace HM9 := hide (HM9.out.trans hmx)
            replace HC9 := hide hcx
            clear hcx hmx q1
            have hqq : q = 0 ∨ q = 1 := by omega
            refine hK _ _ ?_; clear hK K
            rcases hqq with rfl | rfl
            · skip
              try simp only [Act.put, List.getElem_toArray, List.getElem_cons_succ, List.getElem_cons_zero, List.setIfInBounds_toArray, List.set_cons_zero, List.set_cons_succ]
              refine wpAny_ready (rs := [1]) (by kernel_rfl) (by simp) ?_
              refine (AllReady.cons rfl (fun K hK => ?_) AllReady.nil)
              go_simp
              obtain ⟨x14, hx14⟩ : ∃ u, x13.alloc (.cells M 5) = u := ⟨_, rfl⟩
              have hbx14 : Below x13.heap.size x13 x14 := by rw [← hx14]; exact (Below.refl _ _).alloc (Nat.le_refl _) _
              have HD : Hid (MadeB x14 x13.heap.size 41 g) := by show _; rw [← hx14]; exact madeB_of hMs hML HC9.out.lt (by omega)
              replace HT9 := hide (HT9.out.new hbx14)
              replace HC9 := hide (HC9.out.below hbx14)
              replace HM9 := hide (HM9.out.trans (Moves.of_below hbx14))
              rw [hx14]
              clear hx14 hbx14
              generalize x13.heap.size = qd at *
              refine hK _ _ ?_; clear hK K
              try simp only [Act.put, List.getElem_toArray, List.getElem_cons_succ, List.getElem_cons_zero, List.setIfInBounds_toArray, List.set_cons_zero, List.set_cons_succ]
              refine wpAny_ready (rs := [2]) (by kernel_rfl) (by simp) ?_
              refine (AllReady.cons rfl (fun K hK => ?_) AllReady.nil)
              obtain ⟨z, hzs, hcv⟩ := HD.out.text
              go_simp
              refine hK _ _ ?_; clear hK K hcv
              try simp only [Act.put, List.getElem_toArray, List.getElem_cons_succ, List.getElem_cons_zero, List.setIfInBounds_toArray, List.set_cons_zero, List.set_cons_succ]
              refine wpAny_ready (rs := [3]) (by kernel_rfl) (by simp) ?_
              refine (AllReady.cons rfl (fun K hK => ?_) AllReady.nil)
              go_simp
              obtain ⟨x16, hx16⟩ : ∃ u, x14.alloc (.cells #[.string ⟨#[]⟩, .string z] 9) = u := ⟨_, rfl⟩
              have hbx16 : Below x14.heap.size x14 x16 := by rw [← hx16]; exact (Below.refl _ _).alloc (Nat.le_refl _) _
              have HR : Hid (RowIs x16 x14.heap.size 9 [.string ⟨#[]⟩, .string z]) := by show _; rw [← hx16]; exact rowIs_new x14 _ _
              have hqr : x14.heap.size ≠ g := by have := HC9.out.lt; omega
              replace HT9 := hide (HT9.out.new hbx16)
              replace HC9 := hide (HC9.out.below hbx16)
              replace HD := hide (HD.out.new hbx16)
              replace HM9 := hide (HM9.out.trans (Moves.of_below hbx16))
              rw [hx16]
              clear hx16 hbx16
              generalize x14.heap.size = qr at *
              refine hK _ _ ?_; clear hK K
              try simp only [Act.put, List.getElem_toArray, List.getElem_cons_succ, List.getElem_cons_zero, List.setIfInBounds_toArray, List.set_cons_zero, List.set_cons_succ]
              refine wpAny_take (i := 6) (v := ?_) rfl (by kernel_rfl) (by kernel_rfl) (by kernel_rfl) (fun _ _ _ h => h) (Or.inl ⟨by rfl, ?_⟩) ?_; rotate_left; focus (intro uu; go_simp; try with_reducible rfl)
              try simp only [Act.put, List.getElem_toArray, List.getElem_cons_succ, List.getElem_cons_zero, List.setIfInBounds_toArray, List.set_cons_zero, List.set_cons_succ]
              have hx7 := HR.out.cell (j := 0) rfl
              refine wpAny_ready (rs := [7]) (by kernel_rfl) (by simp) ?_
              refine (AllReady.cons rfl (fun K hK => ?_) AllReady.nil)
              go_simp
              refine hK _ _ ?_; clear hK K hx7
              try simp only [Act.put, List.getElem_toArray, List.getElem_cons_succ, List.getElem_cons_zero, List.setIfInBounds_toArray, List.set_cons_zero, List.set_cons_succ]
              refine wpAny_take (i := 8) (v := ?_) rfl (by kernel_rfl) (by kernel_rfl) (by kernel_rfl) (fun _ _ _ h => h) (Or.inl ⟨by rfl, ?_⟩) ?_; rotate_left; focus (intro uu; go_simp; try with_reducible rfl)
              try simp only [Act.put, List.getElem_toArray, List.getElem_cons_succ, List.getElem_cons_zero, List.setIfInBounds_toArray, List.set_cons_zero, List.set_cons_succ]
              refine wpAny_take (i := 9) (v := ?_) rfl (by kernel_rfl) (by kernel_rfl) (by kernel_rfl) (fun _ _ _ h => h) (Or.inl ⟨by rfl, ?_⟩) ?_; rotate_left; focus (intro uu; go_simp; try with_reducible rfl)
              try simp only [Act.put, List.getElem_toArray, List.getElem_cons_succ, List.getElem_cons_zero, List.setIfInBounds_toArray, List.set_cons_zero, List.set_cons_succ]
              have y0 := RowIs.cell (j := 0) HT9.out.row rfl; have y1 := RowIs.cell (j := 1) HT9.out.row rfl; have y2 := RowIs.cell (j := 2) HT9.out.row rfl; have y3 := RowIs.cell (j := 3) HT9.out.row rfl; have y4 := RowIs.cell (j := 4) HT9.out.row rfl; have y5 := RowIs.cell (j := 5) HT9.out.row rfl; have y6 := RowIs.cell (j := 6) HT9.out.row rfl; have y7 := RowIs.cell (j := 7) HT9.out.row rfl; have y9 := fun j => RowIs.frozen HT9.out.row j; have y8 := HT9.out.row.lt
              have HT5 := hide (HT9.out.set 5 (.string ⟨#[]⟩) t0 (⟨t1.1.nm, ⟨#[]⟩, t1.1.list, t1.1.quota⟩, t1.2) rfl HT9.out.l0 HT9.out.l1 HT9.out.s0 ⟨HT9.out.s1.1, by show ByteArray.size ⟨#[]⟩ ≤ 100; decide, HT9.out.s1.2.2⟩)
              refine wpAny_ready (rs := [10]) (by kernel_rfl) (by simp) ?_
              refine (AllReady.cons rfl (fun K hK => ?_) AllReady.nil)
              go_simp
              refine hK _ _ ?_; clear hK K
              refine wpAny_done (by kernel_rfl) ?_ _
              go_wp2_with fail
              go_ret
              first | exact ⟨_, _, rfl, HT5.out.st1, by simp, (fun x hx => by simp at hx; subst hx; exact HT5.out.s1), HC9.out.set ⟨b, 5, none⟩ _ (by show g < b; omega), HM9.out.setNew ⟨b, 5, none⟩ (by show w.heap.size ≤ b; omega) _⟩ | exact ⟨_, rfl, _, HT5.out.st1, by simp, (fun x hx => by simp at hx; subst hx; exact HT5.out.s1), HC9.out.set ⟨b, 5, none⟩ _ (by show g < b; omega), HM9.out.setNew ⟨b, 5, none⟩ (by show w.heap.size ≤ b; omega) _⟩
            · skip
              try simp only [Act.put, List.getElem_toArray, List.getElem_cons_succ, List.getElem_cons_zero, List.setIfInBounds_toArray, List.set_cons_zero, List.set_cons_succ]
              refine wpAny_ready (rs := [1]) (by kernel_rfl) (by simp) ?_
              refine (AllReady.cons rfl (fun K hK => ?_) AllReady.nil)
              go_simp
              obtain ⟨x17, hx17⟩ : ∃ u, x13.alloc (.cells M 5) = u := ⟨_, rfl⟩
              have hbx17 : Below x13.heap.size x13 x17 := by rw [← hx17]; exact (Below.refl _ _).alloc (Nat.le_refl _) _
              have HD : Hid (MadeB x17 x13.heap.size 41 g) := by show _; rw [← hx17]; exact madeB_of hMs hML HC9.out.lt (by omega)
              replace HT9 := hide (HT9.out.new hbx17)
              replace HC9 := hide (HC9.out.below hbx17)
              replace HM9 := hide (HM9.out.trans (Moves.of_below hbx17))
              rw [hx17]
              clear hx17 hbx17
              generalize x13.heap.size = qd at *
              refine hK _ _ ?_; clear hK K
              try simp only [Act.put, List.getElem_toArray, List.getElem_cons_succ, List.getElem_cons_zero, List.setIfInBounds_toArray, List.set_cons_zero, List.set_cons_succ]
              refine wpAny_ready (rs := [2]) (by kernel_rfl) (by simp) ?_
              refine (AllReady.cons rfl (fun K hK => ?_) AllReady.nil)
              obtain ⟨z, hzs, hcv⟩ := HD.out.text
              go_simp
              refine hK _ _ ?_; clear hK K hcv
              try simp only [Act.put, List.getElem_toArray, List.getElem_cons_succ, List.getElem_cons_zero, List.setIfInBounds_toArray, List.set_cons_zero, List.set_cons_succ]
              refine wpAny_ready (rs := [3]) (by kernel_rfl) (by simp) ?_
              refine (AllReady.cons rfl (fun K hK => ?_) AllReady.nil)
              go_simp
              obtain ⟨x19, hx19⟩ : ∃ u, x17.alloc (.cells #[.string ⟨#[]⟩, .string z] 9) = u := ⟨_, rfl⟩
              have hbx19 : Below x17.heap.size x17 x19 := by rw [← hx19]; exact (Below.refl _ _).alloc (Nat.le_refl _) _
              have HR : Hid (RowIs x19 x17.heap.size 9 [.string ⟨#[]⟩, .string z]) := by show _; rw [← hx19]; exact rowIs_new x17 _ _
              have hqr : x17.heap.size ≠ g := by have := HC9.out.lt; omega
              replace HT9 := hide (HT9.out.new hbx19)
              replace HC9 := hide (HC9.out.below hbx19)
              replace HD := hide (HD.out.new hbx19)
              replace HM9 := hide (HM9.out.trans (Moves.of_below hbx19))
              rw [hx19]
              clear hx19 hbx19
              generalize x17.heap.size = qr at *
              refine hK _ _ ?_; clear hK K
              try simp only [Act.put, List.getElem_toArray, List.getElem_cons_succ, List.getElem_cons_zero, List.setIfInBounds_toArray, List.set_cons_zero, List.set_cons_succ]
              refine wpAny_take (i := 6) (v := ?_) rfl (by kernel_rfl) (by kernel_rfl) (by kernel_rfl) (fun _ _ _ h => h) (Or.inl ⟨by rfl, ?_⟩) ?_; rotate_left; focus (intro uu; go_simp; try with_reducible rfl)
              try simp only [Act.put, List.getElem_toArray, List.getElem_cons_succ, List.getElem_cons_zero, List.setIfInBounds_toArray, List.set_cons_zero, List.set_cons_succ]
              have hx7 := HR.out.cell (j := 1) rfl
              refine wpAny_ready (rs := [7]) (by kernel_rfl) (by simp) ?_
              refine (AllReady.cons rfl (fun K hK => ?_) AllReady.nil)
              go_simp
              refine hK _ _ ?_; clear hK K hx7
              try simp only [Act.put, List.getElem_toArray, List.getElem_cons_succ, List.getElem_cons_zero, List.setIfInBounds_toArray, List.set_cons_zero, List.set_cons_succ]
              refine wpAny_take (i := 8) (v := ?_) rfl (by kernel_rfl) (by kernel_rfl) (by kernel_rfl) (fun _ _ _ h => h) (Or.inl ⟨by rfl, ?_⟩) ?_; rotate_left; focus (intro uu; go_simp; try with_reducible rfl)
              try simp only [Act.put, List.getElem_toArray, List.getElem_cons_succ, List.getElem_cons_zero, List.setIfInBounds_toArray, List.set_cons_zero, List.set_cons_succ]
              refine wpAny_take (i := 9) (v := ?_) rfl (by kernel_rfl) (by kernel_rfl) (by kernel_rfl) (fun _ _ _ h => h) (Or.inl ⟨by rfl, ?_⟩) ?_; rotate_left; focus (intro uu; go_simp; try with_reducible rfl)
              try simp only [Act.put, List.getElem_toArray, List.getElem_cons_succ, List.getElem_cons_zero, List.setIfInBounds_toArray, List.set_cons_zero, List.set_cons_succ]
              have y0 := RowIs.cell (j := 0) HT9.out.row rfl; have y1 := RowIs.cell (j := 1) HT9.out.row rfl; have y2 := RowIs.cell (j := 2) HT9.out.row rfl; have y3 := RowIs.cell (j := 3) HT9.out.row rfl; have y4 := RowIs.cell (j := 4) HT9.out.row rfl; have y5 := RowIs.cell (j := 5) HT9.out.row rfl; have y6 := RowIs.cell (j := 6) HT9.out.row rfl; have y7 := RowIs.cell (j := 7) HT9.out.row rfl; have y9 := fun j => RowIs.frozen HT9.out.row j; have y8 := HT9.out.row.lt
              have HT5 := hide (HT9.out.set 5 (.string z) t0 (⟨t1.1.nm, z, t1.1.list, t1.1.quota⟩, t1.2) rfl HT9.out.l0 HT9.out.l1 HT9.out.s0 ⟨HT9.out.s1.1, by show ByteArray.size z ≤ 100; omega, HT9.out.s1.2.2⟩)
              refine wpAny_ready (rs := [10]) (by kernel_rfl) (by simp) ?_
              refine (AllReady.cons rfl (fun K hK => ?_) AllReady.nil)
              go_simp
              refine hK _ _ ?_; clear hK K
              refine wpAny_done (by kernel_rfl) ?_ _
              go_wp2_with fail
              go_ret
              first | exact ⟨_, _, rfl, HT5.out.st1, by simp, (fun x hx => by simp at hx; subst hx; exact HT5.out.s1), HC9.out.set ⟨b, 5, none⟩ _ (by show g < b; omega), HM9.out.setNew ⟨b, 5, none⟩ (by show w.heap.size ≤ b; omega) _⟩ | exact ⟨_, rfl, _, HT5.out.st1, by simp, (fun x hx => by simp at hx; subst hx; exact HT5.out.s1), HC9.out.set ⟨b, 5, none⟩ _ (by show g < b; omega), HM9.out.setNew ⟨b, 5, none⟩ (by show w.heap.size ≤ b; omega) _⟩
        · skip
          obtain ⟨VA, hVA⟩ : ∃ V, w3.alloc (.cells #[.int .i64 (-1), .int .i64 20, .int .i64 21] 2) = V := ⟨_, rfl⟩
          have RA : RowIs VA w3.heap.size 2 [.int .i64 (-1), .int .i64 20, .int .i64 21] := by rw [← hVA]; exact rowIs_new w3 _ _
          have hbA : Below w3.heap.size w3 VA := by rw [← hVA]; exact (Below.refl _ _).alloc (Nat.le_refl _) _
          have hl3 := HC3.out.lt
          go_wp2_with fail
          (try rw [hVA])
          clear hVA
          refine (below1 g B 3 _ (HC3.out.below hbA) (by omega)).mono ?_; rintro e w4 ⟨q, q0, q1, _, rfl, hc4, hm4⟩
          have q6 := q1 (by omega)
          replace RA := RA.moves hm4 (by omega)
          obtain ⟨qn, rfl⟩ : ∃ n : Nat, q = n := ⟨q.toNat, by omega⟩
          obtain ⟨z, hz⟩ : ∃ z : Int, w4.cell? ⟨w3.heap.size, qn, none⟩ = some (.int .i64 z) := by
            have : qn = 0 ∨ qn = 1 ∨ qn = 2 := by omega
            rcases this with rfl | rfl | rfl <;> exact ⟨_, RA.cell rfl⟩
          have hlA := RA.lt
          have HT4 := hide ((HT3.out.new hbA).moves hm4)
          have HM4 := hide ((HM3.out.trans (Moves.of_below hbA)).trans hm4)
          have HC4 := hide hc4
          have y0 := RowIs.cell (j := 0) HT4.out.row rfl; have y1 := RowIs.cell (j := 1) HT4.out.row rfl; have y2 := RowIs.cell (j := 2) HT4.out.row rfl; have y3 := RowIs.cell (j := 3) HT4.out.row rfl; have y4 := RowIs.cell (j := 4) HT4.out.row rfl; have y5 := RowIs.cell (j := 5) HT4.out.row rfl; have y6 := RowIs.cell (j := 6) HT4.out.row rfl; have y7 := RowIs.cell (j := 7) HT4.out.row rfl; have y9 := fun j => RowIs.frozen HT4.out.row j; have y8 := HT4.out.row.lt
          have HT5 := hide (HT4.out.set 7 (.int .i64 z) t0 (⟨t1.1.nm, t1.1.key, t1.1.list, z⟩, t1.2) rfl HT4.out.l0 HT4.out.l1 HT4.out.s0 HT4.out.s1)
          clear q1 RA hbA hm4 HT3 HC3 HM3 hc4
          go_wp2_with fail
          go_ret
          first | exact ⟨_, _, rfl, HT5.out.st1, by simp, (fun x hx => by simp at hx; subst hx; exact HT5.out.s1), HC4.out.set ⟨b, 7, none⟩ _ (by show g < b; omega), HM4.out.setNew ⟨b, 7, none⟩ (by show w.heap.size ≤ b; omega) _⟩ | exact ⟨_, rfl, _, HT5.out.st1, by simp, (fun x hx => by simp at hx; subst hx; exact HT5.out.s1), HC4.out.set ⟨b, 7, none⟩ _ (by show g < b; omega), HM4.out.setNew ⟨b, 7, none⟩ (by show w.heap.size ≤ b; omega) _⟩
        · skip
          have HR0 := hide HT3.out.reads1
          have HL0 : Hid (∀ t ∈ ([t1] : List (TenantD × Value)), LsAt w3 w.heap.size g t.2 t.1.list ∧ smT t.1) := fun t ht => by
            simp at ht
            subst ht; exact ⟨HT3.out.l1, HT3.out.s1⟩
          have hgl := HT3.out.l0.lt
          clear HT3
          go_wp2_with fail
          go_loopw [3] (fun s wr => ∃ (T : List (TenantD × Value)) (b1 o1 p : Nat), s = .slice (some ⟨b1, o1, none⟩) T.length p ∧ 1 ≤ T.length ∧ T.length ≤ 9 ∧ w.heap.size ≤ b1 ∧ Hid (Reads wr (.slice (some ⟨b1, o1, none⟩) T.length p) T.length 4 (T.flatMap tcs)) ∧ Hid (p = T.length ∨ wr.ownsRow w.heap.size 32 4 (.slice (some ⟨b1, o1, none⟩) T.length p) T.length (T.flatMap tcs)) ∧ Hid (∀ t ∈ T, LsAt wr w.heap.size g t.2 t.1.list ∧ smT t.1) ∧ Hid (Cur wr g B) ∧ Hid (Moves g w wr)) (fun s _ => 9 - lenS15 s)
          case atStart => exact ⟨[t1], b, 4, 1, rfl, by simp, by simp, hbb, HR0, .inl rfl, HL0, HC3, HM3⟩
          case round =>
            clear HR0 HL0 HC3 HM3
            obtain ⟨T, b1, o1, p, rfl, hT1, hT9, hb1, HR, HO, HL, HC, HM⟩ := hrel
            by_cases hlt : T.length < 9
            rotate_left
            · have hltI : ¬ (T.length : Int) < 9 := by omega
              go_wp2_with fail
              go_ret
              first | exact ⟨_, _, rfl, st_of T (fun u' hm => HR.out.kept hm.size (fun k hk hl => hm.block k hl (by simp [Value.ownBlock] at hk; omega))) HL.out, by simpa using hT9, (fun x hx => by obtain ⟨t, ht, rfl⟩ := List.mem_map.1 hx; exact (HL.out t ht).2), HC.out, HM.out⟩ | exact ⟨_, rfl, _, st_of T (fun u' hm => HR.out.kept hm.size (fun k hk hl => hm.block k hl (by simp [Value.ownBlock] at hk; omega))) HL.out, by simpa using hT9, (fun x hx => by obtain ⟨t, ht, rfl⟩ := List.mem_map.1 hx; exact (HL.out t ht).2), HC.out, HM.out⟩
            have hltI : (T.length : Int) < 9 := by omega
            have hT0 : (0 : Int) < T.length := by omega
            obtain ⟨t, T', rfl⟩ : ∃ t T', T = t :: T' := by
              cases T with
              | nil => simp at hT1
              | cons t T' => exact ⟨t, T', rfl⟩
            have hlb : b1 < wr.heap.size := by obtain ⟨_, _, _, he, _, _, h4⟩ := HR.out; obtain ⟨b', o', e1, hb', _⟩ := h4 (by omega); simp only [Value.slice.injEq] at he; rw [← he.1] at e1; simp at e1; omega
            have hc := reads_add HR.out (by omega)
            have hadd : ∀ j, (⟨b1, o1, none⟩ : Addr).add j = ⟨b1, o1 + j, none⟩ := fun j => by unfold Addr.add; split <;> simp_all
            simp only [hadd] at hc
            have c0 : wr.cell? ⟨b1, o1, none⟩ = _ := hc 0 _ rfl
            have c1 := hc 1 _ rfl
            have c2 := hc 2 _ rfl
            have c3 := hc 3 _ rfl
            obtain ⟨al, pl, hal, _⟩ := owns_form (HL.out t (by simp)).1.own
            rw [hal] at c2
            clear hc hadd
            have hX : Below wr.heap.size wr (wr.alloc (.cells #[.string t.1.nm, .string t.1.key, .slice al t.1.list.length pl, .int .i64 t.1.quota] 32)) := (Below.refl _ _).alloc (Nat.le_refl _) _
            have RX := rowIs_new wr 32 [.string t.1.nm, .string t.1.key, .slice al t.1.list.length pl, .int .i64 t.1.quota]
            have hrX := reads_row RX 0 1 [.string t.1.nm, .string t.1.key, .slice al t.1.list.length pl, .int .i64 t.1.quota] rfl (by omega) (fun j x hj => by simpa using hj)
            have hone : ∀ y ∈ ([.string t.1.nm, .string t.1.key, .slice al t.1.list.length pl, .int .i64 t.1.quota] : List Value), y.oneCell' = true := by intro y hy; simp at hy; rcases hy with rfl | rfl | rfl | rfl <;> rfl
            have hfl : ((t :: T').flatMap tcs) ++ [.string t.1.nm, .string t.1.key, .slice al t.1.list.length pl, .int .i64 t.1.quota] = ((t :: T') ++ [t]).flatMap tcs := by rw [List.flatMap_append, List.flatMap_cons (xs := []), List.flatMap_nil, List.append_nil]; unfold tcs; rw [hal]
            have hln : ((t :: T') ++ [t]).length = (t :: T').length + 1 := by simp
            have HFL := hide hfl
            obtain ⟨N, hN⟩ : ∃ N, (t :: T').length = N := ⟨_, rfl⟩
            have hrd := HR.out
            have hoo := HO.out
            rw [hN] at hrd hoo hln
            obtain ⟨FX, hFX⟩ : ∃ X, (t :: T').flatMap tcs = X := ⟨_, rfl⟩
            rw [hFX] at hrd hoo HFL
            clear hfl
            try rw [hN]
            rcases hoo with hpn | hown
            · subst hpn
              have hrY := hrd.new hX
              go_wp2_with (at_builtin; go_must (refine wpList_app_full _ (by rfl) _ _ 24 (by rfl) 32 (.agg #[.string ⟨#[]⟩, .string ⟨#[]⟩, .slice none 0 0, .int .i64 0]) 4 64 Tryz.underlying24 (by kernel_rfl) rfl b1 o1 p p FX (by rfl) hrY (by omega) _ 0 1 1 _ (by rfl) hrX (by omega) (by omega) (by omega) (by decide) ?_))
              intro ad9 cp9 w9 hown9 hb9
              rw [HFL.out] at hown9
              have hbY := hX.trans (hb9.mono (by omega))
              obtain ⟨q9, cq, hq9, _, hq9b, _⟩ := owns_open hown9 (by omega)
              simp only [Value.slice.injEq] at hq9
              obtain ⟨rfl, _, rfl⟩ := hq9
              have hs9 := HM.out.size
              have hzX := hX.size
              have HO9 := hide (owns_base hown9 (base' := w.heap.size) (fun k hk => by simp [Value.ownBlock] at hk; omega))
              have HL9 : Hid (∀ x ∈ (t :: T') ++ [t], LsAt w9 w.heap.size g x.2 x.1.list ∧ smT x.1) := fun x hx => by
                have hx' : x ∈ t :: T' := by simp at hx ⊢; rcases hx with h | h | h <;> simp [h]
                exact ⟨(HL.out x hx').1.new hbY, (HL.out x hx').2⟩
              have HC9 := hide (HC.out.below hbY)
              have HM9 := hide (HM.out.trans (Moves.of_below hbY))
              go_wp2_with fail
              go_roundw
              case rel => exact ⟨(t :: T') ++ [t], q9, 0, cp9, by rw [hln], by rw [hln]; omega, by rw [hln]; omega, by omega, by rw [hln]; exact reads_of_owns HO9.out, .inr (by rw [hln]; exact HO9.out), HL9, HC9, HM9⟩
              case measure => simp [lenS15]; omega
            · have hoY := owns_new hown hX
              go_wp2_with (at_builtin; go_must (refine wpList_app _ (by rfl) _ _ 24 (by rfl) 32 (.agg #[.string ⟨#[]⟩, .string ⟨#[]⟩, .slice none 0 0, .int .i64 0]) 4 64 Tryz.underlying24 (by kernel_rfl) rfl (by decide) w.heap.size _ N FX (by rfl) hoY _ 1 _ (by rfl) hrX hone (by omega) (by decide) (by have := HM.out.size; have := hX.size; omega) ?_))
              intro ad9 cp9 w9 hown9 hg9 hat9
              rw [HFL.out] at hown9
              obtain ⟨q9, cq, hq9, _, hq9b, _⟩ := owns_open hown9 (by omega)
              simp only [Value.slice.injEq] at hq9
              obtain ⟨rfl, _, rfl⟩ := hq9
              have HO9 := hide hown9
              have HL9 : Hid (∀ x ∈ (t :: T') ++ [t], LsAt w9 w.heap.size g x.2 x.1.list ∧ smT x.1) := fun x hx => by
                have hx' : x ∈ t :: T' := by simp at hx ⊢; rcases hx with h | h | h <;> simp [h]
                exact ⟨ls_grown ((HL.out x hx').1.new hX) hoY hg9, (HL.out x hx').2⟩
              have HC9 := hide (cur_grown (HC.out.below hX) hg9 (fun k hk => by have := (hoY.lt k hk).1; omega))
              have HM9 := hide (moves_grown (HM.out.trans (Moves.of_below hX)) hg9 (fun k hk => (hoY.lt k hk).1))
              go_wp2_with fail
              go_roundw
              case rel => exact ⟨(t :: T') ++ [t], q9, 0, cp9, by rw [hln], by rw [hln]; omega, by rw [hln]; omega, by omega, by rw [hln]; exact reads_of_owns HO9.out, .inr (by rw [hln]; exact HO9.out), HL9, HC9, HM9⟩
              case measure => simp [lenS15]; omega
end Go.Proofs.YtfemmnhfllbgjaaGreatDoor
/- Chapter 15's program: who is found, who is admitted, who reaches a place. -/
namespace Go.Proofs.YtfemmnhfllbgjaaGreatDoor
open Go.RowKit
set_option maxRecDepth 100000
set_option linter.unusedSimpArgs false
set_option linter.unusedVariables false
theorem name_small {s : ByteArray} (h : nameB s = true) : s.size ≤ 20 := by
  unfold nameB at h
  rw [Bool.and_eq_true] at h
  have := inB_true h.2
  omega
set_option maxHeartbeats 4000000 in
theorem implTenantOf (L : List TenantD) (name : ByteArray) (v : Value) (w : World) (hr : RdR tenantS w v L) (hL : L.length ≤ 1048576) :
    Calls Tryz.prog 9 #[v, .string name] w fun x w' => ∃ vl, x = .returned (.tuple #[.agg #[.string (tenantV L name).1.nm, .string (tenantV L name).1.key, vl, .int .i64 (tenantV L name).1.quota], .bool (tenantV L name).2]) ∧ OwX strS w' w.heap.size w'.heap.size vl (tenantV L name).1.list ∧ Below w.heap.size w w' := by
  obtain ⟨ad, cap, rfl, h1, h2⟩ := hr.form
  obtain ⟨⟨⟨an, ak, al, aq⟩, ab⟩, hA⟩ : ∃ A, tenantV L name = A := ⟨_, rfl⟩
  rw [hA]
  dsimp only
  have HA := hide hA
  have HR := hide hr
  clear hA hr
  have hT := fun w h => implTenantsOk L (.slice ad L.length cap) w h
  have hX : Below w.heap.size w (w.alloc (.cells #[.string ⟨#[]⟩, .string ⟨#[]⟩, .slice none 0 0, .int .i64 0] 32)) := (Below.refl _ _).alloc (Nat.le_refl _) _
  have RX := hide (rowIs_new w 32 [.string ⟨#[]⟩, .string ⟨#[]⟩, .slice none 0 0, .int .i64 0])
  have HX := hide hX
  clear hX
  go_enter Tryz.func9, Tryz.ntmps9
  go_wp2_with fail
  generalize w.alloc (.cells #[.string ⟨#[]⟩, .string ⟨#[]⟩, .slice none 0 0, .int .i64 0] 32) = W at *
  refine (hT _ (HR.out.new HX.out)).mono ?_
  cases h0 : okTs L
  · rintro e w2 ⟨rfl, hb2⟩
    have HE : Hid (((⟨an, ak, al, aq⟩ : TenantD), ab) = (zTn, false)) := by show _ = _; rw [← HA.out]; unfold tenantV; rw [if_neg (by rw [h0]; simp)]
    obtain ⟨e1, rfl⟩ := Prod.mk.inj HE.out
    simp only [zTn, TenantD.mk.injEq] at e1
    obtain ⟨rfl, rfl, rfl, rfl⟩ := e1
    replace RX := hide (RX.out.new hb2)
    replace HX := hide (bchain HX.out hb2)
    clear hb2 hT HE
    have r0 := RowIs.cell (j := 0) RX.out rfl; have r1 := RowIs.cell (j := 1) RX.out rfl; have r2 := RowIs.cell (j := 2) RX.out rfl; have r3 := RowIs.cell (j := 3) RX.out rfl; have r9 := fun j => RowIs.frozen RX.out j; have r8 := RX.out.lt
    go_wp2_with fail
    refine bodyPost_ret (v := (.tuple #[.agg #[.string ⟨#[]⟩, .string ⟨#[]⟩, .slice none 0 0, .int .i64 0], .bool false])) (by simp [results, Tryz.results9, go_sem, *]) rfl ?_
    exact ⟨_, rfl, owX_nil _ _ _, by repeat' (first | (with_reducible exact HX.out) | (with_reducible refine Below.setCell ?_ ?_ _) | (with_reducible refine Below.alloc ?_ ?_ _) | (with_reducible refine Below.drew ?_) | (with_reducible refine bo_drewN _ ?_) | omega | (simp; done) | (simp; omega))⟩
  rintro e w2 ⟨rfl, hb2⟩
  replace RX := hide (RX.out.new hb2)
  replace HX := hide (bchain HX.out hb2)
  have HP := hide (fun w h => implPlacesBy L (.slice ad L.length cap) w h h0)
  clear hb2 hT
  go_wp2_with fail
  refine (HP.out _ (HR.out.new HX.out)).mono ?_; rintro e w3 ⟨gm, rfl, hM, hb3⟩
  replace RX := hide (RX.out.new hb3)
  replace HX := hide (bchain HX.out hb3)
  have hlk := ms_lookup hM name
  clear hb3 HP hM
  by_cases hz0 : 0 ≤ atV L name
  rotate_left
  · have HE : Hid (((⟨an, ak, al, aq⟩ : TenantD), ab) = (zTn, false)) := by show _ = _; rw [← HA.out]; unfold tenantV; rw [if_neg (fun c => hz0 c.2)]
    obtain ⟨e1, rfl⟩ := Prod.mk.inj HE.out
    simp only [zTn, TenantD.mk.injEq] at e1
    obtain ⟨rfl, rfl, rfl, rfl⟩ := e1
    rw [if_neg hz0] at hlk
    simp only [Option.getD_none, Option.isSome_none] at hlk
    clear HE h0 HA hz0
    have r0 := RowIs.cell (j := 0) RX.out rfl; have r1 := RowIs.cell (j := 1) RX.out rfl; have r2 := RowIs.cell (j := 2) RX.out rfl; have r3 := RowIs.cell (j := 3) RX.out rfl; have r9 := fun j => RowIs.frozen RX.out j; have r8 := RX.out.lt
    go_wp2_with fail
    refine bodyPost_ret (v := (.tuple #[.agg #[.string ⟨#[]⟩, .string ⟨#[]⟩, .slice none 0 0, .int .i64 0], .bool false])) (by simp [results, Tryz.results9, go_sem, *]) rfl ?_
    exact ⟨_, rfl, owX_nil _ _ _, by repeat' (first | (with_reducible exact HX.out) | (with_reducible refine Below.setCell ?_ ?_ _) | (with_reducible refine Below.alloc ?_ ?_ _) | (with_reducible refine Below.drew ?_) | (with_reducible refine bo_drewN _ ?_) | omega | (simp; done) | (simp; omega))⟩
  rw [if_pos hz0] at hlk
  obtain ⟨k, hk, hzk, _⟩ := at_found hz0
  have HE : Hid (((⟨an, ak, al, aq⟩ : TenantD), ab) = (tn L k, true)) := by show _ = _; rw [← HA.out]; unfold tenantV; rw [if_pos ⟨h0, hz0⟩, hzk]; simp
  rw [hzk] at hlk
  simp only [Option.getD_some, Option.isSome_some] at hlk
  obtain ⟨e1, rfl⟩ := Prod.mk.inj HE.out
  have hkI : (k : Int) < L.length := by omega
  have HOK := hide ((okTs_iff.1 h0).2 k hk).1
  obtain ⟨b, o, als, pls, rfl, hbw, c0, c1, c2, c3, f0, f1, hls, q1, q2⟩ := ten_at (HR.out.new HX.out) hk
  rw [← e1] at c0 c1 c2 c3 f0 f1 hls q1 HOK
  dsimp only at c0 c1 c2 c3 f0 f1 hls q1
  have HOK2 := okTn_iff.1 HOK.out
  dsimp only at HOK2
  have hAp := fun w h => implTApart ⟨an, ak, al, aq⟩ als pls w h (by have := name_small HOK2.1; dsimp only; omega) (by have := inB_true HOK2.2.1; dsimp only; omega) HOK2.2.2.1 HOK2.2.2.2.2
  dsimp only at hAp
  have HLS := hide hls
  clear h0 HE e1 hzk HA hz0 HOK HOK2 hls f0 f1
  go_wp2_with fail
  refine (hAp _ HLS.out).mono ?_; rintro e w4 ⟨a4, p4, rfl, ho4, hb4⟩
  have hs4 := RX.out.lt
  replace RX := hide (RX.out.new hb4)
  replace HX := hide (bchain HX.out hb4)
  have HO4 := hide ho4
  have hwl0 := RX.out.lt
  clear ho4 hAp HLS c0 c1 c2 c3
  have r0 := RowIs.cell (j := 0) RX.out rfl; have r1 := RowIs.cell (j := 1) RX.out rfl; have r2 := RowIs.cell (j := 2) RX.out rfl; have r3 := RowIs.cell (j := 3) RX.out rfl; have r9 := fun j => RowIs.frozen RX.out j; have r8 := RX.out.lt
  go_wp2_with fail
  refine bodyPost_ret (v := (.tuple #[.agg #[.string an, .string ak, .slice a4 al.length p4, .int .i64 aq], .bool true])) (by simp [results, Tryz.results9, go_sem, *]) rfl ?_
  refine ⟨_, rfl, ?_, by repeat' (first | (with_reducible exact HX.out) | (with_reducible refine Below.setCell ?_ ?_ _) | (with_reducible refine Below.alloc ?_ ?_ _) | (with_reducible refine Below.drew ?_) | (with_reducible refine bo_drewN _ ?_) | omega | (simp; done) | (simp; omega))⟩
  refine (OwX.wide (lo := w3.heap.size) (hi := w4.heap.size) (lo' := w.heap.size) (hi' := w4.heap.size) ?_ (by omega) (Nat.le_refl _)).top
  (repeat' (first | (with_reducible exact HO4.out) | (with_reducible refine OwX.far ?_ _ _ ?_) | (simp; done) | (simp; omega)))
set_option maxHeartbeats 4000000 in
theorem implReaches (L : List TenantD) (target : ByteArray) (v : Value) (w : World) (hr : RdR tenantS w v L) (htg : target.size ≤ maxLen) :
    Calls Tryz.prog 11 #[v, .string target] w fun x w' => ∃ v', x = .returned v' ∧ OwX strS w' w.heap.size w'.heap.size v' (reachV L target) ∧ Below w.heap.size w w' := by
  obtain ⟨ad, cap, rfl, h1, h2⟩ := hr.form
  obtain ⟨A, hA⟩ : ∃ A, reachV L target = A := ⟨_, rfl⟩
  rw [hA]
  have HA := hide hA
  have HR := hide hr
  clear hA
  have hT := implTenantsOk L (.slice ad L.length cap) w hr
  clear hr
  cases h0 : okTs L
  · rw [h0] at hT
    have HV : Hid (A = []) := by show A = _; rw [← HA.out]; unfold reachV; rw [if_neg (by rw [h0]; simp)]
    go_enter Tryz.func11, Tryz.ntmps11
    go_wp2_with fail
    refine hT.mono ?_; rintro e w1 ⟨rfl, hb1⟩
    have HB1 := hide hb1
    clear hb1 hT
    go_wp2_with fail
    go_ret
    refine ⟨_, rfl, ?_, HB1.out⟩
    rw [HV.out]
    exact owX_nil _ _ _
  rw [h0] at hT
  have hl8 := (okTs_iff.1 h0).1
  have HNM : Hid (∀ k, k < L.length → (tn L k).nm.size ≤ 20) := fun k hk => name_small (okTn_iff.1 ((okTs_iff.1 h0).2 k hk).1).1
  have HV : Hid (A = reachK L target L.length) := by show A = _; rw [← HA.out]; unfold reachV reachK; rw [if_pos h0, List.take_length]
  go_enter Tryz.func11, Tryz.ntmps11
  go_wp2_with fail
  refine hT.mono ?_; rintro e w1 ⟨rfl, hb1⟩
  have HB1 := hide hb1
  clear hb1 hT h0 HA
  go_wp2_with fail
  go_loopw [5, 7, 13] (fun s _ i wr => ∃ (k : Nat) (R : List ByteArray) (ab : Option Addr) (pb : Nat), i = .int .i64 (k : Int) ∧ s = .slice ab R.length pb ∧ k ≤ L.length ∧ R.length ≤ k ∧ Hid (R = reachK L target k) ∧ Hid (∀ y ∈ R, y.size ≤ 9223372036854775807) ∧ Hid (wr.ownsRow w.heap.size 9 1 (.slice ab R.length pb) R.length (R.map Value.string)) ∧ Hid (Below w.heap.size w wr)) (fun _ _ i _ => L.length - (intOf i).toNat)
  case atStart => exact ⟨0, [], none, 0, rfl, rfl, Nat.zero_le _, Nat.le_refl _, hide rfl, by show ∀ y ∈ [], _; simp, World.ownsRow_nil _ _ _ _, HB1⟩
  case round =>
    clear HB1
    obtain ⟨k, R, ab, pb, rfl, rfl, hk, hRk, HRR, HSM, HO, HB⟩ := hrel
    by_cases hlt : k < L.length
    rotate_left
    · have hltI : ¬ (k : Int) < L.length := by omega
      obtain rfl : k = L.length := by omega
      go_wp2_with fail
      go_ret
      refine ⟨_, rfl, ?_, HB.out⟩
      rw [HV.out, ← HRR.out]
      exact strs_ow HO.out HSM.out
    have hltI : (k : Int) < L.length := by omega
    obtain ⟨b, o, al, pl, rfl, hbw, c0, c1, c2, c3, f0, _, hls, q1, q2⟩ := ten_at (HR.out.new HB.out) hlt
    have HST := hide (reachK_step (target := target) hlt)
    have hns := HNM.out k hlt
    generalize tn L k = x at *
    obtain ⟨xn, xk, xl, xq⟩ := x
    dsimp only at c0 c1 c2 c3 f0 hls q1 q2 HST hns
    have hbe : Below wr.heap.size wr (wr.alloc (.cells #[.string xn, .string xk, .slice al xl.length pl, .int .i64 xq] 32)) := (Below.refl _ _).alloc (Nat.le_refl _) _
    have HE : Hid (RowIs (wr.alloc (.cells #[.string xn, .string xk, .slice al xl.length pl, .int .i64 xq] 32)) wr.heap.size 32 [.string xn, .string xk, .slice al xl.length pl, .int .i64 xq]) := rowIs_new wr _ _
    go_upto_region 7 with fail
    generalize hg1 : wr.alloc (.cells #[.string xn, .string xk, .slice al xl.length pl, .int .i64 xq] 32) = X at *
    clear hg1
    have HLS := hide (hls.new hbe)
    have hLd := fun w h => implListed xl target (.slice al xl.length pl) w h (fun s hs => by have := rd_small hls s hs; unfold maxLen; omega) htg
    replace HO := hide (owns_new HO.out hbe)
    replace HB := hide (bchain HB.out hbe)
    have hne : (Value.slice ab R.length pb).ownBlock ≠ some wr.heap.size ∨ True := .inr trivial
    generalize wr.heap.size = go at *
    clear hls c0 c1 c2 c3 hbe hbw hne
    have e0 := HE.out.cell (j := 0) rfl
    have e2 := HE.out.cell (j := 2) rfl
    have el := HE.out.lt
    cases h7 : listV xl target
    · rw [h7] at hLd
      have HR2 : Hid (R = reachK L target (k + 1)) := by show R = _; rw [HST.out, if_neg (by rw [h7]; simp)]; exact HRR.out
      go_wp2_with fail
      refine (hLd _ (rd_strs HLS.out)).mono ?_; rintro e w6 ⟨rfl, hb6⟩
      have HO6 := hide (owns_new HO.out hb6)
      have HB6 := hide (bchain HB.out hb6)
      clear hb6 hLd HO HB HLS e0 e2 el
      go_wp2_with fail
      go_roundw
      case rel => exact ⟨k + 1, R, ab, pb, by go_num, rfl, by omega, by omega, HR2, HSM, HO6, HB6⟩
      case measure => simp [intOf]; omega
    · rw [h7] at hLd
      have HR2 : Hid (R ++ [xn] = reachK L target (k + 1)) := by show _ = _; rw [HST.out, if_pos h7, HRR.out]
      go_wp2_with fail
      refine (hLd _ (rd_strs HLS.out)).mono ?_; rintro e w6 ⟨rfl, hb6⟩
      replace HO := hide (owns_new HO.out hb6)
      replace HB := hide (bchain HB.out hb6)
      replace HE := hide (HE.out.new hb6)
      clear hb6 hLd HLS e0 e2 el
      have e0 := HE.out.cell (j := 0) rfl
      have el := HE.out.lt
      go_wp2_with fail
      refine (clone xn _ (by omega)).mono ?_; rintro e w5 ⟨rfl, hb5⟩
      replace HO := hide (owns_new HO.out hb5)
      replace HB := hide (bchain HB.out hb5)
      clear hb5 e0 el HE
      have hX : Below w5.heap.size w5 (w5.alloc (.cells #[.string xn] 9)) := (Below.refl _ _).alloc (Nat.le_refl _) _
      have hoX := owns_new HO.out hX
      have hrX : Reads (w5.alloc (.cells #[.string xn] 9)) (.slice (some ⟨w5.heap.size, 0, none⟩) 1 1) 1 1 [.string xn] := reads_of_owns (owns_lit w5 9 1 1 #[.string xn] rfl (by omega))
      have hbX := bchain HB.out hX
      have hsX := hbX.size
      have HSM2 : Hid (∀ y ∈ R ++ [xn], y.size ≤ 9223372036854775807) := fun y hy => by
        rcases List.mem_append.1 hy with h | h
        · exact HSM.out y h
        · simp at h; subst h; exact f0
      clear hX HB HO
      go_wp2_with (at_builtin; go_must (refine wpList_app _ (by rfl) _ _ 30 (by rfl) 9 (.string ⟨#[]⟩) 1 16 Tryz.underlying30 (by kernel_rfl) rfl (by decide) w.heap.size _ R.length (R.map Value.string) (by rfl) hoX _ 1 [.string xn] (by rfl) hrX (sv_one15 [xn]) (by omega) (by decide) hsX ?_))
      intro ad7 cp7 w7 hown7 hg7 hat7
      have HB7 := hide (hbX.grown hg7 hbX.size (fun k hk => (hoX.lt k hk).1))
      have HO7 : Hid (w7.ownsRow w.heap.size 9 1 (.slice ad7 (R ++ [xn]).length cp7) (R ++ [xn]).length ((R ++ [xn]).map Value.string)) := by show World.ownsRow _ _ _ _ _ _ _; rw [List.map_append, List.length_append]; exact hown7
      clear hown7 hg7 hat7 hoX hrX hbX hsX
      go_wp2_with fail
      go_roundw
      case rel => exact ⟨k + 1, R ++ [xn], ad7, cp7, by go_num, by simp, by omega, by simp; omega, HR2, HSM2, HO7, HB7⟩
      case measure => simp [intOf]; omega
theorem admit_way {L : List TenantD} {token target : ByteArray} {now op : Int} (h0 : okTs L = true) (h3 : timeB now = true) (h4 : ¬ op < 0) : admitV L token target now op = if (readV token).2.2 = false ∨ (tenantV L (readV token).1).2 = false ∨ signV token (tenantV L (readV token).1).1.key now = false then 401
  else if listV (tenantV L (readV token).1).1.list target = false then 403
  else if (tenantV L (readV token).1).1.quota ≤ op then 429 else 200 := by
  unfold admitV
  rw [if_neg (show ¬ (okTs L = false ∨ timeB now = false ∨ op < 0) by rw [h0, h3]; simp; omega)]
  have htv : tenantV L (readV token).1 = if 0 ≤ atV L (readV token).1 then (tn L (atV L (readV token).1).toNat, true) else (zTn, false) := by unfold tenantV; simp [h0]
  rw [htv]
  by_cases c : 0 ≤ atV L (readV token).1
  · have c2 : ¬ atV L (readV token).1 < 0 := by omega
    rw [if_pos c]
    by_cases hr : (readV token).2.2 = false
    · rw [if_pos (.inl hr), if_pos (.inl hr)]
    · by_cases hs : signV token (tn L (atV L (readV token).1).toNat).key now = false
      · rw [if_pos (.inr (.inr hs)), if_pos (.inr (.inr hs))]
      · have n1 : ¬ ((readV token).2.2 = false ∨ atV L (readV token).1 < 0 ∨ signV token (tn L (atV L (readV token).1).toNat).key now = false) := by rintro (h | h | h) <;> contradiction
        have n2 : ¬ ((readV token).2.2 = false ∨ ((tn L (atV L (readV token).1).toNat, true) : TenantD × Bool).2 = false ∨ signV token (tn L (atV L (readV token).1).toNat).key now = false) := by
          rintro (h | h | h)
          · contradiction
          · cases h
          · contradiction
        rw [if_neg n1, if_neg n2]
  · have c2 : atV L (readV token).1 < 0 := by omega
    rw [if_neg c, if_pos (.inr (.inl c2)), if_pos (.inr (.inl rfl))]
set_option maxHeartbeats 4000000 in
theorem implAdmitted (L : List TenantD) (token target : ByteArray) (now op : Int) (v : Value) (w : World) (hr : RdR tenantS w v L) (hL : L.length ≤ 1048576) (ht : token.size ≤ 2000000) (htg : target.size ≤ maxLen) (ht0 : TabV w) (he0 : ErrV w) :
    Calls Tryz.prog 7 #[v, .string token, .string target, .int .i64 now, .int .i64 op] w fun x w' => x = .returned (.int .i64 (admitV L token target now op)) ∧ Below w.heap.size w w' := by
  obtain ⟨ad, cap, rfl, h1, h2⟩ := hr.form
  obtain ⟨A, hA⟩ : ∃ A, admitV L token target now op = A := ⟨_, rfl⟩
  rw [hA]
  have HA : Hid (admitV L token target now op = A) := hA
  have HR := hide hr
  have HTB := hide ht0
  have HER := hide he0
  clear hA hr ht0 he0
  have HBW := hide (Below.refl w.heap.size w)
  have hT := fun w h => implTenantsOk L (.slice ad L.length cap) w h
  have hM := fun w => implWithin now 0 1000000 w
  have hti : timeB now = inB now 0 1000000 := rfl
  cases h0 : okTs L
  · rw [h0] at hT
    have HV : Hid (A = 500) := by show A = _; rw [← HA.out]; unfold admitV; rw [if_pos (.inl h0)]
    go_enter Tryz.func7, Tryz.ntmps7
    go_wp2_with fail
    refine (hT _ (HR.out.new HBW.out)).mono ?_; rintro e w1 ⟨rfl, hb⟩; replace HBW := hide (bchain HBW.out hb); clear hb
    go_wp2_with fail
    go_ret; exact ⟨by rw [HV.out]; rfl, HBW.out⟩
  rw [h0] at hT
  cases h3 : inB now 0 1000000
  · rw [h3] at hM
    have HV : Hid (A = 500) := by show A = _; rw [← HA.out]; unfold admitV; rw [if_pos (.inr (.inl (by rw [hti]; exact h3)))]
    go_enter Tryz.func7, Tryz.ntmps7
    go_wp2_with fail
    refine (hT _ (HR.out.new HBW.out)).mono ?_; rintro e w1 ⟨rfl, hb⟩; replace HBW := hide (bchain HBW.out hb); clear hb
    go_wp2_with fail
    refine (hM _).mono ?_; rintro e w2 ⟨rfl, hsame⟩; obtain rfl := hsame.symm; clear hsame
    go_wp2_with fail
    go_ret; exact ⟨by rw [HV.out]; rfl, HBW.out⟩
  rw [h3] at hM
  rw [h3] at hti
  by_cases h4 : op < 0
  · have HV : Hid (A = 500) := by show A = _; rw [← HA.out]; unfold admitV; rw [if_pos (.inr (.inr h4))]
    go_enter Tryz.func7, Tryz.ntmps7
    go_wp2_with fail
    refine (hT _ (HR.out.new HBW.out)).mono ?_; rintro e w1 ⟨rfl, hb⟩; replace HBW := hide (bchain HBW.out hb); clear hb
    go_wp2_with fail
    refine (hM _).mono ?_; rintro e w2 ⟨rfl, hsame⟩; obtain rfl := hsame.symm; clear hsame
    go_wp2_with fail
    go_ret; exact ⟨by rw [HV.out]; rfl, HBW.out⟩
  have HA2 : Hid ((if (readV token).2.2 = false ∨ (tenantV L (readV token).1).2 = false ∨ signV token (tenantV L (readV token).1).1.key now = false then 401
  else if listV (tenantV L (readV token).1).1.list target = false then 403
  else if (tenantV L (readV token).1).1.quota ≤ op then 429 else 200) = A) := by
    show _ = A
    rw [← HA.out]
    exact (admit_way h0 hti h4).symm
  have hRd := fun w ht0 he0 => implReadToken token w ht ht0 he0
  obtain ⟨⟨rn, ru, rb⟩, hrv⟩ : ∃ x, readV token = x := ⟨_, rfl⟩
  rw [hrv] at hRd HA2
  dsimp only at hRd HA2
  have hTo := fun w h => implTenantOf L rn (.slice ad L.length cap) w h hL
  obtain ⟨⟨⟨xn, xk, xl, xq⟩, xb⟩, hxv⟩ : ∃ x, tenantV L rn = x := ⟨_, rfl⟩
  have hsz : xn.size ≤ 9223372036854775807 ∧ xk.size ≤ 1000 := by
    unfold tenantV at hxv
    split at hxv
    · rename_i c
      obtain ⟨k, hk, hzk, _⟩ := at_found c.2
      rw [hzk, Int.toNat_natCast] at hxv
      have e1 := (Prod.mk.inj hxv).1
      have hok := okTn_iff.1 ((okTs_iff.1 h0).2 k hk).1
      rw [e1] at hok
      have q1 := name_small hok.1
      have q2 := inB_true hok.2.1
      dsimp only at q1 q2
      omega
    · have e1 := (Prod.mk.inj hxv).1
      simp only [zTn, TenantD.mk.injEq] at e1
      obtain ⟨rfl, rfl, _⟩ := e1
      decide
  rw [hxv] at hTo HA2
  dsimp only at hTo HA2
  clear hrv hxv HA h0 h3 hti
  go_enter Tryz.func7, Tryz.ntmps7
  go_wp2_with fail
  refine (hT _ (HR.out.new HBW.out)).mono ?_; rintro e w1 ⟨rfl, hb⟩; replace HBW := hide (bchain HBW.out hb); clear hb
  go_wp2_with fail
  refine (hM _).mono ?_; rintro e w2 ⟨rfl, hsame⟩; obtain rfl := hsame.symm; clear hsame
  go_wp2_with fail
  refine (hRd _ (HTB.out.new HBW.out) (HER.out.new HBW.out)).mono ?_; rintro e w3 ⟨rfl, hb⟩; replace HBW := hide (bchain HBW.out hb); clear hb
  go_wp2_with fail
  refine (hTo _ (HR.out.new HBW.out)).mono ?_; rintro e w4 ⟨vl, rfl, ho4, hb4⟩
  obtain ⟨a4, p4, rfl, q1, q2⟩ := ho4.form
  replace HBW := hide (bchain HBW.out hb4)
  have hbX : Below w4.heap.size w4 (w4.alloc (.cells #[.string xn, .string xk, .slice a4 xl.length p4, .int .i64 xq] 32)) := (Below.refl _ _).alloc (Nat.le_refl _) _
  have HX := hide (rowIs_new w4 32 [.string xn, .string xk, .slice a4 xl.length p4, .int .i64 xq])
  have HLS := hide (ho4.rd.new hbX)
  clear hT hM hRd hTo hb4 ho4
  go_upto_region 5 with fail
  replace HBW := hide (bchain HBW.out hbX)
  generalize w4.alloc (.cells #[.string xn, .string xk, .slice a4 xl.length p4, .int .i64 xq] 32) = W at *
  generalize w4.heap.size = gx at *
  clear hbX
  have hSg := fun w ht0 he0 => implSigned token xk now w ht (by unfold maxLen; omega) ht0 he0
  cases rb
  · have HV : Hid (A = 401) := by show A = _; rw [← HA2.out, if_pos (.inl rfl)]
    go_wp2_with fail
    go_ret; exact ⟨by rw [HV.out]; rfl, HBW.out⟩
  cases xb
  · have HV : Hid (A = 401) := by show A = _; rw [← HA2.out, if_pos (.inr (.inl rfl))]
    go_wp2_with fail
    go_ret; exact ⟨by rw [HV.out]; rfl, HBW.out⟩
  have x1 := HX.out.cell (j := 1) rfl
  have xw := HX.out.lt
  cases h6 : signV token xk now
  · rw [h6] at hSg
    have HV : Hid (A = 401) := by show A = _; rw [← HA2.out, if_pos (.inr (.inr h6))]
    go_wp2_with fail
    refine (hSg _ (HTB.out.new HBW.out) (HER.out.new HBW.out)).mono ?_; rintro e w5 ⟨rfl, hb⟩; replace HBW := hide (bchain HBW.out hb); clear hb
    go_wp2_with fail
    go_ret; exact ⟨by rw [HV.out]; rfl, HBW.out⟩
  rw [h6] at hSg HA2
  go_wp2_with fail
  refine (hSg _ (HTB.out.new HBW.out) (HER.out.new HBW.out)).mono ?_; rintro e w5 ⟨rfl, hb5⟩
  replace HBW := hide (bchain HBW.out hb5)
  replace HX := hide (HX.out.new hb5)
  replace HLS := hide (HLS.out.new hb5)
  have hLd := fun w h => implListed xl target (.slice a4 xl.length p4) w h (fun s hs => by have := rd_small HLS.out s hs; unfold maxLen; omega) htg
  clear hb5 x1 xw hSg
  have x2 := HX.out.cell (j := 2) rfl
  have xw := HX.out.lt
  cases h7 : listV xl target
  · rw [h7] at hLd
    have HV : Hid (A = 403) := by show A = _; rw [← HA2.out, if_neg (by first | (simp; done) | (simp; omega)), if_pos h7]
    go_wp2_with fail
    refine (hLd _ (rd_strs HLS.out)).mono ?_; rintro e w6 ⟨rfl, hb⟩; replace HBW := hide (bchain HBW.out hb); clear hb
    go_wp2_with fail
    go_ret; exact ⟨by rw [HV.out]; rfl, HBW.out⟩
  rw [h7] at hLd
  go_wp2_with fail
  refine (hLd _ (rd_strs HLS.out)).mono ?_; rintro e w6 ⟨rfl, hb6⟩
  replace HBW := hide (bchain HBW.out hb6)
  replace HX := hide (HX.out.new hb6)
  clear hb6 x2 xw hLd HLS
  have x3 := HX.out.cell (j := 3) rfl
  have xw := HX.out.lt
  by_cases h8 : xq ≤ op
  · have HV : Hid (A = 429) := by show A = _; rw [← HA2.out, if_neg (by first | (simp; done) | (simp; omega)), if_neg (by rw [h7]; simp), if_pos h8]
    go_wp2_with fail
    go_ret; exact ⟨by rw [HV.out]; rfl, HBW.out⟩
  · have HV : Hid (A = 200) := by show A = _; rw [← HA2.out, if_neg (by first | (simp; done) | (simp; omega)), if_neg (by rw [h7]; simp), if_neg h8]
    have h8' : op < xq := by omega
    go_wp2_with fail
    go_ret; exact ⟨by rw [HV.out]; rfl, HBW.out⟩
end Go.Proofs.YtfemmnhfllbgjaaGreatDoor
