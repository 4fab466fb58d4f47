/- A Memory that is drawn: l2Draw. -/
import Derived.Test.YtdplpkobpoiioaaDrawCells3
import Derived.Test.YtdplpkobpoiioaaSpecPickO


namespace Go.Proofs.Ytdplpkobpoiioaa
open Go.RowKit
set_option linter.unusedSimpArgs false
set_option linter.unusedVariables false

set_option maxHeartbeats 4000000 in
theorem draw2 (g B : Nat) (w : World) (hc : Cur w g B) :
    Calls Try.prog 56 #[.pointer (some ⟨g, 0, none⟩)] w fun e w' => ∃ m : Mm, e = .returned (.agg #[m.cv, m.tv]) ∧ okM m.d = true ∧ OwnM w' w.heap.size w'.heap.size m ∧ Cur w' g B ∧ Moves g w w' := by
  have hgw := hc.lt
  obtain ⟨M, hM, hMl, hmk0⟩ := make_zeros 4 (by decide)
  have hmk : ∀ X : World, (Instr.makeSlice 24 (.int .i64 4) (.int .i64 4)).run Try.prog X = .ok (.slice (some ⟨X.heap.size, 0, none⟩) 4 4) (X.alloc (.cells M 2)) := hmk0
  clear hmk0
  go_enter Try.func56, Try.ntmps56
  go_wp2_with fail
  have D0 : DSt w (((w.alloc (.cells #[.slice none 0 0, .slice none 0 0] 27)).alloc (.cells M 2)).alloc (.cells #[.slice (some ⟨w.heap.size + 1, 0, none⟩) 4 4, .slice none 0 0] 27)) g B w.heap.size (w.heap.size + 1 + 1) ⟨.slice (some ⟨w.heap.size + 1, 0, none⟩) 4 4, List.replicate 4 0, .slice none 0 0, []⟩ := by
    have ho := owns_made (w.alloc (.cells #[.slice none 0 0, .slice none 0 0] 27)) M 2 1 4 (by omega) (by decide)
    rw [hMl] at ho
    simp only [World.size_alloc] at ho
    have ho' := ho.alloc (.cells #[.slice (some ⟨w.heap.size + 1, 0, none⟩) 4 4, .slice none 0 0] 27)
    refine ⟨⟨ho', ⟨World.ownsRow_nil _ _ _ _, (fun t ht => by cases ht), (by simp), ?_⟩, ?_, ?_⟩, ((hc.alloc _).alloc _).alloc _, (((Moves.refl g w).alloc _).alloc _).alloc _, (by simp [go_sem]), (by simp [go_sem]), (by intro o; simp [go_sem]), (by simp [go_sem]), (by simp [go_sem]), (by intro o; simp [go_sem]), (by simp), (by omega), rfl, hgw, ?_⟩
    · intro u hu k hk; simp at hu; subst hu; cases hk
    · intro u hu k _ hk; simp at hu; subst hu; cases hk
    · intro k hk; simp [Value.ownBlock] at hk; simp; omega
    · intro u hu; simp at hu; rcases hu with rfl | rfl <;> simp [Value.ownBlock]
  generalize (((w.alloc (.cells #[.slice none 0 0, .slice none 0 0] 27)).alloc (.cells M 2)).alloc (.cells #[.slice (some ⟨w.heap.size + 1, 0, none⟩) 4 4, .slice none 0 0] 27)) = W0 at *
  have HD0 := hide D0
  have hS0 := D0.lt
  clear D0 hmk hMl hM
  go_loopw [4] (fun i wr => ∃ (k : Nat) (C : List Int), i = .int .i64 k ∧ k ≤ 4 ∧ Hid (C.length = 4) ∧ (∀ c ∈ C, 0 ≤ c ∧ c ≤ 8) ∧ DSt w wr g B w.heap.size (w.heap.size + 1 + 1) ⟨.slice (some ⟨w.heap.size + 1, 0, none⟩) 4 4, C, .slice none 0 0, []⟩) (fun i _ => 4 - (intOf i).toNat)
  case atStart => exact ⟨0, List.replicate 4 0, rfl, by omega, rfl, fun c hc => by simp at hc; omega, HD0.out⟩
  case round =>
    obtain ⟨k, C, rfl, hk, HL, hC, hD⟩ := hrel
    have b0 := hD.b0; have hlt := hD.lt; have hcu := hD.cur
    have HD := hide hD; have HC := hide hC
    clear hD hC
    by_cases hlt4 : k < 4
    · have hk0 : (0 : Int) ≤ (k : Int) := by omega
      have hk1 : (k : Int) < 4 := by omega
      go_wp2_with fail
      go_region_held3 (fun w' => w'.cell? ⟨w.heap.size + 1 + 1, 0, none⟩ = some (.slice (some ⟨w.heap.size + 1, 0, none⟩) 4 4)) (first | go_keep | (simp [*, go_sem]; done))
        ((go_at_call 57; refine (below1 g B 9 _ hcu.drew (by omega)).mono ?_; rintro e w2 ⟨y, y0, y1, y2, rfl, hc2, hm2⟩; have y3 := y1 (by omega); have hm2' : Moves g wr w2 := (Moves.refl g wr).drew.trans hm2; have HD2 := hide (HD.out.on hm2' hc2); have b2 := HD2.out.b0; obtain ⟨gq, cq, eq1, _, _, _, _, _, eqc, eqf⟩ := owns_open HD2.out.own.cel (by simp only [HL.out]; omega); have fq := eqf k; have cq2 := eqc k _ (iv_get C k (by simp only [HL.out]; omega)); simp only [Value.slice.injEq, Option.some.injEq, Addr.mk.injEq] at eq1; obtain ⟨⟨rfl, z1, z2⟩, z3, z4⟩ := eq1; clear eqc eqf z1 z2 z3 z4))
      have HDn := hide (HD2.out.cell (g1 := w.heap.size + 1) rfl k y)
      have HLn : Hid ((C.set k y).length = 4) := by show _ = _; rw [List.length_set]; exact HL.out
      have HCn : Hid (∀ c ∈ C.set k y, 0 ≤ c ∧ c ≤ 8) := fun c hcm => by
        rcases List.mem_or_eq_of_mem_set hcm with h | rfl
        · exact HC.out c h
        · omega
      clear b0 b2 cq2 fq hm2 hm2' hc2 hcu
      go_wp2_with fail
      go_roundw
      case rel => exact ⟨k + 1, C.set k y, by go_num, by omega, HLn.out, HCn.out, HDn.out⟩
      case measure => simp [intOf]; omega
    · have hno : ¬ (k : Int) < 4 := by omega
      go_wp2_with fail
      refine (below1 g B 5 _ hcu (by omega)).mono ?_; rintro e w1 ⟨x, x0, x1, x2, rfl, hc1, hm1⟩
      have x3 := x1 (by omega)
      obtain ⟨x, rfl⟩ := Int.eq_ofNat_of_zero_le x0
      have HD1 := hide (HD.out.on hm1 hc1)
      clear hcu b0
      go_wp2_with fail
      go_loopw [5] (fun n wr => ∃ (q : Nat) (A : List Th) (v2 : Value), n = .int .i64 q ∧ q + A.length ≤ 4 ∧ (∀ t ∈ A, okTh t.d = true) ∧ DSt w wr g B w.heap.size (w.heap.size + 1 + 1) ⟨.slice (some ⟨w.heap.size + 1, 0, none⟩) 4 4, C, v2, A⟩) (fun n _ => (intOf n).toNat)
      case atStart => exact ⟨x, [], _, rfl, by simp; omega, (fun t ht => by cases ht), HD1.out⟩
      case round =>
        obtain ⟨q, A, v2, rfl, hq, hA, hD⟩ := hrel
        obtain ⟨wo, rfl⟩ : ∃ x : World, x = wr := ⟨_, rfl⟩
        have HDr := hide hD; have HA := hide hA
        have hcu := hD.cur
        clear hD hA
        by_cases hq0 : 0 < q
        · obtain ⟨q', rfl⟩ : ∃ q', q = q' + 1 := ⟨q - 1, by omega⟩
          have hbT : Below wo.heap.size wo (wo.alloc (.cells #[.slice none 0 0, .int .i64 0, .int .i64 0, .int .i64 0] 41)) := (Below.refl _ _).alloc (Nat.le_refl _) _
          go_wp2_with fail
          refine (below1 g B 8 _ (hcu.alloc _) (by omega)).mono ?_; rintro e w2 ⟨y, y0, y1, y2, rfl, hc2, hm2⟩
          have y3 := y1 (by omega)
          obtain ⟨y, rfl⟩ := Int.eq_ofNat_of_zero_le y0
          have hgr : g < wo.heap.size := hcu.lt
          have hs2 := hm2.size
          simp at hs2
          have t0 := hm2.cell wo.heap.size 0 (by simp) (by omega)
          have t1 := hm2.cell wo.heap.size 1 (by simp) (by omega)
          have t2 := hm2.cell wo.heap.size 2 (by simp) (by omega)
          have t3 := hm2.cell wo.heap.size 3 (by simp) (by omega)
          have tf := hm2.frozen wo.heap.size 0 (by simp) (by omega)
          simp at t0 t1 t2 t3 tf
          have hmW : Moves g wo w2 := (Moves.of_below hbT).trans hm2
          clear hbT hm2 hcu
          go_wp2_with fail
          go_loopw [7] (fun n wi => ∃ (r : Nat) (S : List St) (v3 : Value), n = .int .i64 r ∧ S.length + 2 * r ≤ 14 ∧ S.all okSt = true ∧ wi.ownsRow (wo.heap.size + 1) 44 3 v3 S.length (sv S) ∧ wi.cell? ⟨wo.heap.size, 0, none⟩ = some v3 ∧ wi.cell? ⟨wo.heap.size, 1, none⟩ = some (.int .i64 0) ∧ wi.cell? ⟨wo.heap.size, 2, none⟩ = some (.int .i64 0) ∧ wi.cell? ⟨wo.heap.size, 3, none⟩ = some (.int .i64 0) ∧ wi.frozen? ⟨wo.heap.size, 0, none⟩ = false ∧ Cur wi g B ∧ Moves g wo wi ∧ wo.heap.size < wi.heap.size) (fun n _ => (intOf n).toNat)
          case atStart => exact ⟨y, [], _, rfl, by simp; omega, rfl, World.ownsRow_nil _ _ _ _, t0, t1, t2, t3, tf, hc2, hmW, by omega⟩
          case round =>
            obtain ⟨r, S, v3, rfl, hr, hS, hown, i0, i1, i2, i3, jf, hci, hmi, hsi⟩ := hrel
            obtain ⟨ad3, cap3, rfl, _⟩ := owns_form hown
            have HOW := hide hown; have HSS := hide hS
            clear hown hS
            by_cases hr0 : 0 < r
            · obtain ⟨r', rfl⟩ : ∃ r', r = r' + 1 := ⟨r - 1, by omega⟩
              go_wp2_with fail
              refine (below1 g B 2 _ hci (by omega)).mono ?_; rintro e w3 ⟨c, c0, c1, c2, rfl, hc3, hm3⟩
              have c3 := c1 (by omega)
              go_wp2_with fail
              refine (once1 g B 2 _ hc3 (by omega)).mono ?_; rintro e w4 ⟨bo, rfl, hc4, hm4⟩
              have n4 : Moves g wo w4 := (hmi.trans hm3).trans hm4
              have hs3 := hm3.size; have hs4 := hm4.size
              have HV4 := hide (owns_moves (owns_moves HOW.out hm3 (by omega)) hm4 (by omega))
              have k4 : w4.cell? ⟨wo.heap.size, 0, none⟩ = some (.slice ad3 S.length cap3) := (hm4.cell _ 0 (by omega) (by omega)).trans ((hm3.cell _ 0 (by omega) (by omega)).trans i0)
              have f4 : w4.frozen? ⟨wo.heap.size, 0, none⟩ = false := (hm4.frozen _ 0 (by omega) (by omega)).trans ((hm3.frozen _ 0 (by omega) (by omega)).trans jf)
              have KK : ∀ (w6 : World) (o : Nat), Moves g w4 w6 → w6.cell? ⟨wo.heap.size, o, none⟩ = wr.cell? ⟨wo.heap.size, o, none⟩ := fun w6 o h => (h.cell _ o (by omega) (by omega)).trans ((hm4.cell _ o (by omega) (by omega)).trans (hm3.cell _ o (by omega) (by omega)))
              have HKK := hide KK
              clear KK hm3 hm4 hc3 i0 jf
              cases bo
              · go_wp2_with fail
                refine wp_region_any (by kernel_rfl) ?_
                change wpAny _ _ _ _ _ _ _ (World.drew _)
                have k4d : (World.drew w4).cell? ⟨wo.heap.size, 0, none⟩ = some (.slice ad3 S.length cap3) := k4
                refine wpAny_take (i := 0) (v := ?_) rfl (by kernel_rfl) (by kernel_rfl) (by kernel_rfl) (fun _ _ _ h => h) (Or.inl ⟨by rfl, ?_⟩) ?_; rotate_left; focus (intro w; go_simp; try with_reducible rfl)
                refine wpAny_take (i := 2) (v := ?_) rfl (by kernel_rfl) (by kernel_rfl) (by kernel_rfl) (fun _ _ _ h => h) (Or.inl ⟨by rfl, ?_⟩) ?_; rotate_left; focus (intro w; go_simp; try with_reducible rfl)
                refine wpAny_take (i := 5) (v := ?_) rfl (by kernel_rfl) (by kernel_rfl) (by kernel_rfl) (fun _ _ _ h => h) (Or.inl ⟨by rfl, ?_⟩) ?_; rotate_left; focus (intro w; go_simp; try with_reducible rfl)
                refine wpAny_take (i := 6) (v := ?_) rfl (by kernel_rfl) (by kernel_rfl) (by kernel_rfl) (fun _ _ _ h => h) (Or.inl ⟨by rfl, ?_⟩) ?_; rotate_left; focus (intro w; go_simp; try with_reducible rfl)
                refine wpAny_ready (rs := [1, 3]) (by kernel_rfl) (by simp) ?_
                refine AllReady.cons rfl (fun K hK => ?_) (AllReady.cons rfl (fun K hK => ?_) AllReady.nil)
                · go_simp
                  refine hK _ _ ?_; clear hK K
                  refine wpAny_ready (rs := [3]) (by kernel_rfl) (by simp) ?_
                  refine AllReady.cons rfl (fun K hK => ?_) AllReady.nil
                  go_simp
                  refine (below1 g B 3 _ hc4.drew (by omega)).mono ?_; rintro e w5 ⟨z, z0, z1, z2, rfl, hc5, hm5⟩
                  have z3 := z1 (by omega)
                  have hzw : IntKind.i64.wrap (1 + z) = 1 + z := by rw [IntKind.wrap_i64]; omega
                  have hs5 := hm5.size
                  have hs5' : w4.heap.size ≤ w5.heap.size := hs5
                  have l5 : wo.heap.size < w5.heap.size := by omega
                  have n5 : Moves g wo w5 := n4.drew.trans hm5
                  have HV5 := hide (owns_moves (owns_new HV4.out (Below.refl _ _).drew) hm5 (by omega))
                  have k5 : w5.cell? ⟨wo.heap.size, 0, none⟩ = some (.slice ad3 S.length cap3) := (hm5.cell wo.heap.size 0 (by show _ < w4.heap.size; omega) (by omega)).trans k4
                  have f5 : w5.frozen? ⟨wo.heap.size, 0, none⟩ = false := (hm5.frozen wo.heap.size 0 (by show _ < w4.heap.size; omega) (by omega)).trans f4
                  refine hK _ _ ?_; clear hK K
                  refine wpAny_take (i := 4) (v := ?_) rfl (by kernel_rfl) (by kernel_rfl) (by kernel_rfl) (fun _ _ _ h => h) (Or.inl ⟨by rfl, ?_⟩) ?_; rotate_left; focus (intro w; go_simp; try with_reducible rfl)
                  refine wpAny_ready (rs := [7]) (by kernel_rfl) (by simp) ?_
                  refine AllReady.cons rfl (fun K hK => ?_) AllReady.nil
                  go_simp
                  refine (below1 g B 4 _ hc5 (by omega)).mono ?_; rintro e w6 ⟨u, u0, u1, u2, rfl, hc6, hm6⟩
                  have u3 := u1 (by omega)
                  have hs6 := hm6.size
                  have l6 : wo.heap.size < w6.heap.size := by omega
                  have n6 : Moves g wo w6 := n5.trans hm6
                  have HV6 := hide (owns_moves HV5.out hm6 (by omega))
                  have k6 : w6.cell? ⟨wo.heap.size, 0, none⟩ = some (.slice ad3 S.length cap3) := (hm6.cell wo.heap.size 0 (by omega) (by omega)).trans k5
                  have f6 : w6.frozen? ⟨wo.heap.size, 0, none⟩ = false := (hm6.frozen wo.heap.size 0 (by omega) (by omega)).trans f5
                  refine hK _ _ ?_; clear hK K
                  refine wpAny_take (i := 8) (v := ?_) rfl (by kernel_rfl) (by kernel_rfl) (by kernel_rfl) (fun _ _ _ h => h) (Or.inl ⟨by rfl, ?_⟩) ?_; rotate_left; focus (intro w; go_simp; try with_reducible rfl)
                  refine wpAny_ready (rs := [9]) (by kernel_rfl) (by simp) ?_
                  refine AllReady.cons rfl (fun K hK => ?_) AllReady.nil
                  go_simp
                  refine hK _ _ ?_; clear hK K
                  refine wpAny_ready (rs := [10]) (by kernel_rfl) (by simp) ?_
                  refine AllReady.cons rfl (fun K hK => ?_) AllReady.nil
                  refine step_app _ (by rfl) _ _ 39 (by rfl) 44 (.agg #[.int .i64 0, .int .i64 0, .int .i64 0]) 3 24 Try.underlying39 (by kernel_rfl) rfl (by decide) (wo.heap.size + 1) (.slice ad3 S.length cap3) S.length (sv S) (by rfl) (owns_new HV6.out ((by repeat' (first | (with_reducible exact Below.refl _ _) | (with_reducible refine Below.drew ?_) | (with_reducible refine bo_drewN _ ?_) | (with_reducible refine bo_alloc ?_ _) | (refine bchain ?_ (by with_reducible assumption)) | (with_reducible refine Below.setCell ?_ ?_ _) | go_size)))) (.slice (some ⟨w6.heap.size, 0, none⟩) 1 1) 1 (sv [⟨1 + z, c, u⟩]) (by rfl) (reads_built w6 #[.int .i64 (1 + z), .int .i64 c, .int .i64 u] 44 1 3 rfl (by decide)) (one_sv _) (by omega) (by decide) (by simp; omega) ?_
                  intro ad7 cap7 w7 hown7 hgrow7 hat7
                  have q7 := after_app hgrow7 wo.heap.size (by omega) (fun e => by have := (HV6.out.lt _ e).1; omega)
                  have k7 : w7.cell? ⟨wo.heap.size, 0, none⟩ = some (.slice ad3 S.length cap3) := (World.cell?_of_block (a := ⟨wo.heap.size, 0, none⟩) q7).trans k6
                  have f7 : w7.frozen? ⟨wo.heap.size, 0, none⟩ = false := (World.frozen?_of_block (a := ⟨wo.heap.size, 0, none⟩) q7).trans f6
                  refine hK _ _ ?_; clear hK K
                  refine wpAny_take (i := 11) (v := ?_) rfl (by kernel_rfl) (by kernel_rfl) (by kernel_rfl) (fun _ _ _ h => h) (Or.inl ⟨by rfl, ?_⟩) ?_; rotate_left; focus (intro w; go_simp; try with_reducible rfl)
                  refine wpAny_ready (rs := [12]) (by kernel_rfl) (by simp) ?_
                  refine AllReady.cons rfl (fun K hK => ?_) AllReady.nil
                  go_simp
                  refine hK _ _ ?_; clear hK K
                  refine wpAny_done (by kernel_rfl) ?_ _
                  have KJ := fun o => HKK.out w6 o (((Moves.refl g w4).drew.trans hm5).trans hm6)
                  have HF := hide (grown_steps (R := [⟨1 + z, c, u⟩]) hgr HV6.out hgrow7 l6 hown7 rfl hc6 n6 k6 ((KJ 1).trans i1) ((KJ 2).trans i2) ((KJ 3).trans i3) f6)
                  have HS2 : Hid ((S ++ ([⟨1 + z, c, u⟩] : List St)).all okSt = true) := all_app HSS.out (by simp [okSt, rng]; omega)
                  clear KJ hown7 hgrow7 hat7 k4 k5 k7 f4 f5 f7 q7
                  go_wp2_with fail
                  go_roundw
                  case rel =>
                    obtain ⟨g1, g2, g3, g4, g5, g6, g7, g8, g9⟩ := HF.out
                    exact ⟨r', _, _, by go_num, by simp; omega, HS2.out, g1, g2, g3, g4, g5, g6, g7, g8, g9⟩
                  case measure => simp [intOf]
                · go_simp
                  refine (below1 g B 3 _ hc4.drew (by omega)).mono ?_; rintro e w5 ⟨z, z0, z1, z2, rfl, hc5, hm5⟩
                  have z3 := z1 (by omega)
                  have hzw : IntKind.i64.wrap (1 + z) = 1 + z := by rw [IntKind.wrap_i64]; omega
                  have hs5 := hm5.size
                  have hs5' : w4.heap.size ≤ w5.heap.size := hs5
                  have l5 : wo.heap.size < w5.heap.size := by omega
                  have n5 : Moves g wo w5 := n4.drew.trans hm5
                  have HV5 := hide (owns_moves (owns_new HV4.out (Below.refl _ _).drew) hm5 (by omega))
                  have k5 : w5.cell? ⟨wo.heap.size, 0, none⟩ = some (.slice ad3 S.length cap3) := (hm5.cell wo.heap.size 0 (by show _ < w4.heap.size; omega) (by omega)).trans k4
                  have f5 : w5.frozen? ⟨wo.heap.size, 0, none⟩ = false := (hm5.frozen wo.heap.size 0 (by show _ < w4.heap.size; omega) (by omega)).trans f4
                  refine hK _ _ ?_; clear hK K
                  refine wpAny_take (i := 4) (v := ?_) rfl (by kernel_rfl) (by kernel_rfl) (by kernel_rfl) (fun _ _ _ h => h) (Or.inl ⟨by rfl, ?_⟩) ?_; rotate_left; focus (intro w; go_simp; try with_reducible rfl)
                  refine wpAny_ready (rs := [1, 7]) (by kernel_rfl) (by simp) ?_
                  refine AllReady.cons rfl (fun K hK => ?_) (AllReady.cons rfl (fun K hK => ?_) AllReady.nil)
                  · go_simp
                    refine hK _ _ ?_; clear hK K
                    refine wpAny_ready (rs := [7]) (by kernel_rfl) (by simp) ?_
                    refine AllReady.cons rfl (fun K hK => ?_) AllReady.nil
                    go_simp
                    refine (below1 g B 4 _ hc5 (by omega)).mono ?_; rintro e w6 ⟨u, u0, u1, u2, rfl, hc6, hm6⟩
                    have u3 := u1 (by omega)
                    have hs6 := hm6.size
                    have l6 : wo.heap.size < w6.heap.size := by omega
                    have n6 : Moves g wo w6 := n5.trans hm6
                    have HV6 := hide (owns_moves HV5.out hm6 (by omega))
                    have k6 : w6.cell? ⟨wo.heap.size, 0, none⟩ = some (.slice ad3 S.length cap3) := (hm6.cell wo.heap.size 0 (by omega) (by omega)).trans k5
                    have f6 : w6.frozen? ⟨wo.heap.size, 0, none⟩ = false := (hm6.frozen wo.heap.size 0 (by omega) (by omega)).trans f5
                    refine hK _ _ ?_; clear hK K
                    refine wpAny_take (i := 8) (v := ?_) rfl (by kernel_rfl) (by kernel_rfl) (by kernel_rfl) (fun _ _ _ h => h) (Or.inl ⟨by rfl, ?_⟩) ?_; rotate_left; focus (intro w; go_simp; try with_reducible rfl)
                    refine wpAny_ready (rs := [9]) (by kernel_rfl) (by simp) ?_
                    refine AllReady.cons rfl (fun K hK => ?_) AllReady.nil
                    go_simp
                    refine hK _ _ ?_; clear hK K
                    refine wpAny_ready (rs := [10]) (by kernel_rfl) (by simp) ?_
                    refine AllReady.cons rfl (fun K hK => ?_) AllReady.nil
                    refine step_app _ (by rfl) _ _ 39 (by rfl) 44 (.agg #[.int .i64 0, .int .i64 0, .int .i64 0]) 3 24 Try.underlying39 (by kernel_rfl) rfl (by decide) (wo.heap.size + 1) (.slice ad3 S.length cap3) S.length (sv S) (by rfl) (owns_new HV6.out ((by repeat' (first | (with_reducible exact Below.refl _ _) | (with_reducible refine Below.drew ?_) | (with_reducible refine bo_drewN _ ?_) | (with_reducible refine bo_alloc ?_ _) | (refine bchain ?_ (by with_reducible assumption)) | (with_reducible refine Below.setCell ?_ ?_ _) | go_size)))) (.slice (some ⟨w6.heap.size, 0, none⟩) 1 1) 1 (sv [⟨1 + z, c, u⟩]) (by rfl) (reads_built w6 #[.int .i64 (1 + z), .int .i64 c, .int .i64 u] 44 1 3 rfl (by decide)) (one_sv _) (by omega) (by decide) (by simp; omega) ?_
                    intro ad7 cap7 w7 hown7 hgrow7 hat7
                    have q7 := after_app hgrow7 wo.heap.size (by omega) (fun e => by have := (HV6.out.lt _ e).1; omega)
                    have k7 : w7.cell? ⟨wo.heap.size, 0, none⟩ = some (.slice ad3 S.length cap3) := (World.cell?_of_block (a := ⟨wo.heap.size, 0, none⟩) q7).trans k6
                    have f7 : w7.frozen? ⟨wo.heap.size, 0, none⟩ = false := (World.frozen?_of_block (a := ⟨wo.heap.size, 0, none⟩) q7).trans f6
                    refine hK _ _ ?_; clear hK K
                    refine wpAny_take (i := 11) (v := ?_) rfl (by kernel_rfl) (by kernel_rfl) (by kernel_rfl) (fun _ _ _ h => h) (Or.inl ⟨by rfl, ?_⟩) ?_; rotate_left; focus (intro w; go_simp; try with_reducible rfl)
                    refine wpAny_ready (rs := [12]) (by kernel_rfl) (by simp) ?_
                    refine AllReady.cons rfl (fun K hK => ?_) AllReady.nil
                    go_simp
                    refine hK _ _ ?_; clear hK K
                    refine wpAny_done (by kernel_rfl) ?_ _
                    have KJ := fun o => HKK.out w6 o (((Moves.refl g w4).drew.trans hm5).trans hm6)
                    have HF := hide (grown_steps (R := [⟨1 + z, c, u⟩]) hgr HV6.out hgrow7 l6 hown7 rfl hc6 n6 k6 ((KJ 1).trans i1) ((KJ 2).trans i2) ((KJ 3).trans i3) f6)
                    have HS2 : Hid ((S ++ ([⟨1 + z, c, u⟩] : List St)).all okSt = true) := all_app HSS.out (by simp [okSt, rng]; omega)
                    clear KJ hown7 hgrow7 hat7 k4 k5 k7 f4 f5 f7 q7
                    go_wp2_with fail
                    go_roundw
                    case rel =>
                      obtain ⟨g1, g2, g3, g4, g5, g6, g7, g8, g9⟩ := HF.out
                      exact ⟨r', _, _, by go_num, by simp; omega, HS2.out, g1, g2, g3, g4, g5, g6, g7, g8, g9⟩
                    case measure => simp [intOf]
                  · go_simp
                    refine (below1 g B 4 _ hc5 (by omega)).mono ?_; rintro e w6 ⟨u, u0, u1, u2, rfl, hc6, hm6⟩
                    have u3 := u1 (by omega)
                    have hs6 := hm6.size
                    have l6 : wo.heap.size < w6.heap.size := by omega
                    have n6 : Moves g wo w6 := n5.trans hm6
                    have HV6 := hide (owns_moves HV5.out hm6 (by omega))
                    have k6 : w6.cell? ⟨wo.heap.size, 0, none⟩ = some (.slice ad3 S.length cap3) := (hm6.cell wo.heap.size 0 (by omega) (by omega)).trans k5
                    have f6 : w6.frozen? ⟨wo.heap.size, 0, none⟩ = false := (hm6.frozen wo.heap.size 0 (by omega) (by omega)).trans f5
                    refine hK _ _ ?_; clear hK K
                    refine wpAny_take (i := 8) (v := ?_) rfl (by kernel_rfl) (by kernel_rfl) (by kernel_rfl) (fun _ _ _ h => h) (Or.inl ⟨by rfl, ?_⟩) ?_; rotate_left; focus (intro w; go_simp; try with_reducible rfl)
                    refine wpAny_ready (rs := [1, 9]) (by kernel_rfl) (by simp) ?_
                    refine AllReady.cons rfl (fun K hK => ?_) (AllReady.cons rfl (fun K hK => ?_) AllReady.nil)
                    · go_simp
                      refine hK _ _ ?_; clear hK K
                      refine wpAny_ready (rs := [9]) (by kernel_rfl) (by simp) ?_
                      refine AllReady.cons rfl (fun K hK => ?_) AllReady.nil
                      go_simp
                      refine hK _ _ ?_; clear hK K
                      refine wpAny_ready (rs := [10]) (by kernel_rfl) (by simp) ?_
                      refine AllReady.cons rfl (fun K hK => ?_) AllReady.nil
                      refine step_app _ (by rfl) _ _ 39 (by rfl) 44 (.agg #[.int .i64 0, .int .i64 0, .int .i64 0]) 3 24 Try.underlying39 (by kernel_rfl) rfl (by decide) (wo.heap.size + 1) (.slice ad3 S.length cap3) S.length (sv S) (by rfl) (owns_new HV6.out ((by repeat' (first | (with_reducible exact Below.refl _ _) | (with_reducible refine Below.drew ?_) | (with_reducible refine bo_drewN _ ?_) | (with_reducible refine bo_alloc ?_ _) | (refine bchain ?_ (by with_reducible assumption)) | (with_reducible refine Below.setCell ?_ ?_ _) | go_size)))) (.slice (some ⟨w6.heap.size, 0, none⟩) 1 1) 1 (sv [⟨1 + z, c, u⟩]) (by rfl) (reads_built w6 #[.int .i64 (1 + z), .int .i64 c, .int .i64 u] 44 1 3 rfl (by decide)) (one_sv _) (by omega) (by decide) (by simp; omega) ?_
                      intro ad7 cap7 w7 hown7 hgrow7 hat7
                      have q7 := after_app hgrow7 wo.heap.size (by omega) (fun e => by have := (HV6.out.lt _ e).1; omega)
                      have k7 : w7.cell? ⟨wo.heap.size, 0, none⟩ = some (.slice ad3 S.length cap3) := (World.cell?_of_block (a := ⟨wo.heap.size, 0, none⟩) q7).trans k6
                      have f7 : w7.frozen? ⟨wo.heap.size, 0, none⟩ = false := (World.frozen?_of_block (a := ⟨wo.heap.size, 0, none⟩) q7).trans f6
                      refine hK _ _ ?_; clear hK K
                      refine wpAny_take (i := 11) (v := ?_) rfl (by kernel_rfl) (by kernel_rfl) (by kernel_rfl) (fun _ _ _ h => h) (Or.inl ⟨by rfl, ?_⟩) ?_; rotate_left; focus (intro w; go_simp; try with_reducible rfl)
                      refine wpAny_ready (rs := [12]) (by kernel_rfl) (by simp) ?_
                      refine AllReady.cons rfl (fun K hK => ?_) AllReady.nil
                      go_simp
                      refine hK _ _ ?_; clear hK K
                      refine wpAny_done (by kernel_rfl) ?_ _
                      have KJ := fun o => HKK.out w6 o (((Moves.refl g w4).drew.trans hm5).trans hm6)
                      have HF := hide (grown_steps (R := [⟨1 + z, c, u⟩]) hgr HV6.out hgrow7 l6 hown7 rfl hc6 n6 k6 ((KJ 1).trans i1) ((KJ 2).trans i2) ((KJ 3).trans i3) f6)
                      have HS2 : Hid ((S ++ ([⟨1 + z, c, u⟩] : List St)).all okSt = true) := all_app HSS.out (by simp [okSt, rng]; omega)
                      clear KJ hown7 hgrow7 hat7 k4 k5 k7 f4 f5 f7 q7
                      go_wp2_with fail
                      go_roundw
                      case rel =>
                        obtain ⟨g1, g2, g3, g4, g5, g6, g7, g8, g9⟩ := HF.out
                        exact ⟨r', _, _, by go_num, by simp; omega, HS2.out, g1, g2, g3, g4, g5, g6, g7, g8, g9⟩
                      case measure => simp [intOf]
                    · go_simp
                      refine hK _ _ ?_; clear hK K
                      have k7a : (World.alloc w6 (.cells #[.int .i64 (1 + z), .int .i64 c, .int .i64 u] 44)).cell? ⟨wo.heap.size, 0, none⟩ = some (.slice ad3 S.length cap3) := (((Below.refl _ w6).alloc (Nat.le_refl _) _).cell (p := ⟨wo.heap.size, 0, none⟩) l6).trans k6
                      refine wpAny_ready (rs := [1]) (by kernel_rfl) (by simp) ?_
                      refine AllReady.cons rfl (fun K hK => ?_) AllReady.nil
                      go_simp
                      refine hK _ _ ?_; clear hK K
                      refine wpAny_ready (rs := [10]) (by kernel_rfl) (by simp) ?_
                      refine AllReady.cons rfl (fun K hK => ?_) AllReady.nil
                      refine step_app _ (by rfl) _ _ 39 (by rfl) 44 (.agg #[.int .i64 0, .int .i64 0, .int .i64 0]) 3 24 Try.underlying39 (by kernel_rfl) rfl (by decide) (wo.heap.size + 1) (.slice ad3 S.length cap3) S.length (sv S) (by rfl) (owns_new HV6.out ((by repeat' (first | (with_reducible exact Below.refl _ _) | (with_reducible refine Below.drew ?_) | (with_reducible refine bo_drewN _ ?_) | (with_reducible refine bo_alloc ?_ _) | (refine bchain ?_ (by with_reducible assumption)) | (with_reducible refine Below.setCell ?_ ?_ _) | go_size)))) (.slice (some ⟨w6.heap.size, 0, none⟩) 1 1) 1 (sv [⟨1 + z, c, u⟩]) (by rfl) (reads_built w6 #[.int .i64 (1 + z), .int .i64 c, .int .i64 u] 44 1 3 rfl (by decide)) (one_sv _) (by omega) (by decide) (by simp; omega) ?_
                      intro ad7 cap7 w7 hown7 hgrow7 hat7
                      have q7 := after_app hgrow7 wo.heap.size (by omega) (fun e => by have := (HV6.out.lt _ e).1; omega)
                      have k7 : w7.cell? ⟨wo.heap.size, 0, none⟩ = some (.slice ad3 S.length cap3) := (World.cell?_of_block (a := ⟨wo.heap.size, 0, none⟩) q7).trans k6
                      have f7 : w7.frozen? ⟨wo.heap.size, 0, none⟩ = false := (World.frozen?_of_block (a := ⟨wo.heap.size, 0, none⟩) q7).trans f6
                      refine hK _ _ ?_; clear hK K
                      refine wpAny_take (i := 11) (v := ?_) rfl (by kernel_rfl) (by kernel_rfl) (by kernel_rfl) (fun _ _ _ h => h) (Or.inl ⟨by rfl, ?_⟩) ?_; rotate_left; focus (intro w; go_simp; try with_reducible rfl)
                      refine wpAny_ready (rs := [12]) (by kernel_rfl) (by simp) ?_
                      refine AllReady.cons rfl (fun K hK => ?_) AllReady.nil
                      go_simp
                      refine hK _ _ ?_; clear hK K
                      refine wpAny_done (by kernel_rfl) ?_ _
                      have KJ := fun o => HKK.out w6 o (((Moves.refl g w4).drew.trans hm5).trans hm6)
                      have HF := hide (grown_steps (R := [⟨1 + z, c, u⟩]) hgr HV6.out hgrow7 l6 hown7 rfl hc6 n6 k6 ((KJ 1).trans i1) ((KJ 2).trans i2) ((KJ 3).trans i3) f6)
                      have HS2 : Hid ((S ++ ([⟨1 + z, c, u⟩] : List St)).all okSt = true) := all_app HSS.out (by simp [okSt, rng]; omega)
                      clear KJ hown7 hgrow7 hat7 k4 k5 k7 f4 f5 f7 q7
                      go_wp2_with fail
                      go_roundw
                      case rel =>
                        obtain ⟨g1, g2, g3, g4, g5, g6, g7, g8, g9⟩ := HF.out
                        exact ⟨r', _, _, by go_num, by simp; omega, HS2.out, g1, g2, g3, g4, g5, g6, g7, g8, g9⟩
                      case measure => simp [intOf]
              · go_wp2_with fail
                refine wp_region_any (by kernel_rfl) ?_
                change wpAny _ _ _ _ _ _ _ (World.drew _)
                have k4d : (World.drew w4).cell? ⟨wo.heap.size, 0, none⟩ = some (.slice ad3 S.length cap3) := k4
                refine wpAny_take (i := 0) (v := ?_) rfl (by kernel_rfl) (by kernel_rfl) (by kernel_rfl) (fun _ _ _ h => h) (Or.inl ⟨by rfl, ?_⟩) ?_; rotate_left; focus (intro w; go_simp; try with_reducible rfl)
                refine wpAny_take (i := 2) (v := ?_) rfl (by kernel_rfl) (by kernel_rfl) (by kernel_rfl) (fun _ _ _ h => h) (Or.inl ⟨by rfl, ?_⟩) ?_; rotate_left; focus (intro w; go_simp; try with_reducible rfl)
                refine wpAny_take (i := 3) (v := ?_) rfl (by kernel_rfl) (by kernel_rfl) (by kernel_rfl) (fun _ _ _ h => h) (Or.inl ⟨by rfl, ?_⟩) ?_; rotate_left; focus (intro w; go_simp; try with_reducible rfl)
                refine wpAny_take (i := 4) (v := ?_) rfl (by kernel_rfl) (by kernel_rfl) (by kernel_rfl) (fun _ _ _ h => h) (Or.inl ⟨by rfl, ?_⟩) ?_; rotate_left; focus (intro w; go_simp; try with_reducible rfl)
                refine wpAny_take (i := 5) (v := ?_) rfl (by kernel_rfl) (by kernel_rfl) (by kernel_rfl) (fun _ _ _ h => h) (Or.inl ⟨by rfl, ?_⟩) ?_; rotate_left; focus (intro w; go_simp; try with_reducible rfl)
                refine wpAny_ready (rs := [1, 6]) (by kernel_rfl) (by simp) ?_
                refine AllReady.cons rfl (fun K hK => ?_) (AllReady.cons rfl (fun K hK => ?_) AllReady.nil)
                · go_simp
                  refine hK _ _ ?_; clear hK K
                  refine wpAny_ready (rs := [6]) (by kernel_rfl) (by simp) ?_
                  refine AllReady.cons rfl (fun K hK => ?_) AllReady.nil
                  go_simp
                  refine (below1 g B 3 _ hc4.drew (by omega)).mono ?_; rintro e w5 ⟨z, z0, z1, z2, rfl, hc5, hm5⟩
                  have z3 := z1 (by omega)
                  have hzw : IntKind.i64.wrap (1 + z) = 1 + z := by rw [IntKind.wrap_i64]; omega
                  have hs5 := hm5.size
                  have hs5' : w4.heap.size ≤ w5.heap.size := hs5
                  have l5 : wo.heap.size < w5.heap.size := by omega
                  have n5 : Moves g wo w5 := n4.drew.trans hm5
                  have HV5 := hide (owns_moves (owns_new HV4.out (Below.refl _ _).drew) hm5 (by omega))
                  have k5 : w5.cell? ⟨wo.heap.size, 0, none⟩ = some (.slice ad3 S.length cap3) := (hm5.cell wo.heap.size 0 (by show _ < w4.heap.size; omega) (by omega)).trans k4
                  have f5 : w5.frozen? ⟨wo.heap.size, 0, none⟩ = false := (hm5.frozen wo.heap.size 0 (by show _ < w4.heap.size; omega) (by omega)).trans f4
                  refine hK _ _ ?_; clear hK K
                  refine wpAny_take (i := 7) (v := ?_) rfl (by kernel_rfl) (by kernel_rfl) (by kernel_rfl) (fun _ _ _ h => h) (Or.inl ⟨by rfl, ?_⟩) ?_; rotate_left; focus (intro w; go_simp; try with_reducible rfl)
                  refine wpAny_take (i := 8) (v := ?_) rfl (by kernel_rfl) (by kernel_rfl) (by kernel_rfl) (fun _ _ _ h => h) (Or.inl ⟨by rfl, ?_⟩) ?_; rotate_left; focus (intro w; go_simp; try with_reducible rfl)
                  refine wpAny_ready (rs := [9]) (by kernel_rfl) (by simp) ?_
                  refine AllReady.cons rfl (fun K hK => ?_) AllReady.nil
                  go_simp
                  refine hK _ _ ?_; clear hK K
                  refine wpAny_ready (rs := [10]) (by kernel_rfl) (by simp) ?_
                  refine AllReady.cons rfl (fun K hK => ?_) AllReady.nil
                  refine step_app _ (by rfl) _ _ 39 (by rfl) 44 (.agg #[.int .i64 0, .int .i64 0, .int .i64 0]) 3 24 Try.underlying39 (by kernel_rfl) rfl (by decide) (wo.heap.size + 1) (.slice ad3 S.length cap3) S.length (sv S) (by rfl) (owns_new HV5.out ((by repeat' (first | (with_reducible exact Below.refl _ _) | (with_reducible refine Below.drew ?_) | (with_reducible refine bo_drewN _ ?_) | (with_reducible refine bo_alloc ?_ _) | (refine bchain ?_ (by with_reducible assumption)) | (with_reducible refine Below.setCell ?_ ?_ _) | go_size)))) (.slice (some ⟨w5.heap.size, 0, none⟩) 2 2) 2 (sv [⟨1, c, 0⟩, ⟨3, c, 1 + z⟩]) (by rfl) (reads_built w5 #[.int .i64 1, .int .i64 c, .int .i64 0, .int .i64 3, .int .i64 c, .int .i64 (1 + z)] 44 2 3 rfl (by decide)) (one_sv _) (by omega) (by decide) (by simp; omega) ?_
                  intro ad7 cap7 w7 hown7 hgrow7 hat7
                  have q7 := after_app hgrow7 wo.heap.size (by omega) (fun e => by have := (HV5.out.lt _ e).1; omega)
                  have k7 : w7.cell? ⟨wo.heap.size, 0, none⟩ = some (.slice ad3 S.length cap3) := (World.cell?_of_block (a := ⟨wo.heap.size, 0, none⟩) q7).trans k5
                  have f7 : w7.frozen? ⟨wo.heap.size, 0, none⟩ = false := (World.frozen?_of_block (a := ⟨wo.heap.size, 0, none⟩) q7).trans f5
                  refine hK _ _ ?_; clear hK K
                  refine wpAny_take (i := 11) (v := ?_) rfl (by kernel_rfl) (by kernel_rfl) (by kernel_rfl) (fun _ _ _ h => h) (Or.inl ⟨by rfl, ?_⟩) ?_; rotate_left; focus (intro w; go_simp; try with_reducible rfl)
                  refine wpAny_ready (rs := [12]) (by kernel_rfl) (by simp) ?_
                  refine AllReady.cons rfl (fun K hK => ?_) AllReady.nil
                  go_simp
                  refine hK _ _ ?_; clear hK K
                  refine wpAny_done (by kernel_rfl) ?_ _
                  have KJ := fun o => HKK.out w5 o (((Moves.refl g w4).drew.trans hm5))
                  have HF := hide (grown_steps (R := [⟨1, c, 0⟩, ⟨3, c, 1 + z⟩]) hgr HV5.out hgrow7 l5 hown7 rfl hc5 n5 k5 ((KJ 1).trans i1) ((KJ 2).trans i2) ((KJ 3).trans i3) f5)
                  have HS2 : Hid ((S ++ ([⟨1, c, 0⟩, ⟨3, c, 1 + z⟩] : List St)).all okSt = true) := all_app HSS.out (by simp [okSt, rng]; omega)
                  clear KJ hown7 hgrow7 hat7 k4 k5 k7 f4 f5 f7 q7
                  go_wp2_with fail
                  go_roundw
                  case rel =>
                    obtain ⟨g1, g2, g3, g4, g5, g6, g7, g8, g9⟩ := HF.out
                    exact ⟨r', _, _, by go_num, by simp; omega, HS2.out, g1, g2, g3, g4, g5, g6, g7, g8, g9⟩
                  case measure => simp [intOf]
                · go_simp
                  refine (below1 g B 3 _ hc4.drew (by omega)).mono ?_; rintro e w5 ⟨z, z0, z1, z2, rfl, hc5, hm5⟩
                  have z3 := z1 (by omega)
                  have hzw : IntKind.i64.wrap (1 + z) = 1 + z := by rw [IntKind.wrap_i64]; omega
                  have hs5 := hm5.size
                  have hs5' : w4.heap.size ≤ w5.heap.size := hs5
                  have l5 : wo.heap.size < w5.heap.size := by omega
                  have n5 : Moves g wo w5 := n4.drew.trans hm5
                  have HV5 := hide (owns_moves (owns_new HV4.out (Below.refl _ _).drew) hm5 (by omega))
                  have k5 : w5.cell? ⟨wo.heap.size, 0, none⟩ = some (.slice ad3 S.length cap3) := (hm5.cell wo.heap.size 0 (by show _ < w4.heap.size; omega) (by omega)).trans k4
                  have f5 : w5.frozen? ⟨wo.heap.size, 0, none⟩ = false := (hm5.frozen wo.heap.size 0 (by show _ < w4.heap.size; omega) (by omega)).trans f4
                  refine hK _ _ ?_; clear hK K
                  refine wpAny_take (i := 7) (v := ?_) rfl (by kernel_rfl) (by kernel_rfl) (by kernel_rfl) (fun _ _ _ h => h) (Or.inl ⟨by rfl, ?_⟩) ?_; rotate_left; focus (intro w; go_simp; try with_reducible rfl)
                  refine wpAny_take (i := 8) (v := ?_) rfl (by kernel_rfl) (by kernel_rfl) (by kernel_rfl) (fun _ _ _ h => h) (Or.inl ⟨by rfl, ?_⟩) ?_; rotate_left; focus (intro w; go_simp; try with_reducible rfl)
                  refine wpAny_ready (rs := [1, 9]) (by kernel_rfl) (by simp) ?_
                  refine AllReady.cons rfl (fun K hK => ?_) (AllReady.cons rfl (fun K hK => ?_) AllReady.nil)
                  · go_simp
                    refine hK _ _ ?_; clear hK K
                    refine wpAny_ready (rs := [9]) (by kernel_rfl) (by simp) ?_
                    refine AllReady.cons rfl (fun K hK => ?_) AllReady.nil
                    go_simp
                    refine hK _ _ ?_; clear hK K
                    refine wpAny_ready (rs := [10]) (by kernel_rfl) (by simp) ?_
                    refine AllReady.cons rfl (fun K hK => ?_) AllReady.nil
                    refine step_app _ (by rfl) _ _ 39 (by rfl) 44 (.agg #[.int .i64 0, .int .i64 0, .int .i64 0]) 3 24 Try.underlying39 (by kernel_rfl) rfl (by decide) (wo.heap.size + 1) (.slice ad3 S.length cap3) S.length (sv S) (by rfl) (owns_new HV5.out ((by repeat' (first | (with_reducible exact Below.refl _ _) | (with_reducible refine Below.drew ?_) | (with_reducible refine bo_drewN _ ?_) | (with_reducible refine bo_alloc ?_ _) | (refine bchain ?_ (by with_reducible assumption)) | (with_reducible refine Below.setCell ?_ ?_ _) | go_size)))) (.slice (some ⟨w5.heap.size, 0, none⟩) 2 2) 2 (sv [⟨1, c, 0⟩, ⟨3, c, 1 + z⟩]) (by rfl) (reads_built w5 #[.int .i64 1, .int .i64 c, .int .i64 0, .int .i64 3, .int .i64 c, .int .i64 (1 + z)] 44 2 3 rfl (by decide)) (one_sv _) (by omega) (by decide) (by simp; omega) ?_
                    intro ad7 cap7 w7 hown7 hgrow7 hat7
                    have q7 := after_app hgrow7 wo.heap.size (by omega) (fun e => by have := (HV5.out.lt _ e).1; omega)
                    have k7 : w7.cell? ⟨wo.heap.size, 0, none⟩ = some (.slice ad3 S.length cap3) := (World.cell?_of_block (a := ⟨wo.heap.size, 0, none⟩) q7).trans k5
                    have f7 : w7.frozen? ⟨wo.heap.size, 0, none⟩ = false := (World.frozen?_of_block (a := ⟨wo.heap.size, 0, none⟩) q7).trans f5
                    refine hK _ _ ?_; clear hK K
                    refine wpAny_take (i := 11) (v := ?_) rfl (by kernel_rfl) (by kernel_rfl) (by kernel_rfl) (fun _ _ _ h => h) (Or.inl ⟨by rfl, ?_⟩) ?_; rotate_left; focus (intro w; go_simp; try with_reducible rfl)
                    refine wpAny_ready (rs := [12]) (by kernel_rfl) (by simp) ?_
                    refine AllReady.cons rfl (fun K hK => ?_) AllReady.nil
                    go_simp
                    refine hK _ _ ?_; clear hK K
                    refine wpAny_done (by kernel_rfl) ?_ _
                    have KJ := fun o => HKK.out w5 o (((Moves.refl g w4).drew.trans hm5))
                    have HF := hide (grown_steps (R := [⟨1, c, 0⟩, ⟨3, c, 1 + z⟩]) hgr HV5.out hgrow7 l5 hown7 rfl hc5 n5 k5 ((KJ 1).trans i1) ((KJ 2).trans i2) ((KJ 3).trans i3) f5)
                    have HS2 : Hid ((S ++ ([⟨1, c, 0⟩, ⟨3, c, 1 + z⟩] : List St)).all okSt = true) := all_app HSS.out (by simp [okSt, rng]; omega)
                    clear KJ hown7 hgrow7 hat7 k4 k5 k7 f4 f5 f7 q7
                    go_wp2_with fail
                    go_roundw
                    case rel =>
                      obtain ⟨g1, g2, g3, g4, g5, g6, g7, g8, g9⟩ := HF.out
                      exact ⟨r', _, _, by go_num, by simp; omega, HS2.out, g1, g2, g3, g4, g5, g6, g7, g8, g9⟩
                    case measure => simp [intOf]
                  · go_simp
                    refine hK _ _ ?_; clear hK K
                    have k7a : (World.alloc w5 (.cells #[.int .i64 1, .int .i64 c, .int .i64 0, .int .i64 3, .int .i64 c, .int .i64 (1 + z)] 44)).cell? ⟨wo.heap.size, 0, none⟩ = some (.slice ad3 S.length cap3) := (((Below.refl _ w5).alloc (Nat.le_refl _) _).cell (p := ⟨wo.heap.size, 0, none⟩) l5).trans k5
                    refine wpAny_ready (rs := [1]) (by kernel_rfl) (by simp) ?_
                    refine AllReady.cons rfl (fun K hK => ?_) AllReady.nil
                    go_simp
                    refine hK _ _ ?_; clear hK K
                    refine wpAny_ready (rs := [10]) (by kernel_rfl) (by simp) ?_
                    refine AllReady.cons rfl (fun K hK => ?_) AllReady.nil
                    refine step_app _ (by rfl) _ _ 39 (by rfl) 44 (.agg #[.int .i64 0, .int .i64 0, .int .i64 0]) 3 24 Try.underlying39 (by kernel_rfl) rfl (by decide) (wo.heap.size + 1) (.slice ad3 S.length cap3) S.length (sv S) (by rfl) (owns_new HV5.out ((by repeat' (first | (with_reducible exact Below.refl _ _) | (with_reducible refine Below.drew ?_) | (with_reducible refine bo_drewN _ ?_) | (with_reducible refine bo_alloc ?_ _) | (refine bchain ?_ (by with_reducible assumption)) | (with_reducible refine Below.setCell ?_ ?_ _) | go_size)))) (.slice (some ⟨w5.heap.size, 0, none⟩) 2 2) 2 (sv [⟨1, c, 0⟩, ⟨3, c, 1 + z⟩]) (by rfl) (reads_built w5 #[.int .i64 1, .int .i64 c, .int .i64 0, .int .i64 3, .int .i64 c, .int .i64 (1 + z)] 44 2 3 rfl (by decide)) (one_sv _) (by omega) (by decide) (by simp; omega) ?_
                    intro ad7 cap7 w7 hown7 hgrow7 hat7
                    have q7 := after_app hgrow7 wo.heap.size (by omega) (fun e => by have := (HV5.out.lt _ e).1; omega)
                    have k7 : w7.cell? ⟨wo.heap.size, 0, none⟩ = some (.slice ad3 S.length cap3) := (World.cell?_of_block (a := ⟨wo.heap.size, 0, none⟩) q7).trans k5
                    have f7 : w7.frozen? ⟨wo.heap.size, 0, none⟩ = false := (World.frozen?_of_block (a := ⟨wo.heap.size, 0, none⟩) q7).trans f5
                    refine hK _ _ ?_; clear hK K
                    refine wpAny_take (i := 11) (v := ?_) rfl (by kernel_rfl) (by kernel_rfl) (by kernel_rfl) (fun _ _ _ h => h) (Or.inl ⟨by rfl, ?_⟩) ?_; rotate_left; focus (intro w; go_simp; try with_reducible rfl)
                    refine wpAny_ready (rs := [12]) (by kernel_rfl) (by simp) ?_
                    refine AllReady.cons rfl (fun K hK => ?_) AllReady.nil
                    go_simp
                    refine hK _ _ ?_; clear hK K
                    refine wpAny_done (by kernel_rfl) ?_ _
                    have KJ := fun o => HKK.out w5 o (((Moves.refl g w4).drew.trans hm5))
                    have HF := hide (grown_steps (R := [⟨1, c, 0⟩, ⟨3, c, 1 + z⟩]) hgr HV5.out hgrow7 l5 hown7 rfl hc5 n5 k5 ((KJ 1).trans i1) ((KJ 2).trans i2) ((KJ 3).trans i3) f5)
                    have HS2 : Hid ((S ++ ([⟨1, c, 0⟩, ⟨3, c, 1 + z⟩] : List St)).all okSt = true) := all_app HSS.out (by simp [okSt, rng]; omega)
                    clear KJ hown7 hgrow7 hat7 k4 k5 k7 f4 f5 f7 q7
                    go_wp2_with fail
                    go_roundw
                    case rel =>
                      obtain ⟨g1, g2, g3, g4, g5, g6, g7, g8, g9⟩ := HF.out
                      exact ⟨r', _, _, by go_num, by simp; omega, HS2.out, g1, g2, g3, g4, g5, g6, g7, g8, g9⟩
                    case measure => simp [intOf]
            · obtain rfl : r = 0 := by omega
              have HD2 := hide (HDr.out.on hmi hci)
              obtain ⟨ad2, cap2, hv2, _, _⟩ := owns_form HD2.out.own.ths.row
              simp only at hv2
              subst hv2
              have b1 : wr.cell? ⟨w.heap.size + 1 + 1, 1, none⟩ = some (.slice ad2 A.length cap2) := HD2.out.b1
              have bf1 : wr.frozen? ⟨w.heap.size + 1 + 1, 1, none⟩ = false := HD2.out.bf 1
              have hlt2 := HD2.out.lt
              have hup : ∀ u ∈ (Value.slice (some ⟨w.heap.size + 1, 0, none⟩) 4 4) :: (Value.slice ad2 A.length cap2) :: A.map Th.sv, ∀ q, u.ownBlock = some q → q < wo.heap.size := fun u hu q hq => by
                rcases List.mem_cons.1 hu with rfl | hu
                · exact HDr.out.own.up q hq
                · exact HDr.out.own.ths.up u hu q hq
              have hlo : ∀ q, (Value.slice ad3 S.length cap3).ownBlock = some q → wo.heap.size + 1 ≤ q := fun q hq => (HOW.out.lt q hq).1
              have hbwo := HDr.out.lt
              have HAP : Hid (∀ u ∈ (Value.slice (some ⟨w.heap.size + 1, 0, none⟩) 4 4) :: (Value.slice ad2 A.length cap2) :: A.map Th.sv, Ap u (.slice ad3 S.length cap3)) := fun u hu q h1 h2 => by
                have := hup u hu q h1; have := hlo q h2; omega
              have HBX : Hid ((Value.slice ad3 S.length cap3).ownBlock ≠ some (w.heap.size + 1 + 1)) := fun e => by have := hlo _ e; omega
              have hwo2 := HDr.out.mov.size
              have HVB := hide (owns_base (base' := w.heap.size + 1) HOW.out fun q hq => by have := hlo q hq; omega)
              have HTH : Hid (okTh (Th.mk (.slice ad3 S.length cap3) S 0 0 0).d = true) := by
                exact okTh_new (S := S) HSS.out (by omega)
              have hA4 : A.length ≤ 4 := by omega
              clear hup hlo hci
              go_wp2_with (at_builtin; refine Hid.out ?_)
              show wpList _ _ _ _ _ _
              refine (wpList_app _ rfl _ _ 25 rfl 41 (.agg #[.slice none 0 0, .int .i64 0, .int .i64 0, .int .i64 0]) 4 48 Try.underlying25 (by kernel_rfl) rfl (by decide) (w.heap.size + 1) (.slice ad2 A.length cap2) A.length (tv A) rfl (HD2.out.own.ths.row.alloc _) (.slice (some ⟨wr.heap.size, 0, none⟩) 1 1) 1 [.slice ad3 S.length cap3, .int .i64 0, .int .i64 0, .int .i64 0] rfl (reads_built wr #[.slice ad3 S.length cap3, .int .i64 0, .int .i64 0, .int .i64 0] 41 1 4 rfl (by decide)) ?f3 ?f4 ?f5 ?f6 ?_)
              case f3 => exact one_th (w := w) (Th.mk (.slice ad3 S.length cap3) S 0 0 0) ⟨_, _, _, rfl⟩
              case f4 => omega
              case f5 => decide
              case f6 => simp; omega
              intro ad6 cap6 w6 hown6 hgrow6 hat6
              have HD3 := hide (DSt.thread (pos := 0) (seen := 0) (won := 0) HD2.out HVB.out HAP.out HBX.out hgrow6 hown6 hat6 rfl)
              have q6 := after_app hgrow6 (w.heap.size + 1 + 1) (by omega) (HD2.out.ne _ (by simp))
              have c6 : w6.cell? ⟨w.heap.size + 1 + 1, 1, none⟩ = some (.slice ad2 A.length cap2) := (World.cell?_of_block (a := ⟨w.heap.size + 1 + 1, 1, none⟩) q6).trans b1
              have f6 : w6.frozen? ⟨w.heap.size + 1 + 1, 1, none⟩ = false := (World.frozen?_of_block (a := ⟨w.heap.size + 1 + 1, 1, none⟩) q6).trans bf1
              have HA2 : Hid (∀ t ∈ A ++ [Th.mk (.slice ad3 S.length cap3) S 0 0 0], okTh t.d = true) := fun t ht => by
                rcases List.mem_append.1 ht with h | h
                · exact HA.out t h
                · simp at h; subst h; exact HTH.out
              clear hown6 hgrow6 hat6 q6 b1 bf1
              go_wp2_with fail
              go_roundw
              case rel => exact ⟨q', _, _, by go_num, by simp; omega, HA2.out, HD3.out⟩
              case measure => simp [intOf]
        · obtain rfl : q = 0 := by omega
          have HOK : Hid (okM (Mm.mk (.slice (some ⟨w.heap.size + 1, 0, none⟩) 4 4) C v2 A).d = true) := by
            show okM ⟨C, A.map Th.d⟩ = true
            refine okM_mk (by have h : C.length = 4 := HL.out; omega) (by simp; omega) (fun c hc => by have := HC.out c hc; omega) (fun d hd => ?_)
            obtain ⟨t, ht, rfl⟩ := List.mem_map.1 hd
            exact HA.out t ht
          go_wp2_with fail
          refine (below1 g B 14 _ hcu (by omega)).mono ?_; rintro e w9 ⟨y, y0, y1, y2, rfl, hc9, hm9⟩
          have y3 := y1 (by omega)
          obtain ⟨y, rfl⟩ := Int.eq_ofNat_of_zero_le y0
          have HP := hide (HDr.out.picks.on hm9 hc9)
          clear hm9 hc9 hcu
          go_wp2_with fail
          go_loopw [9] (fun n wp => ∃ (q : Nat) (m : Mm), n = .int .i64 q ∧ q ≤ 14 ∧ okM m.d = true ∧ PSt w wp g B w.heap.size (w.heap.size + 1 + 1) m) (fun n _ => (intOf n).toNat)
          case atStart => exact ⟨y, _, rfl, by omega, HOK.out, HP.out⟩
          case round =>
            obtain ⟨q, m, rfl, hq14, hok, hP⟩ := hrel
            obtain ⟨wp, rfl⟩ : ∃ x : World, x = wr := ⟨_, rfl⟩
            have HOKm := hide hok; have HPm := hide hP
            have hcp := hP.cur
            clear hok hP
            by_cases hq0 : 0 < q
            · obtain ⟨q', rfl⟩ : ∃ q', q = q' + 1 := ⟨q - 1, by omega⟩
              go_wp2_with fail
              refine (below1 g B 5 _ hcp (by omega)).mono ?_; rintro e w2 ⟨x, x0, x1, x2, rfl, hc2, hm2⟩
              have HP2 := hide (HPm.out.on hm2 hc2)
              go_wp2_with fail
              refine (specPickO m (w.heap.size + 1) w2.heap.size x (w.heap.size + 1 + 1) w2 HP2.out.own (Nat.le_refl _) HOKm.out HP2.out.b0 HP2.out.b1 HP2.out.lt HP2.out.n1 HP2.out.n2).mono ?_
              rintro e w3 ⟨⟨m', rfl, hd', hcv', htv', hO', hT'⟩, hoth⟩
              have HP3 := hide (HP2.out.picked hcv' htv' hO' hT' hoth)
              have HOK3 : Hid (okM m'.d = true) := by show _ = _; rw [hd']; exact pickR_ok HOKm.out x
              clear hd' hcv' htv' hO' hT' hoth hc2 hm2 hcp
              go_wp2_with fail
              go_roundw
              case rel => exact ⟨q', m', by go_num, by omega, HOK3.out, HP3.out⟩
              case measure => simp [intOf]
            · obtain rfl : q = 0 := by omega
              have b0 := HPm.out.b0; have b1 := HPm.out.b1
              have r0 := HPm.out.r0; have r1 := HPm.out.r1
              have rf0 := HPm.out.rf 0; have rf1 := HPm.out.rf 1
              have hlt := HPm.out.lt; have hge := HPm.out.ge
              obtain ⟨cv, cs, tvv, T⟩ := m
              simp only at b0 b1
              obtain ⟨adc, capc, hcv, _, _⟩ := owns_form HPm.out.own.cel
              obtain ⟨adt, capt, htv, _, _⟩ := owns_form HPm.out.own.ths.row
              simp only at hcv htv
              subst hcv htv
              have hne1 : w.heap.size ≠ w.heap.size + 1 + 1 := by omega
              have HOWN : Hid (∀ W : World, Turn w.heap.size (w.heap.size + 1) wp W → OwnM W w.heap.size W.heap.size ⟨.slice adc cs.length capc, cs, .slice adt T.length capt, T⟩ ∧ Cur W g B ∧ Moves g w W) := fun W hW => ⟨((HPm.out.own.far hW (.inr (by omega))).hi hW.size).lo (by omega), hcp.turn hW (by omega), HPm.out.mov.turned hW (by omega)⟩
              have HTW := hide ((Turn.refl w.heap.size (w.heap.size + 1) wp).setCell (p := ⟨w.heap.size, 0, none⟩) (.slice adc cs.length capc) (.inl ⟨by simp, by simp⟩) |>.setCell (p := ⟨w.heap.size, 1, none⟩) (.slice adt T.length capt) (.inl ⟨by simp, by simp⟩))
              go_wp2_with fail
              refine bodyPost_ret (v := .agg #[.slice adc cs.length capc, .slice adt T.length capt]) (by simp [results, Try.results56, go_sem, *]) rfl ?_
              obtain ⟨h1, h2, h3⟩ := HOWN.out _ HTW.out
              exact ⟨_, rfl, HOKm.out, h1, h2, h3⟩
end Go.Proofs.Ytdplpkobpoiioaa
