/- A Memory that is drawn, right or not: l2DrawAny. -/
import Derived.Test.YtdplpkobpoiioaaDrawCells4


namespace Go.Proofs.Ytdplpkobpoiioaa
open Go.RowKit
set_option linter.unusedSimpArgs false
set_option linter.unusedVariables false

theorem ints_at (xs : List Int) (w : World) (t : Nat) (ht : t < xs.length) : ∃ z : Int, (w.alloc (.cells (xs.map (Value.int .i64)).toArray 2)).cell? ⟨w.heap.size, t, none⟩ = some (.int .i64 z) := by
  refine ⟨xs[t], ?_⟩
  simp [ht]
/-- What is drawn: a Memory that reads, and owns its lists where it is right. -/
def Drawn (g B : Nat) (w w' : World) (e : Ending) : Prop :=
  ∃ m : Mm, e = .returned (.agg #[m.cv, m.tv]) ∧ ReadM w' m ∧ (okM m.d = true → OwnM w' w.heap.size w'.heap.size m) ∧ (∀ u ∈ m.cv :: m.tv :: m.ths.map Th.sv, ∀ k, u.ownBlock = some k → w.heap.size ≤ k) ∧ Cur w' g B ∧ Moves g w w'
/-- The places of an owned Memory. -/
theorem OwnM.places {w : World} {lo hi : Nat} {m : Mm} (h : OwnM w lo hi m) : ∀ u ∈ m.cv :: m.tv :: m.ths.map Th.sv, ∀ k, u.ownBlock = some k → lo ≤ k := by
  intro u hu k hk
  rcases List.mem_cons.1 hu with rfl | hu
  · exact (h.cel.lt k hk).1
  rcases List.mem_cons.1 hu with rfl | hu
  · exact (h.ths.row.lt k hk).1
  · obtain ⟨t, ht, rfl⟩ := List.mem_map.1 hu
    exact ((h.ths.st t ht).lt k hk).1
theorem DSt.ends {w wn W : World} {g B bx : Nat} {m : Mm} (h : DSt w wn g B w.heap.size bx m) (ht : Turn w.heap.size (w.heap.size + 1) wn W) : Drawn g B w W (.returned (.agg #[m.cv, m.tv])) := by
  have h4 := h.gw
  have ho : OwnM W w.heap.size W.heap.size m := ((h.own.far ht (.inr (by omega))).hi ht.size).lo (by omega)
  exact ⟨m, rfl, ho.read, fun _ => ho, ho.places, h.cur.turn ht (by omega), h.mov.turned ht (by omega)⟩

set_option maxHeartbeats 8000000 in
set_option maxRecDepth 100000 in
theorem drawAny (g B : Nat) (w : World) (hc : Cur w g B) :
    Calls Try.prog 35 #[.pointer (some ⟨g, 0, none⟩)] w fun e w' => Drawn g B w w' e := by
  have hgw := hc.lt
  go_enter Try.func35, Try.ntmps35
  go_wp2_with fail
  refine (draw2 g B _ (hc.alloc _)).mono ?_; rintro e w1 ⟨m, rfl, hok, ho, hc1, hm1⟩
  obtain ⟨cv, C, tvv, T⟩ := m
  have hpk := okM_parts (C := C) (T := T.map Th.d) hok
  have hC4 : C.length = 4 := by have := hpk.1; omega
  obtain ⟨gc, cap1, hcv, hcb, hcl, hcu, hcc, hcm, _, _⟩ := owns_open ho.cel (by simp only; omega)
  obtain ⟨ad2, cap2, htv, _, _⟩ := owns_form ho.ths.row
  simp only at hcv htv hcc
  rw [hC4] at hcv hcc
  subst hcv htv
  have hs1 := hm1.size
  simp at hs1 ho
  have hT6 : T.length ≤ 6 := by have := hpk.2.1; simp at this; omega
  have HC4 := hide hC4
  clear hC4
  have D0 : DSt w (w1.alloc (.cells #[.slice (some ⟨gc, 0, none⟩) 4 cap1, .slice ad2 T.length cap2] 27)) g B w.heap.size w1.heap.size ⟨.slice (some ⟨gc, 0, none⟩) 4 cap1, C, .slice ad2 T.length cap2, T⟩ := by
    have hb := (Below.refl w1.heap.size w1).alloc (Nat.le_refl _) (.cells #[.slice (some ⟨gc, 0, none⟩) 4 cap1, .slice ad2 T.length cap2] 27)
    have hr : ∀ o, (w1.alloc (.cells #[.slice (some ⟨gc, 0, none⟩) 4 cap1, .slice ad2 T.length cap2] 27)).cell? ⟨w.heap.size, o, none⟩ = (w.alloc (.cells #[.slice none 0 0, .slice none 0 0] 27)).cell? ⟨w.heap.size, o, none⟩ := fun o => (hb.cell (p := ⟨w.heap.size, o, none⟩) (by simp; omega)).trans (hm1.cell w.heap.size o (by simp) (by omega))
    have hf : ∀ o, (w1.alloc (.cells #[.slice (some ⟨gc, 0, none⟩) 4 cap1, .slice ad2 T.length cap2] 27)).frozen? ⟨w.heap.size, o, none⟩ = (w.alloc (.cells #[.slice none 0 0, .slice none 0 0] 27)).frozen? ⟨w.heap.size, o, none⟩ := fun o => (hb.frozen (p := ⟨w.heap.size, o, none⟩) (by simp; omega)).trans (hm1.frozen w.heap.size o (by simp) (by omega))
    refine ⟨(ho.new hb).hi (by simp), hc1.alloc _, (((Moves.refl g w).alloc _).trans hm1).alloc _, (by simp [go_sem]), (by simp [go_sem]), (by intro o; simp [go_sem]), (by rw [hr]; simp [go_sem]), (by rw [hr]; simp [go_sem]), (fun o => by rw [hf]; simp [go_sem]), (by simp), (by omega), rfl, hgw, ?_⟩
    intro u hu e
    have : w1.heap.size < w1.heap.size := by
      rcases List.mem_cons.1 hu with rfl | hu
      · exact ho.up _ e
      · exact ho.ths.up u hu _ e
    omega
  have HD0 := hide D0; have HOK := hide hok
  obtain ⟨bx, hbx⟩ : ∃ b, w1.heap.size = b := ⟨_, rfl⟩
  rw [hbx] at HD0
  clear D0 ho hc1 hm1 hok hpk
  have hgb : gc < bx := by omega
  clear hcb hcl hcu
  go_wp2_with fail
  refine (once1 g B 12 _ HD0.out.cur (by omega)).mono ?_; rintro e w3 ⟨v, rfl, hc3, hm3⟩
  have HD3 := hide (HD0.out.on hm3 hc3)
  clear hc3 hm3 HD0
  cases v
  · have b0 := HD3.out.b0; have b1 := HD3.out.b1
    have r0 := HD3.out.r0; have r1 := HD3.out.r1; have rf0 := HD3.out.rf 0; have rf1 := HD3.out.rf 1
    have hltn := HD3.out.lt; have hgen := HD3.out.ge
    simp only at b0 b1
    have HTW := hide (((Turn.refl w.heap.size (w.heap.size + 1) w3).setCell (p := ⟨w.heap.size, 0, none⟩) (.slice (some ⟨gc, 0, none⟩) 4 cap1) (.inl ⟨by simp, by simp⟩)).setCell (p := ⟨w.heap.size, 1, none⟩) (.slice ad2 T.length cap2) (.inl ⟨by simp, by simp⟩))
    clear hbx
    go_wp2_with fail
    refine bodyPost_ret (v := .agg #[.slice (some ⟨gc, 0, none⟩) 4 cap1, .slice ad2 T.length cap2]) (by simp [results, Try.results35, go_sem, *]) rfl ?_
    exact HD3.out.ends HTW.out
  go_wp2_with fail
  refine (below1 g B 5 _ HD3.out.cur (by omega)).mono ?_; rintro e w4 ⟨x, x0, x1, x2, rfl, hc4, hm4⟩
  have x5 := x1 (by omega)
  have HDx := hide (HD3.out.on hm4 hc4)
  clear hc4 hm4 HD3 x1 x2
  have hltx := HDx.out.lt; have hgex := HDx.out.ge
  have b0 : w4.cell? ⟨bx, 0, none⟩ = some (.slice (some ⟨gc, 0, none⟩) 4 cap1) := HDx.out.b0
  have b1 : w4.cell? ⟨bx, 1, none⟩ = some (.slice ad2 T.length cap2) := HDx.out.b1
  have bf0 := HDx.out.bf 0; have bf1 := HDx.out.bf 1
  clear hbx
  have : x = 0 ∨ x = 1 ∨ x = 2 ∨ x = 3 ∨ x = 4 := by omega
  rcases this with rfl | rfl | rfl | rfl | rfl
  · have r0 := HDx.out.r0; have r1 := HDx.out.r1; have rf0 := HDx.out.rf 0; have rf1 := HDx.out.rf 1
    have hc1 : ¬ cap1 = 1 := by omega
    have hc1b : 1 ≤ cap1 := by omega
    have hnrb : w.heap.size ≠ bx := by omega
    have hnbr : bx ≠ w.heap.size := by omega
    have HW : Hid (∀ W : World, W = ((w4.setCell ⟨bx, 0, none⟩ (.slice (some ⟨gc, 1, none⟩) 3 (cap1 - 1))).setCell ⟨w.heap.size, 0, none⟩ (.slice (some ⟨gc, 1, none⟩) 3 (cap1 - 1))).setCell ⟨w.heap.size, 1, none⟩ (.slice ad2 T.length cap2) → Drawn g B w W (.returned (.agg #[.slice (some ⟨gc, 1, none⟩) 3 (cap1 - 1), .slice ad2 T.length cap2]))) := by
      intro W hW
      have hD := HDx.out
      have h1 := owns_apart hD.own.cel ⟨bx, 0, none⟩ (.slice (some ⟨gc, 1, none⟩) 3 (cap1 - 1)) (hD.ne _ (by simp))
      have h2 : OwnTs (w4.setCell ⟨bx, 0, none⟩ (.slice (some ⟨gc, 1, none⟩) 3 (cap1 - 1))) (w.heap.size + 1) w4.heap.size (.slice ad2 T.length cap2) T := ⟨owns_apart hD.own.ths.row _ _ (hD.ne _ (by simp)), fun t ht => owns_apart (hD.own.ths.st t ht) _ _ (hD.ne t.sv (by simp; exact .inr (.inr ⟨t, ht, rfl⟩))), hD.own.ths.apart, hD.own.ths.up⟩
      have hO : OwnM (w4.setCell ⟨bx, 0, none⟩ (.slice (some ⟨gc, 1, none⟩) 3 (cap1 - 1))) (w.heap.size + 1) w4.heap.size ⟨.slice (some ⟨gc, 0, none⟩) 4 cap1, C, .slice ad2 T.length cap2, T⟩ := ⟨h1, h2, hD.own.apart, hD.own.up⟩
      have hTn : Turn w.heap.size (w.heap.size + 1) (w4.setCell ⟨bx, 0, none⟩ (.slice (some ⟨gc, 1, none⟩) 3 (cap1 - 1))) W := by
        rw [hW]
        exact ((Turn.refl _ _ _).setCell (p := ⟨w.heap.size, 0, none⟩) _ (.inl ⟨by simp, by simp⟩)).setCell (p := ⟨w.heap.size, 1, none⟩) _ (.inl ⟨by simp, by simp⟩)
      have hOW := hO.far hTn (.inr (by omega))
      obtain ⟨gq, cq, e1, _, _, e4, _, _, ecell, _⟩ := owns_open hOW.cel (by have h : C.length = 4 := HC4.out; simp only; omega)
      simp only [Value.slice.injEq, Option.some.injEq, Addr.mk.injEq] at e1
      obtain ⟨⟨rfl, _, _⟩, _, rfl⟩ := e1
      have hCl : C.length = 4 := HC4.out
      refine ⟨⟨.slice (some ⟨gc, 1, none⟩) 3 (cap1 - 1), C.tail, .slice ad2 T.length cap2, T⟩, rfl, ⟨⟨by simp [iv, hCl], some ⟨gc, 1, none⟩, cap1 - 1, by simp [hCl], by simp [hCl]; omega, by omega, fun _ => ⟨gc, 1, rfl, e4, fun j u hu => ?_⟩⟩, hOW.ths.read⟩, fun hk => ?_, ?_, (hD.cur.set _ _ (by simp; omega)).turn hTn (by omega), (hD.mov.setNew _ (by simp; omega) _).turned hTn (by omega)⟩
      · have := ecell (1 + j) u (by
          simp only [iv] at hu ⊢
          rw [List.map_tail, List.getElem?_tail] at hu
          rw [Nat.add_comm]; exact hu)
        exact this
      · have := (okM_parts (C := C.tail) (T := T.map Th.d) hk).1
        simp [hCl] at this
      · intro u hu k hk
        rcases List.mem_cons.1 hu with rfl | hu
        · have h1 : gc = k := by simpa [Value.ownBlock] using hk
          have := (hOW.cel.lt gc rfl).1
          omega
        · have := hOW.places u (List.mem_cons_of_mem _ hu) k hk
          omega
    go_wp2_with fail
    refine bodyPost_ret (v := .agg #[.slice (some ⟨gc, 1, none⟩) 3 (cap1 - 1), .slice ad2 T.length cap2]) (by simp [results, Try.results35, go_sem, *]) rfl ?_
    exact HW.out _ rfl
  · have r0 := HDx.out.r0; have r1 := HDx.out.r1; have rf0 := HDx.out.rf 0; have rf1 := HDx.out.rf 1
    have hcu4 := HDx.out.cur
    go_wp2_with fail
    have hcu5 : Cur (World.drew w4) g B := hcu4.drew
    have HDd := hide (HDx.out.new (w' := World.drew w4) ((Below.refl _ _).drew))
    have hS : (fun w' : World => w'.cell? ⟨bx, 0, none⟩ = some (.slice (some ⟨gc, 0, none⟩) 4 cap1)) (World.drew w4) := b0
    have hsd : (World.drew w4).heap.size = w4.heap.size := rfl
    refine wp_region_held (S := fun w' : World => w'.cell? ⟨bx, 0, none⟩ = some (.slice (some ⟨gc, 0, none⟩) 4 cap1)) (by kernel_rfl) ?_
    change wpAnyH _ _ _ _ _ _ _ _ (World.drew _)
    refine wpAnyH_take (i := 0) (v := ?_) rfl (by kernel_rfl) (by kernel_rfl) (by kernel_rfl) (fun _ _ _ h => h) (Or.inl ⟨by rfl, ?_⟩) hS ?_; rotate_left; focus (intro w hw; (try simp only at hw); go_simp; try with_reducible rfl)
    refine wpAnyH_take (i := 1) (v := ?_) rfl (by kernel_rfl) (by kernel_rfl) (by kernel_rfl) (fun _ _ _ h => h) (Or.inl ⟨by rfl, ?_⟩) hS ?_; rotate_left; focus (intro w hw; (try simp only at hw); go_simp; try with_reducible rfl)
    refine wpAnyH_take (i := 3) (v := ?_) rfl (by kernel_rfl) (by kernel_rfl) (by kernel_rfl) (fun _ _ _ h => h) (Or.inl ⟨by rfl, ?_⟩) hS ?_; rotate_left; focus (intro w hw; (try simp only at hw); go_simp; try with_reducible rfl)
    refine wpAnyH_ready (rs := [2, 4]) (by kernel_rfl) (by simp) ?_
    refine AllReadyH.cons rfl (fun K hK => ?_) (AllReadyH.cons rfl (fun K hK => ?_) AllReadyH.nil)
    · go_simp
      refine hK.out _ _ ?_ (fun hS => ?_)
      · exact (((Below.refl _ (World.drew w4)).alloc (Nat.le_refl _) _).cell (p := ⟨bx, 0, none⟩) hltx).trans b0
      clear hK K
      have HD5 := hide (HDd.out.new (w' := (World.drew w4).alloc (.cells #[.int .i64 (-1), .int .i64 1000000, .int .i64 1000001] 2)) ((Below.refl _ _).alloc (Nat.le_refl _) _))
      refine wpAnyH_ready (rs := [4]) (by kernel_rfl) (by simp) ?_
      refine AllReadyH.cons rfl (fun K hK => ?_) AllReadyH.nil
      go_simp
      refine (below1 g B 3 _ HD5.out.cur (by omega)).mono ?_; rintro e w5 ⟨y, y0, y1, y2, rfl, hc5, hm5⟩
      have y3 := y1 (by omega)
      obtain ⟨y, rfl⟩ := Int.eq_ofNat_of_zero_le y0
      have yn : y < 3 := by omega
      have yz : (0 : Int) ≤ (y : Int) := by omega
      have HD6 := hide (HD5.out.on hm5 hc5)
      obtain ⟨z, hz⟩ := ints_at [-1, 1000000, 1000001] (World.drew w4) y (by simp; omega)
      have hz2 : w5.cell? ⟨w4.heap.size, y, none⟩ = some (.int .i64 z) := (hm5.cell w4.heap.size y (by show _ < ((World.drew w4).alloc _).heap.size; simp) (by have := HDx.out.gw; omega)).trans hz
      refine hK.out _ _ HD6.out.b0 (fun hS => ?_)
      clear hK K hz
      obtain ⟨gq, cq, e1, _, _, _, _, _, ecell, efr⟩ := owns_open HD6.out.own.cel (by have h : C.length = 4 := HC4.out; simp only; omega)
      simp only [Value.slice.injEq, Option.some.injEq, Addr.mk.injEq] at e1
      obtain ⟨⟨rfl, q1, q2⟩, q3, rfl⟩ := e1
      clear q1 q2 q3
      have cc := ecell 0 _ (iv_get C 0 (by have h : C.length = 4 := HC4.out; omega))
      have cf := efr 0
      clear ecell efr
      refine wpAnyH_ready (rs := [5]) (by kernel_rfl) (by simp) ?_; refine AllReadyH.cons rfl (fun K hK => ?_) AllReadyH.nil; go_simp; refine hK.out _ _ hS (fun hS => ?_); clear hK K
      refine wpAnyH_ready (rs := [6]) (by kernel_rfl) (by simp) ?_; refine AllReadyH.cons rfl (fun K hK => ?_) AllReadyH.nil; go_simp; refine hK.out _ _ hS (fun hS => ?_); clear hK K
      refine wpAnyH_ready (rs := [7]) (by kernel_rfl) (by simp) ?_; refine AllReadyH.cons rfl (fun K hK => ?_) AllReadyH.nil; go_simp; refine hK.out _ _ hS (fun hS => ?_); clear hK K
      refine wpAnyH_ready (rs := [8]) (by kernel_rfl) (by simp) ?_
      refine AllReadyH.cons rfl (fun K hK => ?_) AllReadyH.nil
      go_simp
      refine hK.out _ _ ?_ (fun hS => ?_)
      · exact (cell_other (w := w5) (p := ⟨gc, 0, none⟩) bx 0 (by simp; omega)).trans hS
      clear hK K
      have HDn := hide (DSt.cell HD6.out (g1 := gc) rfl 0 z)
      refine wpAnyH_done (by kernel_rfl) ?_ _
      have b0 := HDn.out.b0; have b1 := HDn.out.b1
      have r0 := HDn.out.r0; have r1 := HDn.out.r1; have rf0 := HDn.out.rf 0; have rf1 := HDn.out.rf 1
      have hltn := HDn.out.lt
      simp only at b0 b1
      generalize (w5.setCell ⟨gc, 0, none⟩ (.int .i64 z)) = wn at *
      have HTW := hide (((Turn.refl w.heap.size (w.heap.size + 1) wn).setCell (p := ⟨w.heap.size, 0, none⟩) (.slice (some ⟨gc, 0, none⟩) 4 cap1) (.inl ⟨by simp, by simp⟩)).setCell (p := ⟨w.heap.size, 1, none⟩) (.slice ad2 T.length cap2) (.inl ⟨by simp, by simp⟩))
      go_wp2_with fail
      refine bodyPost_ret (v := .agg #[.slice (some ⟨gc, 0, none⟩) 4 cap1, .slice ad2 T.length cap2]) (by simp [results, Try.results35, go_sem, *]) rfl ?_
      exact HDn.out.ends HTW.out
    · go_simp
      refine (below1 g B 3 _ hcu5 (by omega)).mono ?_; rintro e w5 ⟨y, y0, y1, y2, rfl, hc5, hm5⟩
      have y3 := y1 (by omega)
      obtain ⟨y, rfl⟩ := Int.eq_ofNat_of_zero_le y0
      have yn : y < 3 := by omega
      have yz : (0 : Int) ≤ (y : Int) := by omega
      have HD5 := hide (HDd.out.on hm5 hc5)
      refine hK.out _ _ HD5.out.b0 (fun hS => ?_)
      clear hK K
      refine wpAnyH_ready (rs := [2]) (by kernel_rfl) (by simp) ?_
      refine AllReadyH.cons rfl (fun K hK => ?_) AllReadyH.nil
      go_simp
      have HD6 := hide (HD5.out.new (w' := w5.alloc (.cells #[.int .i64 (-1), .int .i64 1000000, .int .i64 1000001] 2)) ((Below.refl _ _).alloc (Nat.le_refl _) _))
      refine hK.out _ _ HD6.out.b0 (fun hS => ?_)
      clear hK K
      obtain ⟨z, hz2⟩ := ints_at [-1, 1000000, 1000001] w5 y (by simp; omega)
      simp only [List.map_cons, List.map_nil] at hz2
      generalize (w5.alloc (.cells #[.int .i64 (-1), .int .i64 1000000, .int .i64 1000001] 2)) = w6 at *
      obtain ⟨gq, cq, e1, _, _, _, _, _, ecell, efr⟩ := owns_open HD6.out.own.cel (by have h : C.length = 4 := HC4.out; simp only; omega)
      simp only [Value.slice.injEq, Option.some.injEq, Addr.mk.injEq] at e1
      obtain ⟨⟨rfl, q1, q2⟩, q3, rfl⟩ := e1
      clear q1 q2 q3
      have cc := ecell 0 _ (iv_get C 0 (by have h : C.length = 4 := HC4.out; omega))
      have cf := efr 0
      clear ecell efr
      refine wpAnyH_ready (rs := [5]) (by kernel_rfl) (by simp) ?_; refine AllReadyH.cons rfl (fun K hK => ?_) AllReadyH.nil; go_simp; refine hK.out _ _ hS (fun hS => ?_); clear hK K
      refine wpAnyH_ready (rs := [6]) (by kernel_rfl) (by simp) ?_; refine AllReadyH.cons rfl (fun K hK => ?_) AllReadyH.nil; go_simp; refine hK.out _ _ hS (fun hS => ?_); clear hK K
      refine wpAnyH_ready (rs := [7]) (by kernel_rfl) (by simp) ?_; refine AllReadyH.cons rfl (fun K hK => ?_) AllReadyH.nil; go_simp; refine hK.out _ _ hS (fun hS => ?_); clear hK K
      refine wpAnyH_ready (rs := [8]) (by kernel_rfl) (by simp) ?_
      refine AllReadyH.cons rfl (fun K hK => ?_) AllReadyH.nil
      go_simp
      refine hK.out _ _ ?_ (fun hS => ?_)
      · exact (cell_other (w := w6) (p := ⟨gc, 0, none⟩) bx 0 (by simp; omega)).trans hS
      clear hK K
      have HDn := hide (DSt.cell HD6.out (g1 := gc) rfl 0 z)
      refine wpAnyH_done (by kernel_rfl) ?_ _
      have b0 := HDn.out.b0; have b1 := HDn.out.b1
      have r0 := HDn.out.r0; have r1 := HDn.out.r1; have rf0 := HDn.out.rf 0; have rf1 := HDn.out.rf 1
      have hltn := HDn.out.lt
      simp only at b0 b1
      generalize (w6.setCell ⟨gc, 0, none⟩ (.int .i64 z)) = wn at *
      have HTW := hide (((Turn.refl w.heap.size (w.heap.size + 1) wn).setCell (p := ⟨w.heap.size, 0, none⟩) (.slice (some ⟨gc, 0, none⟩) 4 cap1) (.inl ⟨by simp, by simp⟩)).setCell (p := ⟨w.heap.size, 1, none⟩) (.slice ad2 T.length cap2) (.inl ⟨by simp, by simp⟩))
      go_wp2_with fail
      refine bodyPost_ret (v := .agg #[.slice (some ⟨gc, 0, none⟩) 4 cap1, .slice ad2 T.length cap2]) (by simp [results, Try.results35, go_sem, *]) rfl ?_
      exact HDn.out.ends HTW.out
  · go_wp2_with fail
    refine wp_region_any (by kernel_rfl) ?_
    change wpAny _ _ _ _ _ _ _ (World.drew _)
    have HDd := hide (HDx.out.new (w' := World.drew w4) ((Below.refl _ _).drew))
    have kd : (World.drew w4).cell? ⟨bx, 1, none⟩ = some (.slice ad2 T.length cap2) := HDd.out.b1
    refine wpAny_take (i := 0) (v := ?_) rfl (by kernel_rfl) (by kernel_rfl) (by kernel_rfl) (fun _ _ _ h => h) (Or.inl ⟨by rfl, ?_⟩) ?_; rotate_left; focus (intro w; go_simp; try with_reducible rfl)
    refine wpAny_take (i := 2) (v := ?_) rfl (by kernel_rfl) (by kernel_rfl) (by kernel_rfl) (fun _ _ _ h => h) (Or.inl ⟨by rfl, ?_⟩) ?_; rotate_left; focus (intro w; go_simp; try with_reducible rfl)
    refine wpAny_ready (rs := [1, 3]) (by kernel_rfl) (by simp) ?_
    refine AllReady.cons rfl (fun K hK => ?_) (AllReady.cons rfl (fun K hK => ?_) AllReady.nil)
    · go_simp
      refine hK _ _ ?_; clear hK K
      refine wpAny_ready (rs := [3]) (by kernel_rfl) (by simp) ?_
      refine AllReady.cons rfl (fun K hK => ?_) AllReady.nil
      go_simp
      refine (below1 g B 2 _ HDd.out.cur (by omega)).mono ?_; rintro e w5 ⟨x5, x5a, x5b, x5c, rfl, hc5, hm5⟩
      have HD5 := hide (HDd.out.on hm5 hc5)
      have k5 : w5.cell? ⟨bx, 1, none⟩ = some (.slice ad2 T.length cap2) := HD5.out.b1
      have bl5 := HD5.out.lt
      refine hK _ _ ?_; clear hK K
      refine wpAny_take (i := 4) (v := ?_) rfl (by kernel_rfl) (by kernel_rfl) (by kernel_rfl) (fun _ _ _ h => h) (Or.inl ⟨by rfl, ?_⟩) ?_; rotate_left; focus (intro w; go_simp; try with_reducible rfl)
      refine wpAny_ready (rs := [5]) (by kernel_rfl) (by simp) ?_
      refine AllReady.cons rfl (fun K hK => ?_) AllReady.nil
      go_simp
      refine hK _ _ ?_; clear hK K
      refine wpAny_ready (rs := [6]) (by kernel_rfl) (by simp) ?_
      refine AllReady.cons rfl (fun K hK => ?_) AllReady.nil
      refine step_app _ (by rfl) _ _ 25 (by rfl) 41 (.agg #[.slice none 0 0, .int .i64 0, .int .i64 0, .int .i64 0]) 4 48 Try.underlying25 (by kernel_rfl) rfl (by decide) (w.heap.size + 1) (.slice ad2 T.length cap2) T.length (tv T) (by rfl) (HD5.out.own.ths.row.alloc _) (.slice (some ⟨w5.heap.size, 0, none⟩) 1 1) 1 [.slice none 0 0, .int .i64 x5, .int .i64 0, .int .i64 0] (by rfl) (by have h := reads_built (w5) #[.slice none 0 0, .int .i64 x5, .int .i64 0, .int .i64 0] 41 1 4 rfl (by decide); (try simp only [World.size_alloc] at h); exact h) (one_th (w := w) (Th.mk (.slice none 0 0) ([] : List St) x5 0 0) ⟨_, _, _, rfl⟩) (by omega) (by decide) (by simp; omega) ?_
      intro ad6 cap6 w6 hown6 hgrow6 hat6
      have HDn := hide (DSt.thread (S := ([] : List St)) (pos := x5) (seen := 0) (won := 0) HD5.out (World.ownsRow_nil _ _ _ _) (fun u hu q h1 h2 => by cases h2) (fun e => by cases e) hgrow6 hown6 hat6 rfl)
      have q6 := after_app hgrow6 bx HD5.out.lt (HD5.out.ne _ (by simp))
      have c6 : w6.cell? ⟨bx, 1, none⟩ = some (.slice ad2 T.length cap2) := (World.cell?_of_block (a := ⟨bx, 1, none⟩) q6).trans HD5.out.b1
      have f6 : w6.frozen? ⟨bx, 1, none⟩ = false := (World.frozen?_of_block (a := ⟨bx, 1, none⟩) q6).trans (HD5.out.bf 1)
      refine hK _ _ ?_; clear hK K
      refine wpAny_take (i := 7) (v := ?_) rfl (by kernel_rfl) (by kernel_rfl) (by kernel_rfl) (fun _ _ _ h => h) (Or.inl ⟨by rfl, ?_⟩) ?_; rotate_left; focus (intro w; go_simp; try with_reducible rfl)
      refine wpAny_ready (rs := [8]) (by kernel_rfl) (by simp) ?_
      refine AllReady.cons rfl (fun K hK => ?_) AllReady.nil
      go_simp
      refine hK _ _ ?_; clear hK K
      refine wpAny_done (by kernel_rfl) ?_ _
      have b0 := HDn.out.b0
      have b1 := HDn.out.b1
      have r0 := HDn.out.r0; have r1 := HDn.out.r1; have rf0 := HDn.out.rf 0; have rf1 := HDn.out.rf 1
      have hltn := HDn.out.lt
      generalize (w6.setCell ⟨bx, 1, none⟩ (.slice ad6 (T.length + 1) cap6)) = wn at *
      have HTW := hide (((Turn.refl w.heap.size (w.heap.size + 1) wn).setCell (p := ⟨w.heap.size, 0, none⟩) (.slice (some ⟨gc, 0, none⟩) 4 cap1) (.inl ⟨by simp, by simp⟩)).setCell (p := ⟨w.heap.size, 1, none⟩) (.slice ad6 (T.length + 1) cap6) (.inl ⟨by simp, by simp⟩))
      clear hown6 hgrow6 hat6 q6 c6 f6
      go_wp2_with fail
      refine bodyPost_ret (v := .agg #[.slice (some ⟨gc, 0, none⟩) 4 cap1, .slice ad6 (T.length + 1) cap6]) (by simp [results, Try.results35, go_sem, *]) rfl ?_
      exact HDn.out.ends HTW.out
    · go_simp
      refine (below1 g B 2 _ HDd.out.cur (by omega)).mono ?_; rintro e w5 ⟨x5, x5a, x5b, x5c, rfl, hc5, hm5⟩
      have HD5 := hide (HDd.out.on hm5 hc5)
      have k5 : w5.cell? ⟨bx, 1, none⟩ = some (.slice ad2 T.length cap2) := HD5.out.b1
      have bl5 := HD5.out.lt
      refine hK _ _ ?_; clear hK K
      refine wpAny_take (i := 4) (v := ?_) rfl (by kernel_rfl) (by kernel_rfl) (by kernel_rfl) (fun _ _ _ h => h) (Or.inl ⟨by rfl, ?_⟩) ?_; rotate_left; focus (intro w; go_simp; try with_reducible rfl)
      refine wpAny_ready (rs := [1, 5]) (by kernel_rfl) (by simp) ?_
      refine AllReady.cons rfl (fun K hK => ?_) (AllReady.cons rfl (fun K hK => ?_) AllReady.nil)
      · go_simp
        refine hK _ _ ?_; clear hK K
        refine wpAny_ready (rs := [5]) (by kernel_rfl) (by simp) ?_
        refine AllReady.cons rfl (fun K hK => ?_) AllReady.nil
        go_simp
        refine hK _ _ ?_; clear hK K
        refine wpAny_ready (rs := [6]) (by kernel_rfl) (by simp) ?_
        refine AllReady.cons rfl (fun K hK => ?_) AllReady.nil
        refine step_app _ (by rfl) _ _ 25 (by rfl) 41 (.agg #[.slice none 0 0, .int .i64 0, .int .i64 0, .int .i64 0]) 4 48 Try.underlying25 (by kernel_rfl) rfl (by decide) (w.heap.size + 1) (.slice ad2 T.length cap2) T.length (tv T) (by rfl) (HD5.out.own.ths.row.alloc _) (.slice (some ⟨w5.heap.size, 0, none⟩) 1 1) 1 [.slice none 0 0, .int .i64 x5, .int .i64 0, .int .i64 0] (by rfl) (by have h := reads_built (w5) #[.slice none 0 0, .int .i64 x5, .int .i64 0, .int .i64 0] 41 1 4 rfl (by decide); (try simp only [World.size_alloc] at h); exact h) (one_th (w := w) (Th.mk (.slice none 0 0) ([] : List St) x5 0 0) ⟨_, _, _, rfl⟩) (by omega) (by decide) (by simp; omega) ?_
        intro ad6 cap6 w6 hown6 hgrow6 hat6
        have HDn := hide (DSt.thread (S := ([] : List St)) (pos := x5) (seen := 0) (won := 0) HD5.out (World.ownsRow_nil _ _ _ _) (fun u hu q h1 h2 => by cases h2) (fun e => by cases e) hgrow6 hown6 hat6 rfl)
        have q6 := after_app hgrow6 bx HD5.out.lt (HD5.out.ne _ (by simp))
        have c6 : w6.cell? ⟨bx, 1, none⟩ = some (.slice ad2 T.length cap2) := (World.cell?_of_block (a := ⟨bx, 1, none⟩) q6).trans HD5.out.b1
        have f6 : w6.frozen? ⟨bx, 1, none⟩ = false := (World.frozen?_of_block (a := ⟨bx, 1, none⟩) q6).trans (HD5.out.bf 1)
        refine hK _ _ ?_; clear hK K
        refine wpAny_take (i := 7) (v := ?_) rfl (by kernel_rfl) (by kernel_rfl) (by kernel_rfl) (fun _ _ _ h => h) (Or.inl ⟨by rfl, ?_⟩) ?_; rotate_left; focus (intro w; go_simp; try with_reducible rfl)
        refine wpAny_ready (rs := [8]) (by kernel_rfl) (by simp) ?_
        refine AllReady.cons rfl (fun K hK => ?_) AllReady.nil
        go_simp
        refine hK _ _ ?_; clear hK K
        refine wpAny_done (by kernel_rfl) ?_ _
        have b0 := HDn.out.b0
        have b1 := HDn.out.b1
        have r0 := HDn.out.r0; have r1 := HDn.out.r1; have rf0 := HDn.out.rf 0; have rf1 := HDn.out.rf 1
        have hltn := HDn.out.lt
        generalize (w6.setCell ⟨bx, 1, none⟩ (.slice ad6 (T.length + 1) cap6)) = wn at *
        have HTW := hide (((Turn.refl w.heap.size (w.heap.size + 1) wn).setCell (p := ⟨w.heap.size, 0, none⟩) (.slice (some ⟨gc, 0, none⟩) 4 cap1) (.inl ⟨by simp, by simp⟩)).setCell (p := ⟨w.heap.size, 1, none⟩) (.slice ad6 (T.length + 1) cap6) (.inl ⟨by simp, by simp⟩))
        clear hown6 hgrow6 hat6 q6 c6 f6
        go_wp2_with fail
        refine bodyPost_ret (v := .agg #[.slice (some ⟨gc, 0, none⟩) 4 cap1, .slice ad6 (T.length + 1) cap6]) (by simp [results, Try.results35, go_sem, *]) rfl ?_
        exact HDn.out.ends HTW.out
      · go_simp
        refine hK _ _ ?_; clear hK K
        refine wpAny_ready (rs := [1]) (by kernel_rfl) (by simp) ?_
        refine AllReady.cons rfl (fun K hK => ?_) AllReady.nil
        go_simp
        refine hK _ _ ?_; clear hK K
        refine wpAny_ready (rs := [6]) (by kernel_rfl) (by simp) ?_
        refine AllReady.cons rfl (fun K hK => ?_) AllReady.nil
        refine step_app _ (by rfl) _ _ 25 (by rfl) 41 (.agg #[.slice none 0 0, .int .i64 0, .int .i64 0, .int .i64 0]) 4 48 Try.underlying25 (by kernel_rfl) rfl (by decide) (w.heap.size + 1) (.slice ad2 T.length cap2) T.length (tv T) (by rfl) (HD5.out.own.ths.row.alloc _) (.slice (some ⟨w5.heap.size, 0, none⟩) 1 1) 1 [.slice none 0 0, .int .i64 x5, .int .i64 0, .int .i64 0] (by rfl) (by have h := reads_built (w5) #[.slice none 0 0, .int .i64 x5, .int .i64 0, .int .i64 0] 41 1 4 rfl (by decide); (try simp only [World.size_alloc] at h); exact h) (one_th (w := w) (Th.mk (.slice none 0 0) ([] : List St) x5 0 0) ⟨_, _, _, rfl⟩) (by omega) (by decide) (by simp; omega) ?_
        intro ad6 cap6 w6 hown6 hgrow6 hat6
        have HDn := hide (DSt.thread (S := ([] : List St)) (pos := x5) (seen := 0) (won := 0) HD5.out (World.ownsRow_nil _ _ _ _) (fun u hu q h1 h2 => by cases h2) (fun e => by cases e) hgrow6 hown6 hat6 rfl)
        have q6 := after_app hgrow6 bx HD5.out.lt (HD5.out.ne _ (by simp))
        have c6 : w6.cell? ⟨bx, 1, none⟩ = some (.slice ad2 T.length cap2) := (World.cell?_of_block (a := ⟨bx, 1, none⟩) q6).trans HD5.out.b1
        have f6 : w6.frozen? ⟨bx, 1, none⟩ = false := (World.frozen?_of_block (a := ⟨bx, 1, none⟩) q6).trans (HD5.out.bf 1)
        refine hK _ _ ?_; clear hK K
        refine wpAny_take (i := 7) (v := ?_) rfl (by kernel_rfl) (by kernel_rfl) (by kernel_rfl) (fun _ _ _ h => h) (Or.inl ⟨by rfl, ?_⟩) ?_; rotate_left; focus (intro w; go_simp; try with_reducible rfl)
        refine wpAny_ready (rs := [8]) (by kernel_rfl) (by simp) ?_
        refine AllReady.cons rfl (fun K hK => ?_) AllReady.nil
        go_simp
        refine hK _ _ ?_; clear hK K
        refine wpAny_done (by kernel_rfl) ?_ _
        have b0 := HDn.out.b0
        have b1 := HDn.out.b1
        have r0 := HDn.out.r0; have r1 := HDn.out.r1; have rf0 := HDn.out.rf 0; have rf1 := HDn.out.rf 1
        have hltn := HDn.out.lt
        generalize (w6.setCell ⟨bx, 1, none⟩ (.slice ad6 (T.length + 1) cap6)) = wn at *
        have HTW := hide (((Turn.refl w.heap.size (w.heap.size + 1) wn).setCell (p := ⟨w.heap.size, 0, none⟩) (.slice (some ⟨gc, 0, none⟩) 4 cap1) (.inl ⟨by simp, by simp⟩)).setCell (p := ⟨w.heap.size, 1, none⟩) (.slice ad6 (T.length + 1) cap6) (.inl ⟨by simp, by simp⟩))
        clear hown6 hgrow6 hat6 q6 c6 f6
        go_wp2_with fail
        refine bodyPost_ret (v := .agg #[.slice (some ⟨gc, 0, none⟩) 4 cap1, .slice ad6 (T.length + 1) cap6]) (by simp [results, Try.results35, go_sem, *]) rfl ?_
        exact HDn.out.ends HTW.out

  · go_wp2_with fail
    refine wp_region_any (by kernel_rfl) ?_
    change wpAny _ _ _ _ _ _ _ (World.drew _)
    have HDd := hide (HDx.out.new (w' := World.drew w4) ((Below.refl _ _).drew))
    have kd : (World.drew w4).cell? ⟨bx, 1, none⟩ = some (.slice ad2 T.length cap2) := HDd.out.b1
    refine wpAny_take (i := 0) (v := ?_) rfl (by kernel_rfl) (by kernel_rfl) (by kernel_rfl) (fun _ _ _ h => h) (Or.inl ⟨by rfl, ?_⟩) ?_; rotate_left; focus (intro w; go_simp; try with_reducible rfl)
    refine wpAny_take (i := 2) (v := ?_) rfl (by kernel_rfl) (by kernel_rfl) (by kernel_rfl) (fun _ _ _ h => h) (Or.inl ⟨by rfl, ?_⟩) ?_; rotate_left; focus (intro w; go_simp; try with_reducible rfl)
    refine wpAny_take (i := 4) (v := ?_) rfl (by kernel_rfl) (by kernel_rfl) (by kernel_rfl) (fun _ _ _ h => h) (Or.inl ⟨by rfl, ?_⟩) ?_; rotate_left; focus (intro w; go_simp; try with_reducible rfl)
    refine wpAny_take (i := 6) (v := ?_) rfl (by kernel_rfl) (by kernel_rfl) (by kernel_rfl) (fun _ _ _ h => h) (Or.inl ⟨by rfl, ?_⟩) ?_; rotate_left; focus (intro w; go_simp; try with_reducible rfl)
    refine wpAny_ready (rs := [1, 3]) (by kernel_rfl) (by simp) ?_
    refine AllReady.cons rfl (fun K hK => ?_) (AllReady.cons rfl (fun K hK => ?_) AllReady.nil)
    · go_simp
      refine hK _ _ ?_; clear hK K
      refine wpAny_ready (rs := [3]) (by kernel_rfl) (by simp) ?_
      refine AllReady.cons rfl (fun K hK => ?_) AllReady.nil
      go_simp
      refine (from1 g B 0 5 _ HDd.out.cur (by omega) (by omega) (by omega)).mono ?_; rintro e w5 ⟨x5, x5a, x5b, rfl, hc5, hm5⟩
      have HD5 := hide (HDd.out.on hm5 hc5)
      have k5 : w5.cell? ⟨bx, 1, none⟩ = some (.slice ad2 T.length cap2) := HD5.out.b1
      have bl5 := HD5.out.lt
      refine hK _ _ ?_; clear hK K
      refine wpAny_ready (rs := [5]) (by kernel_rfl) (by simp) ?_
      refine AllReady.cons rfl (fun K hK => ?_) AllReady.nil
      go_simp
      refine (from1 g B (-1) 6 _ HD5.out.cur (by omega) (by omega) (by omega)).mono ?_; rintro e w7 ⟨x7, x7a, x7b, rfl, hc7, hm7⟩
      have HD7 := hide (HD5.out.on hm7 hc7)
      have k7 : w7.cell? ⟨bx, 1, none⟩ = some (.slice ad2 T.length cap2) := HD7.out.b1
      have bl7 := HD7.out.lt
      refine hK _ _ ?_; clear hK K
      refine wpAny_ready (rs := [7]) (by kernel_rfl) (by simp) ?_
      refine AllReady.cons rfl (fun K hK => ?_) AllReady.nil
      go_simp
      refine (below1 g B 103 _ HD7.out.cur (by omega)).mono ?_; rintro e w8 ⟨x8, x8a, x8b, x8c, rfl, hc8, hm8⟩
      have HD8 := hide (HD7.out.on hm8 hc8)
      have k8 : w8.cell? ⟨bx, 1, none⟩ = some (.slice ad2 T.length cap2) := HD8.out.b1
      have bl8 := HD8.out.lt
      refine hK _ _ ?_; clear hK K
      refine wpAny_take (i := 8) (v := ?_) rfl (by kernel_rfl) (by kernel_rfl) (by kernel_rfl) (fun _ _ _ h => h) (Or.inl ⟨by rfl, ?_⟩) ?_; rotate_left; focus (intro w; go_simp; try with_reducible rfl)
      refine wpAny_ready (rs := [9]) (by kernel_rfl) (by simp) ?_
      refine AllReady.cons rfl (fun K hK => ?_) AllReady.nil
      go_simp
      refine hK _ _ ?_; clear hK K
      have HDw := hide (HD8.out.new (w' := w8.alloc (.cells #[.int .i64 x5, .int .i64 x7, .int .i64 x8] 44)) ((Below.refl _ _).alloc (Nat.le_refl _) _))
      have HVw := hide (owns_base (base' := w.heap.size + 1) (owns_made w8 #[.int .i64 x5, .int .i64 x7, .int .i64 x8] 44 3 1 rfl (by decide)) fun q hq => by have h1 := ((owns_made w8 #[.int .i64 x5, .int .i64 x7, .int .i64 x8] 44 3 1 rfl (by decide)).lt q hq).1; have := HD8.out.ge; have := HD8.out.lt; omega)
      have HAPw : Hid (∀ u ∈ (Value.slice (some ⟨gc, 0, none⟩) 4 cap1) :: (Value.slice ad2 T.length cap2) :: T.map Th.sv, Ap u (.slice (some ⟨w8.heap.size, 0, none⟩) 1 1)) := fun u hu q h1 h2 => by
        have h3 : w8.heap.size = q := by simpa [Value.ownBlock] using h2
        have h4 : q < w8.heap.size := by
          rcases List.mem_cons.1 hu with rfl | hu
          · exact HD8.out.own.up q h1
          · exact HD8.out.own.ths.up u hu q h1
        omega
      have HBXw : Hid ((Value.slice (some ⟨w8.heap.size, 0, none⟩) 1 1).ownBlock ≠ some bx) := by
        show some w8.heap.size ≠ some bx
        intro e
        injection e with e
        have := HD8.out.lt
        omega
      have kw : (w8.alloc (.cells #[.int .i64 x5, .int .i64 x7, .int .i64 x8] 44)).cell? ⟨bx, 1, none⟩ = some (.slice ad2 T.length cap2) := HDw.out.b1
      have blw := HDw.out.lt
      refine wpAny_take (i := 10) (v := ?_) rfl (by kernel_rfl) (by kernel_rfl) (by kernel_rfl) (fun _ _ _ h => h) (Or.inl ⟨by rfl, ?_⟩) ?_; rotate_left; focus (intro w; go_simp; try with_reducible rfl)
      refine wpAny_ready (rs := [11]) (by kernel_rfl) (by simp) ?_
      refine AllReady.cons rfl (fun K hK => ?_) AllReady.nil
      go_simp
      refine hK _ _ ?_; clear hK K
      refine wpAny_ready (rs := [12]) (by kernel_rfl) (by simp) ?_
      refine AllReady.cons rfl (fun K hK => ?_) AllReady.nil
      refine step_app _ (by rfl) _ _ 25 (by rfl) 41 (.agg #[.slice none 0 0, .int .i64 0, .int .i64 0, .int .i64 0]) 4 48 Try.underlying25 (by kernel_rfl) rfl (by decide) (w.heap.size + 1) (.slice ad2 T.length cap2) T.length (tv T) (by rfl) (HDw.out.own.ths.row.alloc _) (.slice (some ⟨w8.heap.size + 1, 0, none⟩) 1 1) 1 [.slice (some ⟨w8.heap.size, 0, none⟩) 1 1, .int .i64 0, .int .i64 0, .int .i64 0] (by rfl) (by have h := reads_built (w8.alloc (.cells #[.int .i64 x5, .int .i64 x7, .int .i64 x8] 44)) #[.slice (some ⟨w8.heap.size, 0, none⟩) 1 1, .int .i64 0, .int .i64 0, .int .i64 0] 41 1 4 rfl (by decide); (try simp only [World.size_alloc] at h); exact h) (one_th (w := w) (Th.mk (.slice (some ⟨w8.heap.size, 0, none⟩) 1 1) [⟨x5, x7, x8⟩] 0 0 0) ⟨_, _, _, rfl⟩) (by omega) (by decide) (by simp; omega) ?_
      intro ad6 cap6 w6 hown6 hgrow6 hat6
      have HDn := hide (DSt.thread (S := [⟨x5, x7, x8⟩]) (pos := 0) (seen := 0) (won := 0) HDw.out HVw.out HAPw.out HBXw.out hgrow6 hown6 hat6 rfl)
      have q6 := after_app hgrow6 bx HDw.out.lt (HDw.out.ne _ (by simp))
      have c6 : w6.cell? ⟨bx, 1, none⟩ = some (.slice ad2 T.length cap2) := (World.cell?_of_block (a := ⟨bx, 1, none⟩) q6).trans HDw.out.b1
      have f6 : w6.frozen? ⟨bx, 1, none⟩ = false := (World.frozen?_of_block (a := ⟨bx, 1, none⟩) q6).trans (HDw.out.bf 1)
      refine hK _ _ ?_; clear hK K
      refine wpAny_take (i := 13) (v := ?_) rfl (by kernel_rfl) (by kernel_rfl) (by kernel_rfl) (fun _ _ _ h => h) (Or.inl ⟨by rfl, ?_⟩) ?_; rotate_left; focus (intro w; go_simp; try with_reducible rfl)
      refine wpAny_ready (rs := [14]) (by kernel_rfl) (by simp) ?_
      refine AllReady.cons rfl (fun K hK => ?_) AllReady.nil
      go_simp
      refine hK _ _ ?_; clear hK K
      refine wpAny_done (by kernel_rfl) ?_ _
      have b0 := HDn.out.b0
      have b1 := HDn.out.b1
      have r0 := HDn.out.r0; have r1 := HDn.out.r1; have rf0 := HDn.out.rf 0; have rf1 := HDn.out.rf 1
      have hltn := HDn.out.lt
      generalize (w6.setCell ⟨bx, 1, none⟩ (.slice ad6 (T.length + 1) cap6)) = wn at *
      have HTW := hide (((Turn.refl w.heap.size (w.heap.size + 1) wn).setCell (p := ⟨w.heap.size, 0, none⟩) (.slice (some ⟨gc, 0, none⟩) 4 cap1) (.inl ⟨by simp, by simp⟩)).setCell (p := ⟨w.heap.size, 1, none⟩) (.slice ad6 (T.length + 1) cap6) (.inl ⟨by simp, by simp⟩))
      clear hown6 hgrow6 hat6 q6 c6 f6
      go_wp2_with fail
      refine bodyPost_ret (v := .agg #[.slice (some ⟨gc, 0, none⟩) 4 cap1, .slice ad6 (T.length + 1) cap6]) (by simp [results, Try.results35, go_sem, *]) rfl ?_
      exact HDn.out.ends HTW.out
    · go_simp
      refine (from1 g B 0 5 _ HDd.out.cur (by omega) (by omega) (by omega)).mono ?_; rintro e w5 ⟨x5, x5a, x5b, rfl, hc5, hm5⟩
      have HD5 := hide (HDd.out.on hm5 hc5)
      have k5 : w5.cell? ⟨bx, 1, none⟩ = some (.slice ad2 T.length cap2) := HD5.out.b1
      have bl5 := HD5.out.lt
      refine hK _ _ ?_; clear hK K
      refine wpAny_ready (rs := [1, 5]) (by kernel_rfl) (by simp) ?_
      refine AllReady.cons rfl (fun K hK => ?_) (AllReady.cons rfl (fun K hK => ?_) AllReady.nil)
      · go_simp
        refine hK _ _ ?_; clear hK K
        refine wpAny_ready (rs := [5]) (by kernel_rfl) (by simp) ?_
        refine AllReady.cons rfl (fun K hK => ?_) AllReady.nil
        go_simp
        refine (from1 g B (-1) 6 _ HD5.out.cur (by omega) (by omega) (by omega)).mono ?_; rintro e w7 ⟨x7, x7a, x7b, rfl, hc7, hm7⟩
        have HD7 := hide (HD5.out.on hm7 hc7)
        have k7 : w7.cell? ⟨bx, 1, none⟩ = some (.slice ad2 T.length cap2) := HD7.out.b1
        have bl7 := HD7.out.lt
        refine hK _ _ ?_; clear hK K
        refine wpAny_ready (rs := [7]) (by kernel_rfl) (by simp) ?_
        refine AllReady.cons rfl (fun K hK => ?_) AllReady.nil
        go_simp
        refine (below1 g B 103 _ HD7.out.cur (by omega)).mono ?_; rintro e w8 ⟨x8, x8a, x8b, x8c, rfl, hc8, hm8⟩
        have HD8 := hide (HD7.out.on hm8 hc8)
        have k8 : w8.cell? ⟨bx, 1, none⟩ = some (.slice ad2 T.length cap2) := HD8.out.b1
        have bl8 := HD8.out.lt
        refine hK _ _ ?_; clear hK K
        refine wpAny_take (i := 8) (v := ?_) rfl (by kernel_rfl) (by kernel_rfl) (by kernel_rfl) (fun _ _ _ h => h) (Or.inl ⟨by rfl, ?_⟩) ?_; rotate_left; focus (intro w; go_simp; try with_reducible rfl)
        refine wpAny_ready (rs := [9]) (by kernel_rfl) (by simp) ?_
        refine AllReady.cons rfl (fun K hK => ?_) AllReady.nil
        go_simp
        refine hK _ _ ?_; clear hK K
        have HDw := hide (HD8.out.new (w' := w8.alloc (.cells #[.int .i64 x5, .int .i64 x7, .int .i64 x8] 44)) ((Below.refl _ _).alloc (Nat.le_refl _) _))
        have HVw := hide (owns_base (base' := w.heap.size + 1) (owns_made w8 #[.int .i64 x5, .int .i64 x7, .int .i64 x8] 44 3 1 rfl (by decide)) fun q hq => by have h1 := ((owns_made w8 #[.int .i64 x5, .int .i64 x7, .int .i64 x8] 44 3 1 rfl (by decide)).lt q hq).1; have := HD8.out.ge; have := HD8.out.lt; omega)
        have HAPw : Hid (∀ u ∈ (Value.slice (some ⟨gc, 0, none⟩) 4 cap1) :: (Value.slice ad2 T.length cap2) :: T.map Th.sv, Ap u (.slice (some ⟨w8.heap.size, 0, none⟩) 1 1)) := fun u hu q h1 h2 => by
          have h3 : w8.heap.size = q := by simpa [Value.ownBlock] using h2
          have h4 : q < w8.heap.size := by
            rcases List.mem_cons.1 hu with rfl | hu
            · exact HD8.out.own.up q h1
            · exact HD8.out.own.ths.up u hu q h1
          omega
        have HBXw : Hid ((Value.slice (some ⟨w8.heap.size, 0, none⟩) 1 1).ownBlock ≠ some bx) := by
          show some w8.heap.size ≠ some bx
          intro e
          injection e with e
          have := HD8.out.lt
          omega
        have kw : (w8.alloc (.cells #[.int .i64 x5, .int .i64 x7, .int .i64 x8] 44)).cell? ⟨bx, 1, none⟩ = some (.slice ad2 T.length cap2) := HDw.out.b1
        have blw := HDw.out.lt
        refine wpAny_take (i := 10) (v := ?_) rfl (by kernel_rfl) (by kernel_rfl) (by kernel_rfl) (fun _ _ _ h => h) (Or.inl ⟨by rfl, ?_⟩) ?_; rotate_left; focus (intro w; go_simp; try with_reducible rfl)
        refine wpAny_ready (rs := [11]) (by kernel_rfl) (by simp) ?_
        refine AllReady.cons rfl (fun K hK => ?_) AllReady.nil
        go_simp
        refine hK _ _ ?_; clear hK K
        refine wpAny_ready (rs := [12]) (by kernel_rfl) (by simp) ?_
        refine AllReady.cons rfl (fun K hK => ?_) AllReady.nil
        refine step_app _ (by rfl) _ _ 25 (by rfl) 41 (.agg #[.slice none 0 0, .int .i64 0, .int .i64 0, .int .i64 0]) 4 48 Try.underlying25 (by kernel_rfl) rfl (by decide) (w.heap.size + 1) (.slice ad2 T.length cap2) T.length (tv T) (by rfl) (HDw.out.own.ths.row.alloc _) (.slice (some ⟨w8.heap.size + 1, 0, none⟩) 1 1) 1 [.slice (some ⟨w8.heap.size, 0, none⟩) 1 1, .int .i64 0, .int .i64 0, .int .i64 0] (by rfl) (by have h := reads_built (w8.alloc (.cells #[.int .i64 x5, .int .i64 x7, .int .i64 x8] 44)) #[.slice (some ⟨w8.heap.size, 0, none⟩) 1 1, .int .i64 0, .int .i64 0, .int .i64 0] 41 1 4 rfl (by decide); (try simp only [World.size_alloc] at h); exact h) (one_th (w := w) (Th.mk (.slice (some ⟨w8.heap.size, 0, none⟩) 1 1) [⟨x5, x7, x8⟩] 0 0 0) ⟨_, _, _, rfl⟩) (by omega) (by decide) (by simp; omega) ?_
        intro ad6 cap6 w6 hown6 hgrow6 hat6
        have HDn := hide (DSt.thread (S := [⟨x5, x7, x8⟩]) (pos := 0) (seen := 0) (won := 0) HDw.out HVw.out HAPw.out HBXw.out hgrow6 hown6 hat6 rfl)
        have q6 := after_app hgrow6 bx HDw.out.lt (HDw.out.ne _ (by simp))
        have c6 : w6.cell? ⟨bx, 1, none⟩ = some (.slice ad2 T.length cap2) := (World.cell?_of_block (a := ⟨bx, 1, none⟩) q6).trans HDw.out.b1
        have f6 : w6.frozen? ⟨bx, 1, none⟩ = false := (World.frozen?_of_block (a := ⟨bx, 1, none⟩) q6).trans (HDw.out.bf 1)
        refine hK _ _ ?_; clear hK K
        refine wpAny_take (i := 13) (v := ?_) rfl (by kernel_rfl) (by kernel_rfl) (by kernel_rfl) (fun _ _ _ h => h) (Or.inl ⟨by rfl, ?_⟩) ?_; rotate_left; focus (intro w; go_simp; try with_reducible rfl)
        refine wpAny_ready (rs := [14]) (by kernel_rfl) (by simp) ?_
        refine AllReady.cons rfl (fun K hK => ?_) AllReady.nil
        go_simp
        refine hK _ _ ?_; clear hK K
        refine wpAny_done (by kernel_rfl) ?_ _
        have b0 := HDn.out.b0
        have b1 := HDn.out.b1
        have r0 := HDn.out.r0; have r1 := HDn.out.r1; have rf0 := HDn.out.rf 0; have rf1 := HDn.out.rf 1
        have hltn := HDn.out.lt
        generalize (w6.setCell ⟨bx, 1, none⟩ (.slice ad6 (T.length + 1) cap6)) = wn at *
        have HTW := hide (((Turn.refl w.heap.size (w.heap.size + 1) wn).setCell (p := ⟨w.heap.size, 0, none⟩) (.slice (some ⟨gc, 0, none⟩) 4 cap1) (.inl ⟨by simp, by simp⟩)).setCell (p := ⟨w.heap.size, 1, none⟩) (.slice ad6 (T.length + 1) cap6) (.inl ⟨by simp, by simp⟩))
        clear hown6 hgrow6 hat6 q6 c6 f6
        go_wp2_with fail
        refine bodyPost_ret (v := .agg #[.slice (some ⟨gc, 0, none⟩) 4 cap1, .slice ad6 (T.length + 1) cap6]) (by simp [results, Try.results35, go_sem, *]) rfl ?_
        exact HDn.out.ends HTW.out
      · go_simp
        refine (from1 g B (-1) 6 _ HD5.out.cur (by omega) (by omega) (by omega)).mono ?_; rintro e w7 ⟨x7, x7a, x7b, rfl, hc7, hm7⟩
        have HD7 := hide (HD5.out.on hm7 hc7)
        have k7 : w7.cell? ⟨bx, 1, none⟩ = some (.slice ad2 T.length cap2) := HD7.out.b1
        have bl7 := HD7.out.lt
        refine hK _ _ ?_; clear hK K
        refine wpAny_ready (rs := [1, 7]) (by kernel_rfl) (by simp) ?_
        refine AllReady.cons rfl (fun K hK => ?_) (AllReady.cons rfl (fun K hK => ?_) AllReady.nil)
        · go_simp
          refine hK _ _ ?_; clear hK K
          refine wpAny_ready (rs := [7]) (by kernel_rfl) (by simp) ?_
          refine AllReady.cons rfl (fun K hK => ?_) AllReady.nil
          go_simp
          refine (below1 g B 103 _ HD7.out.cur (by omega)).mono ?_; rintro e w8 ⟨x8, x8a, x8b, x8c, rfl, hc8, hm8⟩
          have HD8 := hide (HD7.out.on hm8 hc8)
          have k8 : w8.cell? ⟨bx, 1, none⟩ = some (.slice ad2 T.length cap2) := HD8.out.b1
          have bl8 := HD8.out.lt
          refine hK _ _ ?_; clear hK K
          refine wpAny_take (i := 8) (v := ?_) rfl (by kernel_rfl) (by kernel_rfl) (by kernel_rfl) (fun _ _ _ h => h) (Or.inl ⟨by rfl, ?_⟩) ?_; rotate_left; focus (intro w; go_simp; try with_reducible rfl)
          refine wpAny_ready (rs := [9]) (by kernel_rfl) (by simp) ?_
          refine AllReady.cons rfl (fun K hK => ?_) AllReady.nil
          go_simp
          refine hK _ _ ?_; clear hK K
          have HDw := hide (HD8.out.new (w' := w8.alloc (.cells #[.int .i64 x5, .int .i64 x7, .int .i64 x8] 44)) ((Below.refl _ _).alloc (Nat.le_refl _) _))
          have HVw := hide (owns_base (base' := w.heap.size + 1) (owns_made w8 #[.int .i64 x5, .int .i64 x7, .int .i64 x8] 44 3 1 rfl (by decide)) fun q hq => by have h1 := ((owns_made w8 #[.int .i64 x5, .int .i64 x7, .int .i64 x8] 44 3 1 rfl (by decide)).lt q hq).1; have := HD8.out.ge; have := HD8.out.lt; omega)
          have HAPw : Hid (∀ u ∈ (Value.slice (some ⟨gc, 0, none⟩) 4 cap1) :: (Value.slice ad2 T.length cap2) :: T.map Th.sv, Ap u (.slice (some ⟨w8.heap.size, 0, none⟩) 1 1)) := fun u hu q h1 h2 => by
            have h3 : w8.heap.size = q := by simpa [Value.ownBlock] using h2
            have h4 : q < w8.heap.size := by
              rcases List.mem_cons.1 hu with rfl | hu
              · exact HD8.out.own.up q h1
              · exact HD8.out.own.ths.up u hu q h1
            omega
          have HBXw : Hid ((Value.slice (some ⟨w8.heap.size, 0, none⟩) 1 1).ownBlock ≠ some bx) := by
            show some w8.heap.size ≠ some bx
            intro e
            injection e with e
            have := HD8.out.lt
            omega
          have kw : (w8.alloc (.cells #[.int .i64 x5, .int .i64 x7, .int .i64 x8] 44)).cell? ⟨bx, 1, none⟩ = some (.slice ad2 T.length cap2) := HDw.out.b1
          have blw := HDw.out.lt
          refine wpAny_take (i := 10) (v := ?_) rfl (by kernel_rfl) (by kernel_rfl) (by kernel_rfl) (fun _ _ _ h => h) (Or.inl ⟨by rfl, ?_⟩) ?_; rotate_left; focus (intro w; go_simp; try with_reducible rfl)
          refine wpAny_ready (rs := [11]) (by kernel_rfl) (by simp) ?_
          refine AllReady.cons rfl (fun K hK => ?_) AllReady.nil
          go_simp
          refine hK _ _ ?_; clear hK K
          refine wpAny_ready (rs := [12]) (by kernel_rfl) (by simp) ?_
          refine AllReady.cons rfl (fun K hK => ?_) AllReady.nil
          refine step_app _ (by rfl) _ _ 25 (by rfl) 41 (.agg #[.slice none 0 0, .int .i64 0, .int .i64 0, .int .i64 0]) 4 48 Try.underlying25 (by kernel_rfl) rfl (by decide) (w.heap.size + 1) (.slice ad2 T.length cap2) T.length (tv T) (by rfl) (HDw.out.own.ths.row.alloc _) (.slice (some ⟨w8.heap.size + 1, 0, none⟩) 1 1) 1 [.slice (some ⟨w8.heap.size, 0, none⟩) 1 1, .int .i64 0, .int .i64 0, .int .i64 0] (by rfl) (by have h := reads_built (w8.alloc (.cells #[.int .i64 x5, .int .i64 x7, .int .i64 x8] 44)) #[.slice (some ⟨w8.heap.size, 0, none⟩) 1 1, .int .i64 0, .int .i64 0, .int .i64 0] 41 1 4 rfl (by decide); (try simp only [World.size_alloc] at h); exact h) (one_th (w := w) (Th.mk (.slice (some ⟨w8.heap.size, 0, none⟩) 1 1) [⟨x5, x7, x8⟩] 0 0 0) ⟨_, _, _, rfl⟩) (by omega) (by decide) (by simp; omega) ?_
          intro ad6 cap6 w6 hown6 hgrow6 hat6
          have HDn := hide (DSt.thread (S := [⟨x5, x7, x8⟩]) (pos := 0) (seen := 0) (won := 0) HDw.out HVw.out HAPw.out HBXw.out hgrow6 hown6 hat6 rfl)
          have q6 := after_app hgrow6 bx HDw.out.lt (HDw.out.ne _ (by simp))
          have c6 : w6.cell? ⟨bx, 1, none⟩ = some (.slice ad2 T.length cap2) := (World.cell?_of_block (a := ⟨bx, 1, none⟩) q6).trans HDw.out.b1
          have f6 : w6.frozen? ⟨bx, 1, none⟩ = false := (World.frozen?_of_block (a := ⟨bx, 1, none⟩) q6).trans (HDw.out.bf 1)
          refine hK _ _ ?_; clear hK K
          refine wpAny_take (i := 13) (v := ?_) rfl (by kernel_rfl) (by kernel_rfl) (by kernel_rfl) (fun _ _ _ h => h) (Or.inl ⟨by rfl, ?_⟩) ?_; rotate_left; focus (intro w; go_simp; try with_reducible rfl)
          refine wpAny_ready (rs := [14]) (by kernel_rfl) (by simp) ?_
          refine AllReady.cons rfl (fun K hK => ?_) AllReady.nil
          go_simp
          refine hK _ _ ?_; clear hK K
          refine wpAny_done (by kernel_rfl) ?_ _
          have b0 := HDn.out.b0
          have b1 := HDn.out.b1
          have r0 := HDn.out.r0; have r1 := HDn.out.r1; have rf0 := HDn.out.rf 0; have rf1 := HDn.out.rf 1
          have hltn := HDn.out.lt
          generalize (w6.setCell ⟨bx, 1, none⟩ (.slice ad6 (T.length + 1) cap6)) = wn at *
          have HTW := hide (((Turn.refl w.heap.size (w.heap.size + 1) wn).setCell (p := ⟨w.heap.size, 0, none⟩) (.slice (some ⟨gc, 0, none⟩) 4 cap1) (.inl ⟨by simp, by simp⟩)).setCell (p := ⟨w.heap.size, 1, none⟩) (.slice ad6 (T.length + 1) cap6) (.inl ⟨by simp, by simp⟩))
          clear hown6 hgrow6 hat6 q6 c6 f6
          go_wp2_with fail
          refine bodyPost_ret (v := .agg #[.slice (some ⟨gc, 0, none⟩) 4 cap1, .slice ad6 (T.length + 1) cap6]) (by simp [results, Try.results35, go_sem, *]) rfl ?_
          exact HDn.out.ends HTW.out
        · go_simp
          refine (below1 g B 103 _ HD7.out.cur (by omega)).mono ?_; rintro e w8 ⟨x8, x8a, x8b, x8c, rfl, hc8, hm8⟩
          have HD8 := hide (HD7.out.on hm8 hc8)
          have k8 : w8.cell? ⟨bx, 1, none⟩ = some (.slice ad2 T.length cap2) := HD8.out.b1
          have bl8 := HD8.out.lt
          refine hK _ _ ?_; clear hK K
          refine wpAny_take (i := 8) (v := ?_) rfl (by kernel_rfl) (by kernel_rfl) (by kernel_rfl) (fun _ _ _ h => h) (Or.inl ⟨by rfl, ?_⟩) ?_; rotate_left; focus (intro w; go_simp; try with_reducible rfl)
          refine wpAny_ready (rs := [1, 9]) (by kernel_rfl) (by simp) ?_
          refine AllReady.cons rfl (fun K hK => ?_) (AllReady.cons rfl (fun K hK => ?_) AllReady.nil)
          · go_simp
            refine hK _ _ ?_; clear hK K
            refine wpAny_ready (rs := [9]) (by kernel_rfl) (by simp) ?_
            refine AllReady.cons rfl (fun K hK => ?_) AllReady.nil
            go_simp
            refine hK _ _ ?_; clear hK K
            have HDw := hide (HD8.out.new (w' := w8.alloc (.cells #[.int .i64 x5, .int .i64 x7, .int .i64 x8] 44)) ((Below.refl _ _).alloc (Nat.le_refl _) _))
            have HVw := hide (owns_base (base' := w.heap.size + 1) (owns_made w8 #[.int .i64 x5, .int .i64 x7, .int .i64 x8] 44 3 1 rfl (by decide)) fun q hq => by have h1 := ((owns_made w8 #[.int .i64 x5, .int .i64 x7, .int .i64 x8] 44 3 1 rfl (by decide)).lt q hq).1; have := HD8.out.ge; have := HD8.out.lt; omega)
            have HAPw : Hid (∀ u ∈ (Value.slice (some ⟨gc, 0, none⟩) 4 cap1) :: (Value.slice ad2 T.length cap2) :: T.map Th.sv, Ap u (.slice (some ⟨w8.heap.size, 0, none⟩) 1 1)) := fun u hu q h1 h2 => by
              have h3 : w8.heap.size = q := by simpa [Value.ownBlock] using h2
              have h4 : q < w8.heap.size := by
                rcases List.mem_cons.1 hu with rfl | hu
                · exact HD8.out.own.up q h1
                · exact HD8.out.own.ths.up u hu q h1
              omega
            have HBXw : Hid ((Value.slice (some ⟨w8.heap.size, 0, none⟩) 1 1).ownBlock ≠ some bx) := by
              show some w8.heap.size ≠ some bx
              intro e
              injection e with e
              have := HD8.out.lt
              omega
            have kw : (w8.alloc (.cells #[.int .i64 x5, .int .i64 x7, .int .i64 x8] 44)).cell? ⟨bx, 1, none⟩ = some (.slice ad2 T.length cap2) := HDw.out.b1
            have blw := HDw.out.lt
            refine wpAny_take (i := 10) (v := ?_) rfl (by kernel_rfl) (by kernel_rfl) (by kernel_rfl) (fun _ _ _ h => h) (Or.inl ⟨by rfl, ?_⟩) ?_; rotate_left; focus (intro w; go_simp; try with_reducible rfl)
            refine wpAny_ready (rs := [11]) (by kernel_rfl) (by simp) ?_
            refine AllReady.cons rfl (fun K hK => ?_) AllReady.nil
            go_simp
            refine hK _ _ ?_; clear hK K
            refine wpAny_ready (rs := [12]) (by kernel_rfl) (by simp) ?_
            refine AllReady.cons rfl (fun K hK => ?_) AllReady.nil
            refine step_app _ (by rfl) _ _ 25 (by rfl) 41 (.agg #[.slice none 0 0, .int .i64 0, .int .i64 0, .int .i64 0]) 4 48 Try.underlying25 (by kernel_rfl) rfl (by decide) (w.heap.size + 1) (.slice ad2 T.length cap2) T.length (tv T) (by rfl) (HDw.out.own.ths.row.alloc _) (.slice (some ⟨w8.heap.size + 1, 0, none⟩) 1 1) 1 [.slice (some ⟨w8.heap.size, 0, none⟩) 1 1, .int .i64 0, .int .i64 0, .int .i64 0] (by rfl) (by have h := reads_built (w8.alloc (.cells #[.int .i64 x5, .int .i64 x7, .int .i64 x8] 44)) #[.slice (some ⟨w8.heap.size, 0, none⟩) 1 1, .int .i64 0, .int .i64 0, .int .i64 0] 41 1 4 rfl (by decide); (try simp only [World.size_alloc] at h); exact h) (one_th (w := w) (Th.mk (.slice (some ⟨w8.heap.size, 0, none⟩) 1 1) [⟨x5, x7, x8⟩] 0 0 0) ⟨_, _, _, rfl⟩) (by omega) (by decide) (by simp; omega) ?_
            intro ad6 cap6 w6 hown6 hgrow6 hat6
            have HDn := hide (DSt.thread (S := [⟨x5, x7, x8⟩]) (pos := 0) (seen := 0) (won := 0) HDw.out HVw.out HAPw.out HBXw.out hgrow6 hown6 hat6 rfl)
            have q6 := after_app hgrow6 bx HDw.out.lt (HDw.out.ne _ (by simp))
            have c6 : w6.cell? ⟨bx, 1, none⟩ = some (.slice ad2 T.length cap2) := (World.cell?_of_block (a := ⟨bx, 1, none⟩) q6).trans HDw.out.b1
            have f6 : w6.frozen? ⟨bx, 1, none⟩ = false := (World.frozen?_of_block (a := ⟨bx, 1, none⟩) q6).trans (HDw.out.bf 1)
            refine hK _ _ ?_; clear hK K
            refine wpAny_take (i := 13) (v := ?_) rfl (by kernel_rfl) (by kernel_rfl) (by kernel_rfl) (fun _ _ _ h => h) (Or.inl ⟨by rfl, ?_⟩) ?_; rotate_left; focus (intro w; go_simp; try with_reducible rfl)
            refine wpAny_ready (rs := [14]) (by kernel_rfl) (by simp) ?_
            refine AllReady.cons rfl (fun K hK => ?_) AllReady.nil
            go_simp
            refine hK _ _ ?_; clear hK K
            refine wpAny_done (by kernel_rfl) ?_ _
            have b0 := HDn.out.b0
            have b1 := HDn.out.b1
            have r0 := HDn.out.r0; have r1 := HDn.out.r1; have rf0 := HDn.out.rf 0; have rf1 := HDn.out.rf 1
            have hltn := HDn.out.lt
            generalize (w6.setCell ⟨bx, 1, none⟩ (.slice ad6 (T.length + 1) cap6)) = wn at *
            have HTW := hide (((Turn.refl w.heap.size (w.heap.size + 1) wn).setCell (p := ⟨w.heap.size, 0, none⟩) (.slice (some ⟨gc, 0, none⟩) 4 cap1) (.inl ⟨by simp, by simp⟩)).setCell (p := ⟨w.heap.size, 1, none⟩) (.slice ad6 (T.length + 1) cap6) (.inl ⟨by simp, by simp⟩))
            clear hown6 hgrow6 hat6 q6 c6 f6
            go_wp2_with fail
            refine bodyPost_ret (v := .agg #[.slice (some ⟨gc, 0, none⟩) 4 cap1, .slice ad6 (T.length + 1) cap6]) (by simp [results, Try.results35, go_sem, *]) rfl ?_
            exact HDn.out.ends HTW.out
          · go_simp
            refine hK _ _ ?_; clear hK K
            have HDw := hide (HD8.out.new (w' := w8.alloc (.cells #[.int .i64 x5, .int .i64 x7, .int .i64 x8] 44)) ((Below.refl _ _).alloc (Nat.le_refl _) _))
            have HVw := hide (owns_base (base' := w.heap.size + 1) (owns_made w8 #[.int .i64 x5, .int .i64 x7, .int .i64 x8] 44 3 1 rfl (by decide)) fun q hq => by have h1 := ((owns_made w8 #[.int .i64 x5, .int .i64 x7, .int .i64 x8] 44 3 1 rfl (by decide)).lt q hq).1; have := HD8.out.ge; have := HD8.out.lt; omega)
            have HAPw : Hid (∀ u ∈ (Value.slice (some ⟨gc, 0, none⟩) 4 cap1) :: (Value.slice ad2 T.length cap2) :: T.map Th.sv, Ap u (.slice (some ⟨w8.heap.size, 0, none⟩) 1 1)) := fun u hu q h1 h2 => by
              have h3 : w8.heap.size = q := by simpa [Value.ownBlock] using h2
              have h4 : q < w8.heap.size := by
                rcases List.mem_cons.1 hu with rfl | hu
                · exact HD8.out.own.up q h1
                · exact HD8.out.own.ths.up u hu q h1
              omega
            have HBXw : Hid ((Value.slice (some ⟨w8.heap.size, 0, none⟩) 1 1).ownBlock ≠ some bx) := by
              show some w8.heap.size ≠ some bx
              intro e
              injection e with e
              have := HD8.out.lt
              omega
            have kw : (w8.alloc (.cells #[.int .i64 x5, .int .i64 x7, .int .i64 x8] 44)).cell? ⟨bx, 1, none⟩ = some (.slice ad2 T.length cap2) := HDw.out.b1
            have blw := HDw.out.lt
            refine wpAny_take (i := 10) (v := ?_) rfl (by kernel_rfl) (by kernel_rfl) (by kernel_rfl) (fun _ _ _ h => h) (Or.inl ⟨by rfl, ?_⟩) ?_; rotate_left; focus (intro w; go_simp; try with_reducible rfl)
            refine wpAny_ready (rs := [1, 11]) (by kernel_rfl) (by simp) ?_
            refine AllReady.cons rfl (fun K hK => ?_) (AllReady.cons rfl (fun K hK => ?_) AllReady.nil)
            · go_simp
              refine hK _ _ ?_; clear hK K
              refine wpAny_ready (rs := [11]) (by kernel_rfl) (by simp) ?_
              refine AllReady.cons rfl (fun K hK => ?_) AllReady.nil
              go_simp
              refine hK _ _ ?_; clear hK K
              refine wpAny_ready (rs := [12]) (by kernel_rfl) (by simp) ?_
              refine AllReady.cons rfl (fun K hK => ?_) AllReady.nil
              refine step_app _ (by rfl) _ _ 25 (by rfl) 41 (.agg #[.slice none 0 0, .int .i64 0, .int .i64 0, .int .i64 0]) 4 48 Try.underlying25 (by kernel_rfl) rfl (by decide) (w.heap.size + 1) (.slice ad2 T.length cap2) T.length (tv T) (by rfl) (HDw.out.own.ths.row.alloc _) (.slice (some ⟨w8.heap.size + 1, 0, none⟩) 1 1) 1 [.slice (some ⟨w8.heap.size, 0, none⟩) 1 1, .int .i64 0, .int .i64 0, .int .i64 0] (by rfl) (by have h := reads_built (w8.alloc (.cells #[.int .i64 x5, .int .i64 x7, .int .i64 x8] 44)) #[.slice (some ⟨w8.heap.size, 0, none⟩) 1 1, .int .i64 0, .int .i64 0, .int .i64 0] 41 1 4 rfl (by decide); (try simp only [World.size_alloc] at h); exact h) (one_th (w := w) (Th.mk (.slice (some ⟨w8.heap.size, 0, none⟩) 1 1) [⟨x5, x7, x8⟩] 0 0 0) ⟨_, _, _, rfl⟩) (by omega) (by decide) (by simp; omega) ?_
              intro ad6 cap6 w6 hown6 hgrow6 hat6
              have HDn := hide (DSt.thread (S := [⟨x5, x7, x8⟩]) (pos := 0) (seen := 0) (won := 0) HDw.out HVw.out HAPw.out HBXw.out hgrow6 hown6 hat6 rfl)
              have q6 := after_app hgrow6 bx HDw.out.lt (HDw.out.ne _ (by simp))
              have c6 : w6.cell? ⟨bx, 1, none⟩ = some (.slice ad2 T.length cap2) := (World.cell?_of_block (a := ⟨bx, 1, none⟩) q6).trans HDw.out.b1
              have f6 : w6.frozen? ⟨bx, 1, none⟩ = false := (World.frozen?_of_block (a := ⟨bx, 1, none⟩) q6).trans (HDw.out.bf 1)
              refine hK _ _ ?_; clear hK K
              refine wpAny_take (i := 13) (v := ?_) rfl (by kernel_rfl) (by kernel_rfl) (by kernel_rfl) (fun _ _ _ h => h) (Or.inl ⟨by rfl, ?_⟩) ?_; rotate_left; focus (intro w; go_simp; try with_reducible rfl)
              refine wpAny_ready (rs := [14]) (by kernel_rfl) (by simp) ?_
              refine AllReady.cons rfl (fun K hK => ?_) AllReady.nil
              go_simp
              refine hK _ _ ?_; clear hK K
              refine wpAny_done (by kernel_rfl) ?_ _
              have b0 := HDn.out.b0
              have b1 := HDn.out.b1
              have r0 := HDn.out.r0; have r1 := HDn.out.r1; have rf0 := HDn.out.rf 0; have rf1 := HDn.out.rf 1
              have hltn := HDn.out.lt
              generalize (w6.setCell ⟨bx, 1, none⟩ (.slice ad6 (T.length + 1) cap6)) = wn at *
              have HTW := hide (((Turn.refl w.heap.size (w.heap.size + 1) wn).setCell (p := ⟨w.heap.size, 0, none⟩) (.slice (some ⟨gc, 0, none⟩) 4 cap1) (.inl ⟨by simp, by simp⟩)).setCell (p := ⟨w.heap.size, 1, none⟩) (.slice ad6 (T.length + 1) cap6) (.inl ⟨by simp, by simp⟩))
              clear hown6 hgrow6 hat6 q6 c6 f6
              go_wp2_with fail
              refine bodyPost_ret (v := .agg #[.slice (some ⟨gc, 0, none⟩) 4 cap1, .slice ad6 (T.length + 1) cap6]) (by simp [results, Try.results35, go_sem, *]) rfl ?_
              exact HDn.out.ends HTW.out
            · go_simp
              refine hK _ _ ?_; clear hK K
              have kw2 : ((w8.alloc (.cells #[.int .i64 x5, .int .i64 x7, .int .i64 x8] 44)).alloc (.cells #[.slice (some ⟨w8.heap.size, 0, none⟩) 1 1, .int .i64 0, .int .i64 0, .int .i64 0] 41)).cell? ⟨bx, 1, none⟩ = some (.slice ad2 T.length cap2) := (((Below.refl _ _).alloc (Nat.le_refl _) _).cell (p := ⟨bx, 1, none⟩) blw).trans kw
              refine wpAny_ready (rs := [1]) (by kernel_rfl) (by simp) ?_
              refine AllReady.cons rfl (fun K hK => ?_) AllReady.nil
              go_simp
              refine hK _ _ ?_; clear hK K
              refine wpAny_ready (rs := [12]) (by kernel_rfl) (by simp) ?_
              refine AllReady.cons rfl (fun K hK => ?_) AllReady.nil
              refine step_app _ (by rfl) _ _ 25 (by rfl) 41 (.agg #[.slice none 0 0, .int .i64 0, .int .i64 0, .int .i64 0]) 4 48 Try.underlying25 (by kernel_rfl) rfl (by decide) (w.heap.size + 1) (.slice ad2 T.length cap2) T.length (tv T) (by rfl) (HDw.out.own.ths.row.alloc _) (.slice (some ⟨w8.heap.size + 1, 0, none⟩) 1 1) 1 [.slice (some ⟨w8.heap.size, 0, none⟩) 1 1, .int .i64 0, .int .i64 0, .int .i64 0] (by rfl) (by have h := reads_built (w8.alloc (.cells #[.int .i64 x5, .int .i64 x7, .int .i64 x8] 44)) #[.slice (some ⟨w8.heap.size, 0, none⟩) 1 1, .int .i64 0, .int .i64 0, .int .i64 0] 41 1 4 rfl (by decide); (try simp only [World.size_alloc] at h); exact h) (one_th (w := w) (Th.mk (.slice (some ⟨w8.heap.size, 0, none⟩) 1 1) [⟨x5, x7, x8⟩] 0 0 0) ⟨_, _, _, rfl⟩) (by omega) (by decide) (by simp; omega) ?_
              intro ad6 cap6 w6 hown6 hgrow6 hat6
              have HDn := hide (DSt.thread (S := [⟨x5, x7, x8⟩]) (pos := 0) (seen := 0) (won := 0) HDw.out HVw.out HAPw.out HBXw.out hgrow6 hown6 hat6 rfl)
              have q6 := after_app hgrow6 bx HDw.out.lt (HDw.out.ne _ (by simp))
              have c6 : w6.cell? ⟨bx, 1, none⟩ = some (.slice ad2 T.length cap2) := (World.cell?_of_block (a := ⟨bx, 1, none⟩) q6).trans HDw.out.b1
              have f6 : w6.frozen? ⟨bx, 1, none⟩ = false := (World.frozen?_of_block (a := ⟨bx, 1, none⟩) q6).trans (HDw.out.bf 1)
              refine hK _ _ ?_; clear hK K
              refine wpAny_take (i := 13) (v := ?_) rfl (by kernel_rfl) (by kernel_rfl) (by kernel_rfl) (fun _ _ _ h => h) (Or.inl ⟨by rfl, ?_⟩) ?_; rotate_left; focus (intro w; go_simp; try with_reducible rfl)
              refine wpAny_ready (rs := [14]) (by kernel_rfl) (by simp) ?_
              refine AllReady.cons rfl (fun K hK => ?_) AllReady.nil
              go_simp
              refine hK _ _ ?_; clear hK K
              refine wpAny_done (by kernel_rfl) ?_ _
              have b0 := HDn.out.b0
              have b1 := HDn.out.b1
              have r0 := HDn.out.r0; have r1 := HDn.out.r1; have rf0 := HDn.out.rf 0; have rf1 := HDn.out.rf 1
              have hltn := HDn.out.lt
              generalize (w6.setCell ⟨bx, 1, none⟩ (.slice ad6 (T.length + 1) cap6)) = wn at *
              have HTW := hide (((Turn.refl w.heap.size (w.heap.size + 1) wn).setCell (p := ⟨w.heap.size, 0, none⟩) (.slice (some ⟨gc, 0, none⟩) 4 cap1) (.inl ⟨by simp, by simp⟩)).setCell (p := ⟨w.heap.size, 1, none⟩) (.slice ad6 (T.length + 1) cap6) (.inl ⟨by simp, by simp⟩))
              clear hown6 hgrow6 hat6 q6 c6 f6
              go_wp2_with fail
              refine bodyPost_ret (v := .agg #[.slice (some ⟨gc, 0, none⟩) 4 cap1, .slice ad6 (T.length + 1) cap6]) (by simp [results, Try.results35, go_sem, *]) rfl ?_
              exact HDn.out.ends HTW.out

  · go_wp2_with fail
    refine wp_region_any (by kernel_rfl) ?_
    change wpAny _ _ _ _ _ _ _ (World.drew _)
    have HDd := hide (HDx.out.new (w' := World.drew w4) ((Below.refl _ _).drew))
    have kd : (World.drew w4).cell? ⟨bx, 1, none⟩ = some (.slice ad2 T.length cap2) := HDd.out.b1
    refine wpAny_take (i := 0) (v := ?_) rfl (by kernel_rfl) (by kernel_rfl) (by kernel_rfl) (fun _ _ _ h => h) (Or.inl ⟨by rfl, ?_⟩) ?_; rotate_left; focus (intro w; go_simp; try with_reducible rfl)
    refine wpAny_take (i := 2) (v := ?_) rfl (by kernel_rfl) (by kernel_rfl) (by kernel_rfl) (fun _ _ _ h => h) (Or.inl ⟨by rfl, ?_⟩) ?_; rotate_left; focus (intro w; go_simp; try with_reducible rfl)
    refine wpAny_ready (rs := [1, 3]) (by kernel_rfl) (by simp) ?_
    refine AllReady.cons rfl (fun K hK => ?_) (AllReady.cons rfl (fun K hK => ?_) AllReady.nil)
    · go_simp
      refine hK _ _ ?_; clear hK K
      refine wpAny_ready (rs := [3]) (by kernel_rfl) (by simp) ?_
      refine AllReady.cons rfl (fun K hK => ?_) AllReady.nil
      go_simp
      refine (below1 g B 2 _ HDd.out.cur (by omega)).mono ?_; rintro e w5 ⟨x5, x5a, x5b, x5c, rfl, hc5, hm5⟩
      have HD5 := hide (HDd.out.on hm5 hc5)
      have k5 : w5.cell? ⟨bx, 1, none⟩ = some (.slice ad2 T.length cap2) := HD5.out.b1
      have bl5 := HD5.out.lt
      refine hK _ _ ?_; clear hK K
      refine wpAny_take (i := 4) (v := ?_) rfl (by kernel_rfl) (by kernel_rfl) (by kernel_rfl) (fun _ _ _ h => h) (Or.inl ⟨by rfl, ?_⟩) ?_; rotate_left; focus (intro w; go_simp; try with_reducible rfl)
      refine wpAny_ready (rs := [5]) (by kernel_rfl) (by simp) ?_
      refine AllReady.cons rfl (fun K hK => ?_) AllReady.nil
      go_simp
      refine hK _ _ ?_; clear hK K
      have HDw := hide (HD5.out.new (w' := w5.alloc (.cells #[.int .i64 2, .int .i64 0, .int .i64 x5] 44)) ((Below.refl _ _).alloc (Nat.le_refl _) _))
      have HVw := hide (owns_base (base' := w.heap.size + 1) (owns_made w5 #[.int .i64 2, .int .i64 0, .int .i64 x5] 44 3 1 rfl (by decide)) fun q hq => by have h1 := ((owns_made w5 #[.int .i64 2, .int .i64 0, .int .i64 x5] 44 3 1 rfl (by decide)).lt q hq).1; have := HD5.out.ge; have := HD5.out.lt; omega)
      have HAPw : Hid (∀ u ∈ (Value.slice (some ⟨gc, 0, none⟩) 4 cap1) :: (Value.slice ad2 T.length cap2) :: T.map Th.sv, Ap u (.slice (some ⟨w5.heap.size, 0, none⟩) 1 1)) := fun u hu q h1 h2 => by
        have h3 : w5.heap.size = q := by simpa [Value.ownBlock] using h2
        have h4 : q < w5.heap.size := by
          rcases List.mem_cons.1 hu with rfl | hu
          · exact HD5.out.own.up q h1
          · exact HD5.out.own.ths.up u hu q h1
        omega
      have HBXw : Hid ((Value.slice (some ⟨w5.heap.size, 0, none⟩) 1 1).ownBlock ≠ some bx) := by
        show some w5.heap.size ≠ some bx
        intro e
        injection e with e
        have := HD5.out.lt
        omega
      have kw : (w5.alloc (.cells #[.int .i64 2, .int .i64 0, .int .i64 x5] 44)).cell? ⟨bx, 1, none⟩ = some (.slice ad2 T.length cap2) := HDw.out.b1
      have blw := HDw.out.lt
      refine wpAny_take (i := 6) (v := ?_) rfl (by kernel_rfl) (by kernel_rfl) (by kernel_rfl) (fun _ _ _ h => h) (Or.inl ⟨by rfl, ?_⟩) ?_; rotate_left; focus (intro w; go_simp; try with_reducible rfl)
      refine wpAny_ready (rs := [7]) (by kernel_rfl) (by simp) ?_
      refine AllReady.cons rfl (fun K hK => ?_) AllReady.nil
      go_simp
      refine hK _ _ ?_; clear hK K
      refine wpAny_ready (rs := [8]) (by kernel_rfl) (by simp) ?_
      refine AllReady.cons rfl (fun K hK => ?_) AllReady.nil
      refine step_app _ (by rfl) _ _ 25 (by rfl) 41 (.agg #[.slice none 0 0, .int .i64 0, .int .i64 0, .int .i64 0]) 4 48 Try.underlying25 (by kernel_rfl) rfl (by decide) (w.heap.size + 1) (.slice ad2 T.length cap2) T.length (tv T) (by rfl) (HDw.out.own.ths.row.alloc _) (.slice (some ⟨w5.heap.size + 1, 0, none⟩) 1 1) 1 [.slice (some ⟨w5.heap.size, 0, none⟩) 1 1, .int .i64 0, .int .i64 1000000, .int .i64 0] (by rfl) (by have h := reads_built (w5.alloc (.cells #[.int .i64 2, .int .i64 0, .int .i64 x5] 44)) #[.slice (some ⟨w5.heap.size, 0, none⟩) 1 1, .int .i64 0, .int .i64 1000000, .int .i64 0] 41 1 4 rfl (by decide); (try simp only [World.size_alloc] at h); exact h) (one_th (w := w) (Th.mk (.slice (some ⟨w5.heap.size, 0, none⟩) 1 1) [⟨2, 0, x5⟩] 0 1000000 0) ⟨_, _, _, rfl⟩) (by omega) (by decide) (by simp; omega) ?_
      intro ad6 cap6 w6 hown6 hgrow6 hat6
      have HDn := hide (DSt.thread (S := [⟨2, 0, x5⟩]) (pos := 0) (seen := 1000000) (won := 0) HDw.out HVw.out HAPw.out HBXw.out hgrow6 hown6 hat6 rfl)
      have q6 := after_app hgrow6 bx HDw.out.lt (HDw.out.ne _ (by simp))
      have c6 : w6.cell? ⟨bx, 1, none⟩ = some (.slice ad2 T.length cap2) := (World.cell?_of_block (a := ⟨bx, 1, none⟩) q6).trans HDw.out.b1
      have f6 : w6.frozen? ⟨bx, 1, none⟩ = false := (World.frozen?_of_block (a := ⟨bx, 1, none⟩) q6).trans (HDw.out.bf 1)
      refine hK _ _ ?_; clear hK K
      refine wpAny_take (i := 9) (v := ?_) rfl (by kernel_rfl) (by kernel_rfl) (by kernel_rfl) (fun _ _ _ h => h) (Or.inl ⟨by rfl, ?_⟩) ?_; rotate_left; focus (intro w; go_simp; try with_reducible rfl)
      refine wpAny_ready (rs := [10]) (by kernel_rfl) (by simp) ?_
      refine AllReady.cons rfl (fun K hK => ?_) AllReady.nil
      go_simp
      refine hK _ _ ?_; clear hK K
      refine wpAny_done (by kernel_rfl) ?_ _
      have b0 := HDn.out.b0
      have b1 := HDn.out.b1
      have r0 := HDn.out.r0; have r1 := HDn.out.r1; have rf0 := HDn.out.rf 0; have rf1 := HDn.out.rf 1
      have hltn := HDn.out.lt
      generalize (w6.setCell ⟨bx, 1, none⟩ (.slice ad6 (T.length + 1) cap6)) = wn at *
      have HTW := hide (((Turn.refl w.heap.size (w.heap.size + 1) wn).setCell (p := ⟨w.heap.size, 0, none⟩) (.slice (some ⟨gc, 0, none⟩) 4 cap1) (.inl ⟨by simp, by simp⟩)).setCell (p := ⟨w.heap.size, 1, none⟩) (.slice ad6 (T.length + 1) cap6) (.inl ⟨by simp, by simp⟩))
      clear hown6 hgrow6 hat6 q6 c6 f6
      go_wp2_with fail
      refine bodyPost_ret (v := .agg #[.slice (some ⟨gc, 0, none⟩) 4 cap1, .slice ad6 (T.length + 1) cap6]) (by simp [results, Try.results35, go_sem, *]) rfl ?_
      exact HDn.out.ends HTW.out
    · go_simp
      refine (below1 g B 2 _ HDd.out.cur (by omega)).mono ?_; rintro e w5 ⟨x5, x5a, x5b, x5c, rfl, hc5, hm5⟩
      have HD5 := hide (HDd.out.on hm5 hc5)
      have k5 : w5.cell? ⟨bx, 1, none⟩ = some (.slice ad2 T.length cap2) := HD5.out.b1
      have bl5 := HD5.out.lt
      refine hK _ _ ?_; clear hK K
      refine wpAny_take (i := 4) (v := ?_) rfl (by kernel_rfl) (by kernel_rfl) (by kernel_rfl) (fun _ _ _ h => h) (Or.inl ⟨by rfl, ?_⟩) ?_; rotate_left; focus (intro w; go_simp; try with_reducible rfl)
      refine wpAny_ready (rs := [1, 5]) (by kernel_rfl) (by simp) ?_
      refine AllReady.cons rfl (fun K hK => ?_) (AllReady.cons rfl (fun K hK => ?_) AllReady.nil)
      · go_simp
        refine hK _ _ ?_; clear hK K
        refine wpAny_ready (rs := [5]) (by kernel_rfl) (by simp) ?_
        refine AllReady.cons rfl (fun K hK => ?_) AllReady.nil
        go_simp
        refine hK _ _ ?_; clear hK K
        have HDw := hide (HD5.out.new (w' := w5.alloc (.cells #[.int .i64 2, .int .i64 0, .int .i64 x5] 44)) ((Below.refl _ _).alloc (Nat.le_refl _) _))
        have HVw := hide (owns_base (base' := w.heap.size + 1) (owns_made w5 #[.int .i64 2, .int .i64 0, .int .i64 x5] 44 3 1 rfl (by decide)) fun q hq => by have h1 := ((owns_made w5 #[.int .i64 2, .int .i64 0, .int .i64 x5] 44 3 1 rfl (by decide)).lt q hq).1; have := HD5.out.ge; have := HD5.out.lt; omega)
        have HAPw : Hid (∀ u ∈ (Value.slice (some ⟨gc, 0, none⟩) 4 cap1) :: (Value.slice ad2 T.length cap2) :: T.map Th.sv, Ap u (.slice (some ⟨w5.heap.size, 0, none⟩) 1 1)) := fun u hu q h1 h2 => by
          have h3 : w5.heap.size = q := by simpa [Value.ownBlock] using h2
          have h4 : q < w5.heap.size := by
            rcases List.mem_cons.1 hu with rfl | hu
            · exact HD5.out.own.up q h1
            · exact HD5.out.own.ths.up u hu q h1
          omega
        have HBXw : Hid ((Value.slice (some ⟨w5.heap.size, 0, none⟩) 1 1).ownBlock ≠ some bx) := by
          show some w5.heap.size ≠ some bx
          intro e
          injection e with e
          have := HD5.out.lt
          omega
        have kw : (w5.alloc (.cells #[.int .i64 2, .int .i64 0, .int .i64 x5] 44)).cell? ⟨bx, 1, none⟩ = some (.slice ad2 T.length cap2) := HDw.out.b1
        have blw := HDw.out.lt
        refine wpAny_take (i := 6) (v := ?_) rfl (by kernel_rfl) (by kernel_rfl) (by kernel_rfl) (fun _ _ _ h => h) (Or.inl ⟨by rfl, ?_⟩) ?_; rotate_left; focus (intro w; go_simp; try with_reducible rfl)
        refine wpAny_ready (rs := [7]) (by kernel_rfl) (by simp) ?_
        refine AllReady.cons rfl (fun K hK => ?_) AllReady.nil
        go_simp
        refine hK _ _ ?_; clear hK K
        refine wpAny_ready (rs := [8]) (by kernel_rfl) (by simp) ?_
        refine AllReady.cons rfl (fun K hK => ?_) AllReady.nil
        refine step_app _ (by rfl) _ _ 25 (by rfl) 41 (.agg #[.slice none 0 0, .int .i64 0, .int .i64 0, .int .i64 0]) 4 48 Try.underlying25 (by kernel_rfl) rfl (by decide) (w.heap.size + 1) (.slice ad2 T.length cap2) T.length (tv T) (by rfl) (HDw.out.own.ths.row.alloc _) (.slice (some ⟨w5.heap.size + 1, 0, none⟩) 1 1) 1 [.slice (some ⟨w5.heap.size, 0, none⟩) 1 1, .int .i64 0, .int .i64 1000000, .int .i64 0] (by rfl) (by have h := reads_built (w5.alloc (.cells #[.int .i64 2, .int .i64 0, .int .i64 x5] 44)) #[.slice (some ⟨w5.heap.size, 0, none⟩) 1 1, .int .i64 0, .int .i64 1000000, .int .i64 0] 41 1 4 rfl (by decide); (try simp only [World.size_alloc] at h); exact h) (one_th (w := w) (Th.mk (.slice (some ⟨w5.heap.size, 0, none⟩) 1 1) [⟨2, 0, x5⟩] 0 1000000 0) ⟨_, _, _, rfl⟩) (by omega) (by decide) (by simp; omega) ?_
        intro ad6 cap6 w6 hown6 hgrow6 hat6
        have HDn := hide (DSt.thread (S := [⟨2, 0, x5⟩]) (pos := 0) (seen := 1000000) (won := 0) HDw.out HVw.out HAPw.out HBXw.out hgrow6 hown6 hat6 rfl)
        have q6 := after_app hgrow6 bx HDw.out.lt (HDw.out.ne _ (by simp))
        have c6 : w6.cell? ⟨bx, 1, none⟩ = some (.slice ad2 T.length cap2) := (World.cell?_of_block (a := ⟨bx, 1, none⟩) q6).trans HDw.out.b1
        have f6 : w6.frozen? ⟨bx, 1, none⟩ = false := (World.frozen?_of_block (a := ⟨bx, 1, none⟩) q6).trans (HDw.out.bf 1)
        refine hK _ _ ?_; clear hK K
        refine wpAny_take (i := 9) (v := ?_) rfl (by kernel_rfl) (by kernel_rfl) (by kernel_rfl) (fun _ _ _ h => h) (Or.inl ⟨by rfl, ?_⟩) ?_; rotate_left; focus (intro w; go_simp; try with_reducible rfl)
        refine wpAny_ready (rs := [10]) (by kernel_rfl) (by simp) ?_
        refine AllReady.cons rfl (fun K hK => ?_) AllReady.nil
        go_simp
        refine hK _ _ ?_; clear hK K
        refine wpAny_done (by kernel_rfl) ?_ _
        have b0 := HDn.out.b0
        have b1 := HDn.out.b1
        have r0 := HDn.out.r0; have r1 := HDn.out.r1; have rf0 := HDn.out.rf 0; have rf1 := HDn.out.rf 1
        have hltn := HDn.out.lt
        generalize (w6.setCell ⟨bx, 1, none⟩ (.slice ad6 (T.length + 1) cap6)) = wn at *
        have HTW := hide (((Turn.refl w.heap.size (w.heap.size + 1) wn).setCell (p := ⟨w.heap.size, 0, none⟩) (.slice (some ⟨gc, 0, none⟩) 4 cap1) (.inl ⟨by simp, by simp⟩)).setCell (p := ⟨w.heap.size, 1, none⟩) (.slice ad6 (T.length + 1) cap6) (.inl ⟨by simp, by simp⟩))
        clear hown6 hgrow6 hat6 q6 c6 f6
        go_wp2_with fail
        refine bodyPost_ret (v := .agg #[.slice (some ⟨gc, 0, none⟩) 4 cap1, .slice ad6 (T.length + 1) cap6]) (by simp [results, Try.results35, go_sem, *]) rfl ?_
        exact HDn.out.ends HTW.out
      · go_simp
        refine hK _ _ ?_; clear hK K
        have HDw := hide (HD5.out.new (w' := w5.alloc (.cells #[.int .i64 2, .int .i64 0, .int .i64 x5] 44)) ((Below.refl _ _).alloc (Nat.le_refl _) _))
        have HVw := hide (owns_base (base' := w.heap.size + 1) (owns_made w5 #[.int .i64 2, .int .i64 0, .int .i64 x5] 44 3 1 rfl (by decide)) fun q hq => by have h1 := ((owns_made w5 #[.int .i64 2, .int .i64 0, .int .i64 x5] 44 3 1 rfl (by decide)).lt q hq).1; have := HD5.out.ge; have := HD5.out.lt; omega)
        have HAPw : Hid (∀ u ∈ (Value.slice (some ⟨gc, 0, none⟩) 4 cap1) :: (Value.slice ad2 T.length cap2) :: T.map Th.sv, Ap u (.slice (some ⟨w5.heap.size, 0, none⟩) 1 1)) := fun u hu q h1 h2 => by
          have h3 : w5.heap.size = q := by simpa [Value.ownBlock] using h2
          have h4 : q < w5.heap.size := by
            rcases List.mem_cons.1 hu with rfl | hu
            · exact HD5.out.own.up q h1
            · exact HD5.out.own.ths.up u hu q h1
          omega
        have HBXw : Hid ((Value.slice (some ⟨w5.heap.size, 0, none⟩) 1 1).ownBlock ≠ some bx) := by
          show some w5.heap.size ≠ some bx
          intro e
          injection e with e
          have := HD5.out.lt
          omega
        have kw : (w5.alloc (.cells #[.int .i64 2, .int .i64 0, .int .i64 x5] 44)).cell? ⟨bx, 1, none⟩ = some (.slice ad2 T.length cap2) := HDw.out.b1
        have blw := HDw.out.lt
        refine wpAny_take (i := 6) (v := ?_) rfl (by kernel_rfl) (by kernel_rfl) (by kernel_rfl) (fun _ _ _ h => h) (Or.inl ⟨by rfl, ?_⟩) ?_; rotate_left; focus (intro w; go_simp; try with_reducible rfl)
        refine wpAny_ready (rs := [1, 7]) (by kernel_rfl) (by simp) ?_
        refine AllReady.cons rfl (fun K hK => ?_) (AllReady.cons rfl (fun K hK => ?_) AllReady.nil)
        · go_simp
          refine hK _ _ ?_; clear hK K
          refine wpAny_ready (rs := [7]) (by kernel_rfl) (by simp) ?_
          refine AllReady.cons rfl (fun K hK => ?_) AllReady.nil
          go_simp
          refine hK _ _ ?_; clear hK K
          refine wpAny_ready (rs := [8]) (by kernel_rfl) (by simp) ?_
          refine AllReady.cons rfl (fun K hK => ?_) AllReady.nil
          refine step_app _ (by rfl) _ _ 25 (by rfl) 41 (.agg #[.slice none 0 0, .int .i64 0, .int .i64 0, .int .i64 0]) 4 48 Try.underlying25 (by kernel_rfl) rfl (by decide) (w.heap.size + 1) (.slice ad2 T.length cap2) T.length (tv T) (by rfl) (HDw.out.own.ths.row.alloc _) (.slice (some ⟨w5.heap.size + 1, 0, none⟩) 1 1) 1 [.slice (some ⟨w5.heap.size, 0, none⟩) 1 1, .int .i64 0, .int .i64 1000000, .int .i64 0] (by rfl) (by have h := reads_built (w5.alloc (.cells #[.int .i64 2, .int .i64 0, .int .i64 x5] 44)) #[.slice (some ⟨w5.heap.size, 0, none⟩) 1 1, .int .i64 0, .int .i64 1000000, .int .i64 0] 41 1 4 rfl (by decide); (try simp only [World.size_alloc] at h); exact h) (one_th (w := w) (Th.mk (.slice (some ⟨w5.heap.size, 0, none⟩) 1 1) [⟨2, 0, x5⟩] 0 1000000 0) ⟨_, _, _, rfl⟩) (by omega) (by decide) (by simp; omega) ?_
          intro ad6 cap6 w6 hown6 hgrow6 hat6
          have HDn := hide (DSt.thread (S := [⟨2, 0, x5⟩]) (pos := 0) (seen := 1000000) (won := 0) HDw.out HVw.out HAPw.out HBXw.out hgrow6 hown6 hat6 rfl)
          have q6 := after_app hgrow6 bx HDw.out.lt (HDw.out.ne _ (by simp))
          have c6 : w6.cell? ⟨bx, 1, none⟩ = some (.slice ad2 T.length cap2) := (World.cell?_of_block (a := ⟨bx, 1, none⟩) q6).trans HDw.out.b1
          have f6 : w6.frozen? ⟨bx, 1, none⟩ = false := (World.frozen?_of_block (a := ⟨bx, 1, none⟩) q6).trans (HDw.out.bf 1)
          refine hK _ _ ?_; clear hK K
          refine wpAny_take (i := 9) (v := ?_) rfl (by kernel_rfl) (by kernel_rfl) (by kernel_rfl) (fun _ _ _ h => h) (Or.inl ⟨by rfl, ?_⟩) ?_; rotate_left; focus (intro w; go_simp; try with_reducible rfl)
          refine wpAny_ready (rs := [10]) (by kernel_rfl) (by simp) ?_
          refine AllReady.cons rfl (fun K hK => ?_) AllReady.nil
          go_simp
          refine hK _ _ ?_; clear hK K
          refine wpAny_done (by kernel_rfl) ?_ _
          have b0 := HDn.out.b0
          have b1 := HDn.out.b1
          have r0 := HDn.out.r0; have r1 := HDn.out.r1; have rf0 := HDn.out.rf 0; have rf1 := HDn.out.rf 1
          have hltn := HDn.out.lt
          generalize (w6.setCell ⟨bx, 1, none⟩ (.slice ad6 (T.length + 1) cap6)) = wn at *
          have HTW := hide (((Turn.refl w.heap.size (w.heap.size + 1) wn).setCell (p := ⟨w.heap.size, 0, none⟩) (.slice (some ⟨gc, 0, none⟩) 4 cap1) (.inl ⟨by simp, by simp⟩)).setCell (p := ⟨w.heap.size, 1, none⟩) (.slice ad6 (T.length + 1) cap6) (.inl ⟨by simp, by simp⟩))
          clear hown6 hgrow6 hat6 q6 c6 f6
          go_wp2_with fail
          refine bodyPost_ret (v := .agg #[.slice (some ⟨gc, 0, none⟩) 4 cap1, .slice ad6 (T.length + 1) cap6]) (by simp [results, Try.results35, go_sem, *]) rfl ?_
          exact HDn.out.ends HTW.out
        · go_simp
          refine hK _ _ ?_; clear hK K
          have kw2 : ((w5.alloc (.cells #[.int .i64 2, .int .i64 0, .int .i64 x5] 44)).alloc (.cells #[.slice (some ⟨w5.heap.size, 0, none⟩) 1 1, .int .i64 0, .int .i64 1000000, .int .i64 0] 41)).cell? ⟨bx, 1, none⟩ = some (.slice ad2 T.length cap2) := (((Below.refl _ _).alloc (Nat.le_refl _) _).cell (p := ⟨bx, 1, none⟩) blw).trans kw
          refine wpAny_ready (rs := [1]) (by kernel_rfl) (by simp) ?_
          refine AllReady.cons rfl (fun K hK => ?_) AllReady.nil
          go_simp
          refine hK _ _ ?_; clear hK K
          refine wpAny_ready (rs := [8]) (by kernel_rfl) (by simp) ?_
          refine AllReady.cons rfl (fun K hK => ?_) AllReady.nil
          refine step_app _ (by rfl) _ _ 25 (by rfl) 41 (.agg #[.slice none 0 0, .int .i64 0, .int .i64 0, .int .i64 0]) 4 48 Try.underlying25 (by kernel_rfl) rfl (by decide) (w.heap.size + 1) (.slice ad2 T.length cap2) T.length (tv T) (by rfl) (HDw.out.own.ths.row.alloc _) (.slice (some ⟨w5.heap.size + 1, 0, none⟩) 1 1) 1 [.slice (some ⟨w5.heap.size, 0, none⟩) 1 1, .int .i64 0, .int .i64 1000000, .int .i64 0] (by rfl) (by have h := reads_built (w5.alloc (.cells #[.int .i64 2, .int .i64 0, .int .i64 x5] 44)) #[.slice (some ⟨w5.heap.size, 0, none⟩) 1 1, .int .i64 0, .int .i64 1000000, .int .i64 0] 41 1 4 rfl (by decide); (try simp only [World.size_alloc] at h); exact h) (one_th (w := w) (Th.mk (.slice (some ⟨w5.heap.size, 0, none⟩) 1 1) [⟨2, 0, x5⟩] 0 1000000 0) ⟨_, _, _, rfl⟩) (by omega) (by decide) (by simp; omega) ?_
          intro ad6 cap6 w6 hown6 hgrow6 hat6
          have HDn := hide (DSt.thread (S := [⟨2, 0, x5⟩]) (pos := 0) (seen := 1000000) (won := 0) HDw.out HVw.out HAPw.out HBXw.out hgrow6 hown6 hat6 rfl)
          have q6 := after_app hgrow6 bx HDw.out.lt (HDw.out.ne _ (by simp))
          have c6 : w6.cell? ⟨bx, 1, none⟩ = some (.slice ad2 T.length cap2) := (World.cell?_of_block (a := ⟨bx, 1, none⟩) q6).trans HDw.out.b1
          have f6 : w6.frozen? ⟨bx, 1, none⟩ = false := (World.frozen?_of_block (a := ⟨bx, 1, none⟩) q6).trans (HDw.out.bf 1)
          refine hK _ _ ?_; clear hK K
          refine wpAny_take (i := 9) (v := ?_) rfl (by kernel_rfl) (by kernel_rfl) (by kernel_rfl) (fun _ _ _ h => h) (Or.inl ⟨by rfl, ?_⟩) ?_; rotate_left; focus (intro w; go_simp; try with_reducible rfl)
          refine wpAny_ready (rs := [10]) (by kernel_rfl) (by simp) ?_
          refine AllReady.cons rfl (fun K hK => ?_) AllReady.nil
          go_simp
          refine hK _ _ ?_; clear hK K
          refine wpAny_done (by kernel_rfl) ?_ _
          have b0 := HDn.out.b0
          have b1 := HDn.out.b1
          have r0 := HDn.out.r0; have r1 := HDn.out.r1; have rf0 := HDn.out.rf 0; have rf1 := HDn.out.rf 1
          have hltn := HDn.out.lt
          generalize (w6.setCell ⟨bx, 1, none⟩ (.slice ad6 (T.length + 1) cap6)) = wn at *
          have HTW := hide (((Turn.refl w.heap.size (w.heap.size + 1) wn).setCell (p := ⟨w.heap.size, 0, none⟩) (.slice (some ⟨gc, 0, none⟩) 4 cap1) (.inl ⟨by simp, by simp⟩)).setCell (p := ⟨w.heap.size, 1, none⟩) (.slice ad6 (T.length + 1) cap6) (.inl ⟨by simp, by simp⟩))
          clear hown6 hgrow6 hat6 q6 c6 f6
          go_wp2_with fail
          refine bodyPost_ret (v := .agg #[.slice (some ⟨gc, 0, none⟩) 4 cap1, .slice ad6 (T.length + 1) cap6]) (by simp [results, Try.results35, go_sem, *]) rfl ?_
          exact HDn.out.ends HTW.out

end Go.Proofs.Ytdplpkobpoiioaa
