/- One pick in memory that is owned: the model's step. -/
import Derived.Test.YtdplpkobpoiioaaPick2


namespace Go.Proofs.Ytdplpkobpoiioaa
open Go.RowKit
set_option linter.unusedSimpArgs false
set_option linter.unusedVariables false

theorem tv_self (T : List Th) (i : Nat) (hi : i < T.length) : tv T = tv (T.set i T[i]) := by rw [List.set_getElem_self]

theorem picked_drew {w w' : World} {lo hi : Nat} {m : Mm} {i : Int} {x : Ending} (h : Picked w w' lo hi m i x) : Picked w w'.drew lo hi m i x := by
  obtain ⟨m', h1, h2, h3, h4, h5, h6⟩ := h
  exact ⟨m', h1, h2, h3, h4, h5.new (Below.refl _ _).drew, h6.drew⟩

set_option maxHeartbeats 4000000 in
theorem specPick (m : Mm) (lo hi : Nat) (i : Int) (bx : Nat) (w : World) (ho : OwnM w lo hi m) (hhi : hi ≤ w.heap.size) (hok : okM m.d = true) (hb0 : w.cell? ⟨bx, 0, none⟩ = some m.cv) (hb1 : w.cell? ⟨bx, 1, none⟩ = some m.tv) (hbx : bx < w.heap.size) (hbo : bx < lo ∨ hi ≤ bx) :
    Calls Try.prog 43 #[.pointer (some ⟨bx, 0, none⟩), .int .i64 i] w fun x w' => Picked w w' lo hi m i x := by
  obtain ⟨hl4, hl6⟩ := okM_len (C := m.cells) (T := m.ths) hok
  have hparts := okM_parts (C := m.cells) (T := m.ths.map Th.d) hok
  obtain ⟨gc, cap, hcv, ecb, elo, elt, _, _, ecell, efr⟩ := owns_open ho.cel (by omega)
  obtain ⟨ad', cap', htv, h2'⟩ := owns_form ho.ths.row
  have HO := hide ho; have HCV := hide hcv; have HTV := hide htv; have HOK := hide hok; have HP := hide hparts; have HCB := hide ecb
  have ugc : gc < hi := ho.up gc ecb
  rw [hcv] at hb0
  rw [htv] at hb1
  clear ho hok hparts hcv htv ecb
  unfold maxLen at h2'
  obtain ⟨h2a, h2b⟩ := h2'
  cases hrg : rng 0 i ((m.ths.length : Int) - 1)
  · have V := hide (pickD_out hrg)
    go_enter Try.func43, Try.ntmps43
    go_wp2_with (go_at_call 47; refine (in1 _ _ _ _).mono ?_; rw [hrg]; rintro x w' ⟨rfl, hw'⟩; subst w')
    go_ret
    exact picked_no V.out HO.out (Turn.refl _ _ _)
  · have hi0 : 0 ≤ i ∧ i ≤ (m.ths.length : Int) - 1 := by simpa [rng] using hrg
    obtain ⟨i, rfl⟩ := Int.eq_ofNat_of_zero_le hi0.1
    have hlt : i < m.ths.length := by omega
    obtain ⟨g, capT, etv, etb, glo, glt, _, gcap, gcell, gfr⟩ := owns_open HO.out.ths.row (by omega)
    have e' := etv
    rw [HTV.out] at e'
    simp only [Value.slice.injEq] at e'
    obtain ⟨rfl, _, rfl⟩ := e'
    have ug : g < hi := HO.out.ths.up m.tv List.mem_cons_self g etb
    obtain ⟨s0, s1, s2, s3⟩ := tv_get m.ths i hlt
    have t0 := gcell _ _ s0; have t1 := gcell _ _ s1; have t2 := gcell _ _ s2; have t3 := gcell _ _ s3
    have f1 := gfr (i * 4 + 1); have f2 := gfr (i * 4 + 2); have f3 := gfr (i * 4 + 3)
    have hst := HO.out.ths.st _ (List.getElem_mem hlt)
    obtain ⟨ads, caps, hsv, hsl⟩ := owns_form hst
    rw [hsv] at t0
    have hokt := HP.out.2.2.2 _ (List.mem_map_of_mem (List.getElem_mem hlt))
    obtain ⟨w0, w1, n0, n1, p0, p1, hl20, hall⟩ := okTh_rng hokt
    have TB : Hid (m.tv.ownBlock = some g) := etb
    have hap : gc ≠ g := fun e => HO.out.apart m.tv List.mem_cons_self gc HCB.out (by rw [TB.out, e])
    have hap' : g ≠ gc := fun e => hap e.symm
    have NE1 : Hid (m.cv.ownBlock ≠ some g) := by show _ ≠ _; rw [HCB.out]; simp; exact hap
    have NE2 : Hid (m.tv.ownBlock ≠ some gc) := by show _ ≠ _; rw [TB.out]; simp; exact hap'
    have OG : Hid (∀ b, m.tv.ownBlock ≠ some b → b ≠ g) := fun b h e => h (by rw [TB.out, e])
    have OC : Hid (∀ b, m.cv.ownBlock ≠ some b → b ≠ gc) := fun b h e => h (by rw [HCB.out, e])
    have hTG : lo ≤ g ∧ g < hi := ⟨glo, ug⟩
    have hTC : lo ≤ gc ∧ gc < hi := ⟨elo, ugc⟩
    have hzg : g ≠ bx := by omega
    have hzc : gc ≠ bx := by omega
    have HST := hide hst; have HSV := hide hsv; have HAL := hide hall
    clear s0 s1 s2 s3 gcell gfr hokt hi0 hst hsv hall etv etb
    cases hth : thru m.ths[i].d
    · have V := hide (pickD_act hlt hth)
      have hnth : (m.ths[i].pos == (m.ths[i].st.length : Int)) = false := hth
      have hpos : m.ths[i].pos.toNat < m.ths[i].st.length := by
        have h1 : m.ths[i].pos ≠ (m.ths[i].st.length : Int) := fun e => by simp [thru, Th.d, e] at hth
        have h2 : 0 ≤ m.ths[i].pos := p0
        have h3 : m.ths[i].pos ≤ (m.ths[i].st.length : Int) := p1
        omega
      obtain ⟨q, hq⟩ : ∃ q : Nat, m.ths[i].pos = q := ⟨m.ths[i].pos.toNat, by have h2 : 0 ≤ m.ths[i].pos := p0; omega⟩
      have hql : q < m.ths[i].st.length := by omega
      obtain ⟨gs, capS, es, esb, _, gslt, _, _, scell, _⟩ := owns_open HST.out (by omega)
      obtain ⟨x0, x1, x2⟩ := sv_get m.ths[i].st q hql
      have y0 := scell _ _ x0; have y1 := scell _ _ x1; have y2 := scell _ _ x2
      have e2 := es
      rw [HSV.out] at e2
      simp only [Value.slice.injEq] at e2
      obtain ⟨rfl, _, rfl⟩ := e2
      have hstep : okSt m.ths[i].st[q] = true := List.all_eq_true.1 HAL.out _ (List.getElem_mem hql)
      have hgetD : m.ths[i].st.getD m.ths[i].pos.toNat ⟨0, 0, 0⟩ = m.ths[i].st[q] := by rw [hq, Int.toNat_natCast]; exact getD_get _ _ _ hql
      have hv := V.out
      rw [hgetD] at hv
      have hok2 : (1 ≤ m.ths[i].st[q].k ∧ m.ths[i].st[q].k ≤ 3) ∧ (0 ≤ m.ths[i].st[q].c ∧ m.ths[i].st[q].c ≤ 3) ∧ 0 ≤ m.ths[i].st[q].a ∧ m.ths[i].st[q].a ≤ 100 := by
        simp only [okSt, rng, Bool.and_eq_true, decide_eq_true_eq] at hstep; omega
      obtain ⟨stp, hstp⟩ : ∃ s, s = m.ths[i].st[q] := ⟨_, rfl⟩
      rw [← hstp] at y0 y1 y2 hv hok2
      obtain ⟨k, c, a⟩ := stp
      obtain ⟨⟨hk1, hk3⟩, ⟨hc0, hc3⟩, ha0, ha1⟩ := hok2
      simp only at hk1 hk3 hc0 hc3 ha0 ha1 y0 y1 y2
      obtain ⟨c, rfl⟩ := Int.eq_ofNat_of_zero_le hc0
      have hcl : c < m.cells.length := by omega
      have cc := ecell c _ (iv_get m.cells c hcl)
      have fc := efr c
      have hgd : m.cells.getD c 0 = m.cells[c] := getD_get _ _ _ hcl
      have hcb := HP.out.2.2.1 _ (List.getElem_mem hcl)
      simp only [act, Int.toNat_natCast, hgd] at hv
      have HTW := hide (tv_self m.ths i hlt)
      obtain ⟨x, hx⟩ : ∃ x, x = m.ths[i] := ⟨_, rfl⟩
      obtain ⟨y, hy⟩ : ∃ y, y = m.cells[c] := ⟨_, rfl⟩
      have DONE : Hid (∀ (w' : World) (C' : List Int) (p' n' wn' : Int), pickD m.d i = some (m.upd C' i p' n' wn').d → C'.length = m.cells.length → w'.ownsRow lo 2 1 m.cv m.cells.length (iv C') → w'.ownsRow lo 41 4 m.tv m.ths.length (tv (m.ths.set i ⟨x.sv, x.st, p', n', wn'⟩)) →
          (∀ b, b < w.heap.size → m.cv.ownBlock ≠ some b → m.tv.ownBlock ≠ some b → w'.heap[b]? = w.heap[b]?) → Turn lo hi w w' → Picked w w' lo hi m i (.returned (.bool true))) := fun w' C' p' n' wn' h0 h1 h2 h3 h4 h5 =>
        ⟨m.upd C' i p' n' wn', by simp only [pickR, h0], by simp only [pickR, h0], rfl, rfl, OwnM.upd HO.out hlt h1 h2 (by rw [← hx]; exact h3) h4, h5⟩
      rw [← hx] at t0 t1 t2 t3 hnth hq hql hv HTW w0 w1 n0 n1 p0 p1 hl20
      rw [← hy] at cc hcb hv
      have HX := hide hx
      clear hx hy hgd V hth hgetD hstep hstp x0 x1 x2 scell es esb ecell efr hpos
      obtain ⟨sv0, st, p, n, wn⟩ := x
      simp only [Th.d] at t0 t1 t2 t3 hnth hq hql hv HTW w0 w1 n0 n1 p0 p1 hl20 DONE
      subst hq
      have FIN3 : Hid (∀ (V : World) (v p' wn' : Int), Below w.heap.size w V → pickD m.d i = some (m.upd (m.cells.set c v) i p' n wn').d → Picked w (((V.setCell ⟨gc, c, none⟩ (.int .i64 v)).setCell ⟨g, i * 4 + 3, none⟩ (.int .i64 wn')).setCell ⟨g, i * 4 + 1, none⟩ (.int .i64 p')) lo hi m i (.returned (.bool true))) := fun V v p' wn' hV hpk => by
        refine DONE.out _ _ _ _ _ hpk (by simp) ?_ ?_ ?_ ((((turn_new hV lo hi).setCell _ (.inl hTC)).setCell _ (.inl hTG)).setCell _ (.inl hTG))
        · rw [← iv_set]
          exact owns_apart (owns_apart (owns_set (g := gc) (owns_new HO.out.cel hV) HCB.out c _) _ _ NE1.out) _ _ NE1.out
        · have h := owns_set (g := g) (owns_set (g := g) (owns_apart (owns_new HO.out.ths.row hV) ⟨gc, c, none⟩ (.int .i64 v) NE2.out) TB.out (i * 4 + 3) (.int .i64 wn')) TB.out (i * 4 + 1) (.int .i64 p')
          rw [HTW.out, tv_won _ _ hlt, tv_pos _ _ hlt] at h
          exact h
        · intro b hb h' h
          rw [Below.heap_setCell _ _ _ b (OG.out b h), Below.heap_setCell _ _ _ b (OG.out b h), Below.heap_setCell _ _ _ b (OC.out b h')]
          exact hV.block b hb
      have FINC : Hid (∀ (V : World) (v p' : Int), Below w.heap.size w V → pickD m.d i = some (m.upd (m.cells.set c v) i p' n wn).d → Picked w ((V.setCell ⟨gc, c, none⟩ (.int .i64 v)).setCell ⟨g, i * 4 + 1, none⟩ (.int .i64 p')) lo hi m i (.returned (.bool true))) := fun V v p' hV hpk => by
        refine DONE.out _ _ _ _ _ hpk (by simp) ?_ ?_ ?_ (((turn_new hV lo hi).setCell _ (.inl hTC)).setCell _ (.inl hTG))
        · rw [← iv_set]
          exact owns_apart (owns_set (g := gc) (owns_new HO.out.cel hV) HCB.out c _) _ _ NE1.out
        · have h := owns_set (g := g) (owns_apart (owns_new HO.out.ths.row hV) ⟨gc, c, none⟩ (.int .i64 v) NE2.out) TB.out (i * 4 + 1) (.int .i64 p')
          rw [HTW.out, tv_pos _ _ hlt] at h
          exact h
        · intro b hb h' h
          rw [Below.heap_setCell _ _ _ b (OG.out b h), Below.heap_setCell _ _ _ b (OC.out b h')]
          exact hV.block b hb
      have FINS : Hid (∀ (V : World) (v p' : Int), Below w.heap.size w V → pickD m.d i = some (m.upd m.cells i p' v wn).d → Picked w ((V.setCell ⟨g, i * 4 + 2, none⟩ (.int .i64 v)).setCell ⟨g, i * 4 + 1, none⟩ (.int .i64 p')) lo hi m i (.returned (.bool true))) := fun V v p' hV hpk => by
        refine DONE.out _ _ _ _ _ hpk rfl ?_ ?_ ?_ (((turn_new hV lo hi).setCell _ (.inl hTG)).setCell _ (.inl hTG))
        · exact owns_apart (owns_apart (owns_new HO.out.cel hV) _ _ NE1.out) _ _ NE1.out
        · have h := owns_set (g := g) (owns_set (g := g) (owns_new HO.out.ths.row hV) TB.out (i * 4 + 2) (.int .i64 v)) TB.out (i * 4 + 1) (.int .i64 p')
          rw [HTW.out, tv_seen _ _ hlt, tv_pos _ _ hlt] at h
          exact h
        · intro b hb h' h
          rw [Below.heap_setCell _ _ _ b (OG.out b h), Below.heap_setCell _ _ _ b (OG.out b h)]
          exact hV.block b hb
      have FIN1 : Hid (∀ (V : World) (p' : Int), Below w.heap.size w V → pickD m.d i = some (m.upd m.cells i p' n wn).d → Picked w (V.setCell ⟨g, i * 4 + 1, none⟩ (.int .i64 p')) lo hi m i (.returned (.bool true))) := fun V p' hV hpk => by
        refine DONE.out _ _ _ _ _ hpk rfl ?_ ?_ ?_ ((turn_new hV lo hi).setCell _ (.inl hTG))
        · exact owns_apart (owns_new HO.out.cel hV) _ _ NE1.out
        · have h := owns_set (g := g) (owns_new HO.out.ths.row hV) TB.out (i * 4 + 1) (.int .i64 p')
          rw [HTW.out, tv_pos _ _ hlt] at h
          exact h
        · intro b hb h' h
          rw [Below.heap_setCell _ _ _ b (OG.out b h)]
          exact hV.block b hb
      have hq0 : (0 : Int) ≤ (q : Int) := by omega
      have hq1 : (q : Int) < (st.length : Int) := by omega
      have hz7 : bx ≠ gc := fun e => hzc e.symm
      have hz8 : bx ≠ g := fun e => hzg e.symm
      have HV := hide hv
      clear hv
      go_enter Try.func43, Try.ntmps43
      go_wp2_with (go_at_call 47; refine (in1 _ _ _ _).mono ?_; rw [hrg]; rintro x w' ⟨rfl, hw'⟩; subst w')
      go_quiet (fail)
      go_wp2_with fail
      obtain ⟨W1, hW1⟩ : ∃ W1, W1 = w.drewN nq := ⟨_, rfl⟩
      rw [← hW1]
      have hBW : Below w.heap.size w W1 := by rw [hW1]; exact bo_drewN _ (Below.refl _ _)
      have hSW : W1.heap.size = w.heap.size := by rw [hW1]; rfl
      have t0 := (hBW.cell (p := ⟨g, i * 4, none⟩) glt).trans t0
      have t1 := (hBW.cell (p := ⟨g, i * 4 + 1, none⟩) glt).trans t1
      have t2 := (hBW.cell (p := ⟨g, i * 4 + 2, none⟩) glt).trans t2
      have t3 := (hBW.cell (p := ⟨g, i * 4 + 3, none⟩) glt).trans t3
      have f1 := (hBW.frozen (p := ⟨g, i * 4 + 1, none⟩) glt).trans f1
      have f2 := (hBW.frozen (p := ⟨g, i * 4 + 2, none⟩) glt).trans f2
      have f3 := (hBW.frozen (p := ⟨g, i * 4 + 3, none⟩) glt).trans f3
      have y0 := (hBW.cell (p := ⟨gs, q * 3, none⟩) gslt).trans y0
      have y1 := (hBW.cell (p := ⟨gs, q * 3 + 1, none⟩) gslt).trans y1
      have y2 := (hBW.cell (p := ⟨gs, q * 3 + 2, none⟩) gslt).trans y2
      have cc := (hBW.cell (p := ⟨gc, c, none⟩) elt).trans cc
      have fc := (hBW.frozen (p := ⟨gc, c, none⟩) elt).trans fc
      have hb0 := (hBW.cell (p := ⟨bx, 0, none⟩) hbx).trans hb0
      have hb1 := (hBW.cell (p := ⟨bx, 1, none⟩) hbx).trans hb1
      have hz1 : gc ≠ W1.heap.size := by omega
      have hz2 : W1.heap.size ≠ gc := by omega
      have hz3 : g ≠ W1.heap.size := by omega
      have hz4 : W1.heap.size ≠ g := by omega
      have hz5 : bx ≠ W1.heap.size := by omega
      have hz6 : W1.heap.size ≠ bx := by omega
      have hz9 : gs ≠ W1.heap.size := by omega
      have hl1 : gc < W1.heap.size := by omega
      have hl2 : g < W1.heap.size := by omega
      have hl3 : bx < W1.heap.size := by omega
      have hl4' : gs < W1.heap.size := by omega
      have hci0 : (0 : Int) ≤ (c : Int) := by omega
      have hci1 : (c : Int) < (m.cells.length : Int) := by omega
      have h4a : 4 ≤ m.cells.length := by omega
      have h4b : m.cells.length ≤ 4 := by omega
      clear hW1 hSW hl4
      go_region_held3 (fun w' => w'.cell? ⟨g, i * 4, none⟩ = some (.slice (some ⟨gs, 0, none⟩) st.length caps) ∧ w'.cell? ⟨g, i * 4 + 1, none⟩ = some (.int .i64 q) ∧ w'.cell? ⟨gs, q * 3, none⟩ = some (.int .i64 k) ∧ w'.cell? ⟨gs, q * 3 + 1, none⟩ = some (.int .i64 c) ∧ w'.cell? ⟨gs, q * 3 + 2, none⟩ = some (.int .i64 a)) (first | go_keep | (simp [*, go_sem]; done) | (simp [*, go_sem, World.cell?_alloc_at, World.size_setCell, World.size_drew]; done)) (fail)
      obtain ⟨W2, hW2⟩ : ∃ W2, W2 = W1.alloc (.cells #[.int .i64 k, .int .i64 c, .int .i64 a] 44) := ⟨_, rfl⟩
      rw [← hW2]
      have hB12 : Below W1.heap.size W1 W2 := by rw [hW2]; exact (Below.refl _ _).alloc (Nat.le_refl _) _
      have e0 : W2.cell? ⟨W1.heap.size, 0, none⟩ = some (.int .i64 k) := by rw [hW2]; simp
      have e1 : W2.cell? ⟨W1.heap.size, 1, none⟩ = some (.int .i64 c) := by rw [hW2]; simp
      have e2 : W2.cell? ⟨W1.heap.size, 2, none⟩ = some (.int .i64 a) := by rw [hW2]; simp
      have hs2 : W1.heap.size < W2.heap.size := by rw [hW2]; simp
      have t1 := (hB12.cell (p := ⟨g, i * 4 + 1, none⟩) hl2).trans t1
      have t2 := (hB12.cell (p := ⟨g, i * 4 + 2, none⟩) hl2).trans t2
      have t3 := (hB12.cell (p := ⟨g, i * 4 + 3, none⟩) hl2).trans t3
      have f1 := (hB12.frozen (p := ⟨g, i * 4 + 1, none⟩) hl2).trans f1
      have f2 := (hB12.frozen (p := ⟨g, i * 4 + 2, none⟩) hl2).trans f2
      have f3 := (hB12.frozen (p := ⟨g, i * 4 + 3, none⟩) hl2).trans f3
      have cc := (hB12.cell (p := ⟨gc, c, none⟩) hl1).trans cc
      have fc := (hB12.frozen (p := ⟨gc, c, none⟩) hl1).trans fc
      have hb0 := (hB12.cell (p := ⟨bx, 0, none⟩) hl3).trans hb0
      have hb1 := (hB12.cell (p := ⟨bx, 1, none⟩) hl3).trans hb1
      have hBW : Below w.heap.size w W2 := bchain hBW hB12
      clear hW2 hB12 y0 y1 y2
      by_cases h1 : k = 1
      · subst h1
        have hv := HV.out
        simp only [if_true, Option.map_some] at hv
        have HPK := hide hv
        clear hv HV
        go_wp2_with fail
        go_region_held3 (fun w' => w'.cell? ⟨bx, 0, none⟩ = some (.slice (some ⟨gc, 0, none⟩) m.cells.length cap) ∧ w'.cell? ⟨W1.heap.size, 1, none⟩ = some (.int .i64 c) ∧ w'.cell? ⟨gc, c, none⟩ = some (.int .i64 y)) (first | go_keep | (simp [*, go_sem]; done) | (refine ⟨?_, ?_, ?_⟩ <;> first | (simp [*, go_sem]; done) | (rw [World.cell?_drew, World.cell?_drew, World.cell?_alloc_at _ _ _ _ (by simp)]; rfl))) (fail)
        go_wp2_with fail
        go_ret
        exact picked_drew (picked_drew (FINS.out W2 y (q + 1) hBW HPK.out))
      · by_cases h2 : k = 2
        · subst h2
          have hv := HV.out
          simp only [if_neg h1, if_true] at hv
          by_cases hbig : n + a > 1000000
          · rw [if_pos hbig] at hv
            have hbig' : decide (1000000 < n + a) = true := by simpa using hbig
            have HPK := hide hv
            clear hv HV
            go_wp2_with fail
            go_quiet (fail)
            go_wp2_with fail
            go_ret
            exact picked_no HPK.out (HO.out.new ((by repeat' (first | (with_reducible exact Below.refl _ _) | (with_reducible refine Below.drew ?_) | (with_reducible refine bo_drewN _ ?_) | (with_reducible refine bo_alloc ?_ _) | (refine bchain ?_ (by with_reducible assumption)) | (with_reducible refine Below.setCell ?_ ?_ _) | go_size)))) (turn_new ((by repeat' (first | (with_reducible exact Below.refl _ _) | (with_reducible refine Below.drew ?_) | (with_reducible refine bo_drewN _ ?_) | (with_reducible refine bo_alloc ?_ _) | (refine bchain ?_ (by with_reducible assumption)) | (with_reducible refine Below.setCell ?_ ?_ _) | go_size))) _ _)
          · rw [if_neg hbig] at hv
            simp only [Option.map_some] at hv
            have hbig' : decide (1000000 < n + a) = false := by simpa using hbig
            have HPK := hide hv
            clear hv HV
            go_wp2_with fail
            go_quiet (fail)
            go_wp2_with fail
            go_region_held3 (fun w' => w'.cell? ⟨bx, 0, none⟩ = some (.slice (some ⟨gc, 0, none⟩) m.cells.length cap) ∧ w'.cell? ⟨W1.heap.size, 1, none⟩ = some (.int .i64 c) ∧ w'.cell? ⟨W1.heap.size, 2, none⟩ = some (.int .i64 a) ∧ w'.cell? ⟨g, i * 4 + 2, none⟩ = some (.int .i64 n)) (first | go_keep | (simp [*, go_sem]; done) | (simp [*, go_sem, World.cell?_alloc_at, World.size_setCell, World.size_drew]; done)) (fail)
            go_wp2_with fail
            go_ret
            exact FINC.out _ (n + a) (q + 1) ((by repeat' (first | (with_reducible exact Below.refl _ _) | (with_reducible refine Below.drew ?_) | (with_reducible refine bo_drewN _ ?_) | (with_reducible refine bo_alloc ?_ _) | (refine bchain ?_ (by with_reducible assumption)) | (with_reducible refine Below.setCell ?_ ?_ _) | go_size))) HPK.out
        · obtain rfl : k = 3 := by omega
          have hv := HV.out
          simp only [if_neg h1, if_neg h2] at hv
          by_cases hyn : y = n
          · rw [if_pos hyn] at hv
            have hyn' : (y == n) = true := by simpa using hyn
            by_cases hbig : n + a > 1000000 ∨ wn = 1000000
            · rw [if_pos hbig] at hv
              have HPK := hide hv
              clear hv HV
              by_cases hna : n + a > 1000000
              · have hna' : decide (1000000 < n + a) = true := by simpa using hna
                go_wp2_with fail
                go_quiet (fail)
                go_wp2_with fail
                go_quiet (fail)
                go_wp2_with fail
                go_ret
                exact picked_no HPK.out (HO.out.new ((by repeat' (first | (with_reducible exact Below.refl _ _) | (with_reducible refine Below.drew ?_) | (with_reducible refine bo_drewN _ ?_) | (with_reducible refine bo_alloc ?_ _) | (refine bchain ?_ (by with_reducible assumption)) | (with_reducible refine Below.setCell ?_ ?_ _) | go_size)))) (turn_new ((by repeat' (first | (with_reducible exact Below.refl _ _) | (with_reducible refine Below.drew ?_) | (with_reducible refine bo_drewN _ ?_) | (with_reducible refine bo_alloc ?_ _) | (refine bchain ?_ (by with_reducible assumption)) | (with_reducible refine Below.setCell ?_ ?_ _) | go_size))) _ _)
              · have hna' : decide (1000000 < n + a) = false := by simpa using hna
                have hwn' : (wn == 1000000) = true := by simp; omega
                go_wp2_with fail
                go_quiet (fail)
                go_wp2_with fail
                go_quiet (fail)
                go_wp2_with fail
                go_ret
                exact picked_no HPK.out (HO.out.new ((by repeat' (first | (with_reducible exact Below.refl _ _) | (with_reducible refine Below.drew ?_) | (with_reducible refine bo_drewN _ ?_) | (with_reducible refine bo_alloc ?_ _) | (refine bchain ?_ (by with_reducible assumption)) | (with_reducible refine Below.setCell ?_ ?_ _) | go_size)))) (turn_new ((by repeat' (first | (with_reducible exact Below.refl _ _) | (with_reducible refine Below.drew ?_) | (with_reducible refine bo_drewN _ ?_) | (with_reducible refine bo_alloc ?_ _) | (refine bchain ?_ (by with_reducible assumption)) | (with_reducible refine Below.setCell ?_ ?_ _) | go_size))) _ _)
            · rw [if_neg hbig] at hv
              simp only [Option.map_some] at hv
              have hna' : decide (1000000 < n + a) = false := by simp; omega
              have hwn' : (wn == 1000000) = false := by simp; omega
              have hna : n + a ≤ 1000000 := by omega
              have hwa : wn + 1 ≤ 1000000 := by
                have h3 : wn ≤ 1000000 := w1
                omega
              have HPK := hide hv
              clear hv HV hbig
              go_wp2_with fail
              go_quiet (fail)
              go_wp2_with fail
              go_quiet (fail)
              go_wp2_with fail
              go_region_held3 (fun w' => w'.cell? ⟨bx, 0, none⟩ = some (.slice (some ⟨gc, 0, none⟩) m.cells.length cap) ∧ w'.cell? ⟨W1.heap.size, 1, none⟩ = some (.int .i64 c) ∧ w'.cell? ⟨W1.heap.size, 2, none⟩ = some (.int .i64 a) ∧ w'.cell? ⟨g, i * 4 + 2, none⟩ = some (.int .i64 n)) (first | go_keep | (simp [*, go_sem]; done) | (simp [*, go_sem, World.cell?_alloc_at, World.size_setCell, World.size_drew]; done)) (fail)
              go_wp2_with fail
              go_ret
              exact FIN3.out _ (n + a) (q + 1) (wn + 1) ((by repeat' (first | (with_reducible exact Below.refl _ _) | (with_reducible refine Below.drew ?_) | (with_reducible refine bo_drewN _ ?_) | (with_reducible refine bo_alloc ?_ _) | (refine bchain ?_ (by with_reducible assumption)) | (with_reducible refine Below.setCell ?_ ?_ _) | go_size))) HPK.out
          · rw [if_neg hyn] at hv
            simp only [Option.map_some] at hv
            have hyn' : (y == n) = false := by simpa using hyn
            have HPK := hide hv
            clear hv HV
            go_wp2_with fail
            go_quiet (fail)
            go_wp2_with fail
            go_ret
            exact FIN1.out _ (q + 1) ((by repeat' (first | (with_reducible exact Below.refl _ _) | (with_reducible refine Below.drew ?_) | (with_reducible refine bo_drewN _ ?_) | (with_reducible refine bo_alloc ?_ _) | (refine bchain ?_ (by with_reducible assumption)) | (with_reducible refine Below.setCell ?_ ?_ _) | go_size))) HPK.out
    · have V := hide (pickD_thru hlt hth)
      have hnth : (m.ths[i].pos == (m.ths[i].st.length : Int)) = true := hth
      go_enter Try.func43, Try.ntmps43
      go_wp2_with (go_at_call 47; refine (in1 _ _ _ _).mono ?_; rw [hrg]; rintro x w' ⟨rfl, hw'⟩; subst w')
      go_quiet (fail)
      go_wp2_with fail
      go_ret
      exact picked_no V.out (HO.out.new ((by repeat' (first | (with_reducible exact Below.refl _ _) | (with_reducible refine Below.drew ?_) | (with_reducible refine bo_drewN _ ?_) | (with_reducible refine bo_alloc ?_ _) | (refine bchain ?_ (by with_reducible assumption)) | (with_reducible refine Below.setCell ?_ ?_ _) | go_size)))) (turn_new ((by repeat' (first | (with_reducible exact Below.refl _ _) | (with_reducible refine Below.drew ?_) | (with_reducible refine bo_drewN _ ?_) | (with_reducible refine bo_alloc ?_ _) | (refine bchain ?_ (by with_reducible assumption)) | (with_reducible refine Below.setCell ?_ ?_ _) | go_size))) _ _)
end Go.Proofs.Ytdplpkobpoiioaa
