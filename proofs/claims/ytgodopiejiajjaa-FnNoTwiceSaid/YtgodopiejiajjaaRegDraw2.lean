/- What the laws of the registry draw: a registry, right or bent, and numbers beside it. -/
import Derived.Test.YtgodopiejiajjaaRegDraw1


namespace Go.Proofs.Ytgodopiejiajjaa
open Go.RowKit
set_option maxRecDepth 100000
set_option linter.unusedSimpArgs false
set_option linter.unusedVariables false
theorem RegAt.put0 {w : World} {g base : Nat} {d : RegistryD} (h : RegAt w g base d) (z : Int) : RegAt (w.setCell ⟨g, 0, none⟩ (.int .i64 z)) g base ⟨z, d.top, d.es⟩ := by
  obtain ⟨ad, cap, a, b, e⟩ := h.ex
  exact ⟨ad, cap, a.set 0 _, owns_apart b _ _ e, e⟩
theorem RegAt.put1 {w : World} {g base : Nat} {d : RegistryD} (h : RegAt w g base d) (z : Int) : RegAt (w.setCell ⟨g, 1, none⟩ (.int .i64 z)) g base ⟨d.lim, z, d.es⟩ := by
  obtain ⟨ad, cap, a, b, e⟩ := h.ex
  exact ⟨ad, cap, a.set 1 _, owns_apart b _ _ e, e⟩
set_option maxRecDepth 100000 in
set_option maxHeartbeats 4000000 in
theorem drawRegAny (g B : Nat) (w : World) (hc : Cur w g B) :
    Calls Try.prog 27 #[.pointer (some ⟨g, 0, none⟩)] w fun e w' => ∃ (d : RegistryD) (v : Value), e = .returned (.agg #[.int .i64 d.lim, .int .i64 d.top, v]) ∧ w'.ownsRow (w.heap.size + 1) 57 2 v d.es.length (ev d.es) ∧ d.es.length ≤ 80 ∧ Cur w' g B ∧ Moves g w w' := by
  have hgw := hc.lt
  go_enter Try.func27, Try.ntmps27
  go_wp2_with fail
  generalize hV : w.alloc (.cells #[.int .i64 0, .int .i64 0, .slice none 0 0] 26) = V
  have HM : Hid (Moves g w V) := by show Moves _ _ _; rw [← hV]; exact (Moves.refl g w).alloc _
  have HZ : Hid (RowIs V w.heap.size 26 [.int .i64 0, .int .i64 0, .slice none 0 0]) := by show RowIs _ _ _ _; rw [← hV]; exact rowIs_new w 26 [.int .i64 0, .int .i64 0, .slice none 0 0]
  have HC : Hid (Cur V g B) := by show Cur _ _ _; rw [← hV]; exact hc.alloc _
  have hsV : V.heap.size = w.heap.size + 1 := by rw [← hV]; simp
  clear hV hc
  refine (drawReg0 g B _ HC.out).mono ?_; rintro e w1 ⟨d, v, rfl, ho, hd12, ht0, ht1, hc1, hm1⟩
  replace HC := hide hc1; replace HZ := hide (HZ.out.moves hm1 (by omega)); replace HM := hide (HM.out.trans hm1)
  have hs1 := hm1.size
  rw [hsV] at ho hs1
  clear hc1 hm1 hsV
  obtain ⟨a1, p1, rfl, _⟩ := owns_form ho
  replace ho := owns_base (base' := w.heap.size + 1) ho (fun q hq => by have := (ho.lt q hq).1; omega)
  go_upto_region 2 with fail
  have hb2 : Below w1.heap.size w1 (w1.alloc (.cells #[.int .i64 d.lim, .int .i64 d.top, .slice a1 d.es.length p1] 26)) := (Below.refl _ _).alloc (Nat.le_refl _) _
  have HRA : Hid (RegAt (w1.alloc (.cells #[.int .i64 d.lim, .int .i64 d.top, .slice a1 d.es.length p1] 26)) w1.heap.size (w.heap.size + 1) d) := regAt_new (d := d) ho
  generalize w1.alloc (.cells #[.int .i64 d.lim, .int .i64 d.top, .slice a1 d.es.length p1] 26) = w2 at *
  replace HC := hide (HC.out.below hb2); replace HZ := hide (HZ.out.new hb2); replace HM := hide (HM.out.trans (Moves.of_below (g := g) hb2))
  clear hb2 ho
  generalize w1.heap.size = gr at *
  have hgr : w.heap.size < gr := by omega
  go_wp2_with fail
  refine (once1 g B 12 _ HC.out (by omega)).mono ?_; rintro e w3 ⟨b, rfl, hc3, hm3⟩
  replace HC := hide hc3; replace HRA := hide (HRA.out.moves hm3 (by omega) (by omega)); replace HZ := hide (HZ.out.moves hm3 (by omega)); replace HM := hide (HM.out.trans hm3)
  clear hc3 hm3
  have hd80 : d.es.length ≤ 80 := by omega
  cases b
  · go_upto_region 16 with fail
    obtain ⟨a9, p9, hrow, hown, hne⟩ := HRA.out.ex
    have t0 := hrow.cell (j := 0) rfl
    have t1 := hrow.cell (j := 1) rfl
    have t2 := hrow.cell (j := 2) rfl
    have hlT := hrow.lt
    have r0 := HZ.out.cell (j := 0) rfl
    have r1 := HZ.out.cell (j := 1) rfl
    have r2 := HZ.out.cell (j := 2) rfl
    have r3 := HZ.out.frozen 0
    have r4 := HZ.out.frozen 1
    have r5 := HZ.out.frozen 2
    have hlR := HZ.out.lt
    have hov : ∀ q, (Value.slice a9 d.es.length p9).ownBlock = some q → w.heap.size + 1 ≤ q := fun q hq => (hown.lt q hq).1
    have HO := hide hown
    have HOV := hide hov
    have hgT : gr ≠ w.heap.size := by omega
    clear hrow hown hov hne
    go_wp2_with fail
    refine bodyPost_ret (v := (.agg #[.int .i64 d.lim, .int .i64 d.top, .slice a9 d.es.length p9])) (by simp [results, Try.results27, go_sem, *]) rfl ?_
    have hlt1 : w.heap.size < w.heap.size + 1 := by omega
    have hfin := owns_far (w.heap.size + 1) (owns_far (w.heap.size + 1) (owns_far (w.heap.size + 1) HO.out HOV.out ⟨w.heap.size, 0, none⟩ (.int .i64 d.lim) hlt1) HOV.out ⟨w.heap.size, 1, none⟩ (.int .i64 d.top) hlt1) HOV.out ⟨w.heap.size, 2, none⟩ (.slice a9 d.es.length p9) hlt1
    exact ⟨d, _, rfl, hfin, hd80, ((HC.out.set _ _ (by simpa using hgw)).set _ _ (by simpa using hgw)).set _ _ (by simpa using hgw), ((HM.out.setNew _ (by simp) _).setNew _ (by simp) _).setNew _ (by simp) _⟩
  · go_wp2_with fail
    refine (below1 g B 4 _ HC.out (by omega)).mono ?_; rintro e w4 ⟨q, q0, q1, _, rfl, hc4, hm4⟩
    have q4 := q1 (by omega)
    replace HC := hide hc4; replace HRA := hide (HRA.out.moves hm4 (by omega) (by omega)); replace HZ := hide (HZ.out.moves hm4 (by omega)); replace HM := hide (HM.out.trans hm4)
    clear hc4 hm4 q1
    have hq : q = 0 ∨ q = 1 ∨ q = 2 ∨ q = 3 := by omega
    clear q0 q4
    rcases hq with rfl | rfl | rfl | rfl
    · go_wp2_with fail
      obtain ⟨VA, hVA⟩ : ∃ V, w4.alloc (.cells #[.int .i64 (-1), .int .i64 0, .int .i64 20, .int .i64 21] 2) = V := ⟨_, rfl⟩
      have RA : RowIs VA w4.heap.size 2 [.int .i64 (-1), .int .i64 0, .int .i64 20, .int .i64 21] := by rw [← hVA]; exact rowIs_new w4 _ _
      have hbA : Below w4.heap.size w4 VA := by rw [← hVA]; exact (Below.refl _ _).alloc (Nat.le_refl _) _
      rw [hVA]
      clear hVA
      have hw4 : w.heap.size ≤ w4.heap.size := HM.out.size
      replace HC := hide (HC.out.below hbA); replace HRA := hide (HRA.out.new hbA); replace HZ := hide (HZ.out.new hbA); replace HM := hide (HM.out.trans (Moves.of_below (g := g) hbA))
      have hm4s := HM.out.size
      have hzl := HZ.out.lt
      have hcl := HC.out.lt
      have hra := RA.lt
      refine (below1 g B 4 _ HC.out (by omega)).mono ?_; rintro e w5 ⟨q, q0, q1, _, rfl, hc5, hm5⟩
      have q6 := q1 (by omega)
      replace RA := RA.moves hm5 (by omega)
      replace HC := hide hc5; replace HRA := hide (HRA.out.moves hm5 (by omega) (by omega)); replace HZ := hide (HZ.out.moves hm5 (by omega)); replace HM := hide (HM.out.trans hm5)
      clear hc5 hm5 q1 hbA
      obtain ⟨qn, rfl⟩ : ∃ n : Nat, q = n := ⟨q.toNat, by omega⟩
      obtain ⟨z, hz⟩ : ∃ z : Int, w5.cell? ⟨w4.heap.size, qn, none⟩ = some (.int .i64 z) := by
        have : qn = 0 ∨ qn = 1 ∨ qn = 2 ∨ qn = 3 := by omega
        rcases this with rfl | rfl | rfl | rfl <;> exact ⟨_, RA.cell rfl⟩
      have hlA := RA.lt
      obtain ⟨_, _, hrw, _, _⟩ := HRA.out.ex
      have b0 := hrw.cell (j := 0) rfl
      have b1 := hrw.frozen 0
      have b2 := hrw.lt
      clear RA hrw
      go_upto_region 16 with fail
      replace HRA := hide (HRA.out.put0 z)
      replace HZ := hide (HZ.out.far ⟨gr, 0, none⟩ (.int .i64 z) (by simp; omega))
      replace HC := hide (HC.out.set ⟨gr, 0, none⟩ (.int .i64 z) (by simp; omega))
      replace HM := hide (HM.out.setNew ⟨gr, 0, none⟩ (by simp; omega) (.int .i64 z))
      generalize w5.setCell ⟨gr, 0, none⟩ (.int .i64 z) = w6 at *
      clear b0 b1 b2 hz hlA
      obtain ⟨d', hd'⟩ : ∃ d' : RegistryD, ⟨z, d.top, d.es⟩ = d' := ⟨_, rfl⟩
      have hd81 : d'.es.length ≤ 80 := by rw [← hd']; exact hd80
      rw [hd'] at HRA
      clear hd' hd80
      have hd80 := hd81
      obtain ⟨a9, p9, hrow, hown, hne⟩ := HRA.out.ex
      have t0 := hrow.cell (j := 0) rfl
      have t1 := hrow.cell (j := 1) rfl
      have t2 := hrow.cell (j := 2) rfl
      have hlT := hrow.lt
      have r0 := HZ.out.cell (j := 0) rfl
      have r1 := HZ.out.cell (j := 1) rfl
      have r2 := HZ.out.cell (j := 2) rfl
      have r3 := HZ.out.frozen 0
      have r4 := HZ.out.frozen 1
      have r5 := HZ.out.frozen 2
      have hlR := HZ.out.lt
      have hov : ∀ q, (Value.slice a9 d'.es.length p9).ownBlock = some q → w.heap.size + 1 ≤ q := fun q hq => (hown.lt q hq).1
      have HO := hide hown
      have HOV := hide hov
      have hgT : gr ≠ w.heap.size := by omega
      clear hrow hown hov hne
      go_wp2_with fail
      refine bodyPost_ret (v := (.agg #[.int .i64 d'.lim, .int .i64 d'.top, .slice a9 d'.es.length p9])) (by simp [results, Try.results27, go_sem, *]) rfl ?_
      have hlt1 : w.heap.size < w.heap.size + 1 := by omega
      have hfin := owns_far (w.heap.size + 1) (owns_far (w.heap.size + 1) (owns_far (w.heap.size + 1) HO.out HOV.out ⟨w.heap.size, 0, none⟩ (.int .i64 d'.lim) hlt1) HOV.out ⟨w.heap.size, 1, none⟩ (.int .i64 d'.top) hlt1) HOV.out ⟨w.heap.size, 2, none⟩ (.slice a9 d'.es.length p9) hlt1
      exact ⟨d', _, rfl, hfin, hd80, ((HC.out.set _ _ (by simpa using hgw)).set _ _ (by simpa using hgw)).set _ _ (by simpa using hgw), ((HM.out.setNew _ (by simp) _).setNew _ (by simp) _).setNew _ (by simp) _⟩
    · go_wp2_with fail
      obtain ⟨VA, hVA⟩ : ∃ V, w4.alloc (.cells #[.int .i64 (-1), .int .i64 0, .int .i64 2, .int .i64 3, .int .i64 99999, .int .i64 100001] 2) = V := ⟨_, rfl⟩
      have RA : RowIs VA w4.heap.size 2 [.int .i64 (-1), .int .i64 0, .int .i64 2, .int .i64 3, .int .i64 99999, .int .i64 100001] := by rw [← hVA]; exact rowIs_new w4 _ _
      have hbA : Below w4.heap.size w4 VA := by rw [← hVA]; exact (Below.refl _ _).alloc (Nat.le_refl _) _
      rw [hVA]
      clear hVA
      have hw4 : w.heap.size ≤ w4.heap.size := HM.out.size
      replace HC := hide (HC.out.below hbA); replace HRA := hide (HRA.out.new hbA); replace HZ := hide (HZ.out.new hbA); replace HM := hide (HM.out.trans (Moves.of_below (g := g) hbA))
      have hm4s := HM.out.size
      have hzl := HZ.out.lt
      have hcl := HC.out.lt
      have hra := RA.lt
      refine (below1 g B 6 _ HC.out (by omega)).mono ?_; rintro e w5 ⟨q, q0, q1, _, rfl, hc5, hm5⟩
      have q6 := q1 (by omega)
      replace RA := RA.moves hm5 (by omega)
      replace HC := hide hc5; replace HRA := hide (HRA.out.moves hm5 (by omega) (by omega)); replace HZ := hide (HZ.out.moves hm5 (by omega)); replace HM := hide (HM.out.trans hm5)
      clear hc5 hm5 q1 hbA
      obtain ⟨qn, rfl⟩ : ∃ n : Nat, q = n := ⟨q.toNat, by omega⟩
      obtain ⟨z, hz⟩ : ∃ z : Int, w5.cell? ⟨w4.heap.size, qn, none⟩ = some (.int .i64 z) := by
        have : qn = 0 ∨ qn = 1 ∨ qn = 2 ∨ qn = 3 ∨ qn = 4 ∨ qn = 5 := by omega
        rcases this with rfl | rfl | rfl | rfl | rfl | rfl <;> exact ⟨_, RA.cell rfl⟩
      have hlA := RA.lt
      obtain ⟨_, _, hrw, _, _⟩ := HRA.out.ex
      have b0 := hrw.cell (j := 1) rfl
      have b1 := hrw.frozen 1
      have b2 := hrw.lt
      clear RA hrw
      go_upto_region 16 with fail
      replace HRA := hide (HRA.out.put1 z)
      replace HZ := hide (HZ.out.far ⟨gr, 1, none⟩ (.int .i64 z) (by simp; omega))
      replace HC := hide (HC.out.set ⟨gr, 1, none⟩ (.int .i64 z) (by simp; omega))
      replace HM := hide (HM.out.setNew ⟨gr, 1, none⟩ (by simp; omega) (.int .i64 z))
      generalize w5.setCell ⟨gr, 1, none⟩ (.int .i64 z) = w6 at *
      clear b0 b1 b2 hz hlA
      obtain ⟨d', hd'⟩ : ∃ d' : RegistryD, ⟨d.lim, z, d.es⟩ = d' := ⟨_, rfl⟩
      have hd81 : d'.es.length ≤ 80 := by rw [← hd']; exact hd80
      rw [hd'] at HRA
      clear hd' hd80
      have hd80 := hd81
      obtain ⟨a9, p9, hrow, hown, hne⟩ := HRA.out.ex
      have t0 := hrow.cell (j := 0) rfl
      have t1 := hrow.cell (j := 1) rfl
      have t2 := hrow.cell (j := 2) rfl
      have hlT := hrow.lt
      have r0 := HZ.out.cell (j := 0) rfl
      have r1 := HZ.out.cell (j := 1) rfl
      have r2 := HZ.out.cell (j := 2) rfl
      have r3 := HZ.out.frozen 0
      have r4 := HZ.out.frozen 1
      have r5 := HZ.out.frozen 2
      have hlR := HZ.out.lt
      have hov : ∀ q, (Value.slice a9 d'.es.length p9).ownBlock = some q → w.heap.size + 1 ≤ q := fun q hq => (hown.lt q hq).1
      have HO := hide hown
      have HOV := hide hov
      have hgT : gr ≠ w.heap.size := by omega
      clear hrow hown hov hne
      go_wp2_with fail
      refine bodyPost_ret (v := (.agg #[.int .i64 d'.lim, .int .i64 d'.top, .slice a9 d'.es.length p9])) (by simp [results, Try.results27, go_sem, *]) rfl ?_
      have hlt1 : w.heap.size < w.heap.size + 1 := by omega
      have hfin := owns_far (w.heap.size + 1) (owns_far (w.heap.size + 1) (owns_far (w.heap.size + 1) HO.out HOV.out ⟨w.heap.size, 0, none⟩ (.int .i64 d'.lim) hlt1) HOV.out ⟨w.heap.size, 1, none⟩ (.int .i64 d'.top) hlt1) HOV.out ⟨w.heap.size, 2, none⟩ (.slice a9 d'.es.length p9) hlt1
      exact ⟨d', _, rfl, hfin, hd80, ((HC.out.set _ _ (by simpa using hgw)).set _ _ (by simpa using hgw)).set _ _ (by simpa using hgw), ((HM.out.setNew _ (by simp) _).setNew _ (by simp) _).setNew _ (by simp) _⟩
    · go_upto_region 9 with fail
      refine wp_region_any (by kernel_rfl) ?_
      change wpAny _ _ _ _ _ _ _ (World.drew _)
      obtain ⟨u0, hu0⟩ : ∃ u : World, u = World.drew w4 := ⟨_, rfl⟩
      have hbu : Below w4.heap.size w4 u0 := by rw [hu0]; exact bo_drewN 1 (Below.refl _ _)
      rw [← hu0]
      clear hu0
      replace HC := hide (HC.out.below hbu); replace HRA := hide (HRA.out.new hbu); replace HZ := hide (HZ.out.new hbu); replace HM := hide (HM.out.trans (Moves.of_below (g := g) hbu))
      clear hbu
      refine wpAny_take (i := 0) (v := ?_) rfl (by kernel_rfl) (by kernel_rfl) (by kernel_rfl) (fun _ _ _ h => h) (Or.inl ⟨by rfl, ?_⟩) ?_; rotate_left; focus (intro uu; go_simp; try with_reducible rfl)
      try simp only [Act.put, List.getElem_toArray, List.getElem_cons_succ, List.getElem_cons_zero, List.setIfInBounds_toArray, List.set_cons_zero, List.set_cons_succ]
      refine wpAny_take (i := 2) (v := ?_) rfl (by kernel_rfl) (by kernel_rfl) (by kernel_rfl) (fun _ _ _ h => h) (Or.inl ⟨by rfl, ?_⟩) ?_; rotate_left; focus (intro uu; go_simp; try with_reducible rfl)
      try simp only [Act.put, List.getElem_toArray, List.getElem_cons_succ, List.getElem_cons_zero, List.setIfInBounds_toArray, List.set_cons_zero, List.set_cons_succ]
      refine wpAny_take (i := 4) (v := ?_) rfl (by kernel_rfl) (by kernel_rfl) (by kernel_rfl) (fun _ _ _ h => h) (Or.inl ⟨by rfl, ?_⟩) ?_; rotate_left; focus (intro uu; go_simp; try with_reducible rfl)
      try simp only [Act.put, List.getElem_toArray, List.getElem_cons_succ, List.getElem_cons_zero, List.setIfInBounds_toArray, List.set_cons_zero, List.set_cons_succ]
      refine wpAny_ready (rs := [1, 3]) (by kernel_rfl) (by simp) ?_
      refine (AllReady.cons rfl (fun K hK => ?_) (AllReady.cons rfl (fun K hK => ?_) AllReady.nil))
      · skip
        try rw [if_pos (by kernel_rfl)]
        obtain ⟨aM, pM, hrowM, hownM, hneM⟩ := HRA.out.ex
        have l2 := hrowM.cell (j := 2) rfl
        have ll := hrowM.lt
        have HTM := hide hrowM; have HOM := hide hownM; have HNM := hide hneM
        clear hrowM hownM hneM
        go_simp
        refine hK _ _ ?_; clear hK K
        clear l2 ll
        try simp only [Act.put, List.getElem_toArray, List.getElem_cons_succ, List.getElem_cons_zero, List.setIfInBounds_toArray, List.set_cons_zero, List.set_cons_succ]
        refine wpAny_ready (rs := [3]) (by kernel_rfl) (by simp) ?_
        refine (AllReady.cons rfl (fun K hK => ?_) AllReady.nil)
        try rw [if_pos (by kernel_rfl)]
        go_simp
        refine (below1 g B 8 _ HC.out (by omega)).mono ?_; rintro e y2 ⟨p, p0, p1, _, rfl, hcx, hmx⟩
        replace HC := hide hcx; replace HRA := hide (HRA.out.moves hmx (by omega) (by omega)); replace HZ := hide (HZ.out.moves hmx (by omega)); replace HM := hide (HM.out.trans hmx)
        try replace HTM := hide (HTM.out.moves hmx (by omega))
        try replace HOM := hide (owns_moves HOM.out hmx (by omega))
        clear hcx hmx p1
        refine hK _ _ ?_; clear hK K
        try simp only [Act.put, List.getElem_toArray, List.getElem_cons_succ, List.getElem_cons_zero, List.setIfInBounds_toArray, List.set_cons_zero, List.set_cons_succ]
        refine wpAny_ready (rs := [5]) (by kernel_rfl) (by simp) ?_
        refine (AllReady.cons rfl (fun K hK => ?_) AllReady.nil)
        try rw [if_pos (by kernel_rfl)]
        go_simp
        refine (below1 g B 6 _ HC.out (by omega)).mono ?_; rintro e y3 ⟨s, s0, s1, _, rfl, hcx, hmx⟩
        replace HC := hide hcx; replace HRA := hide (HRA.out.moves hmx (by omega) (by omega)); replace HZ := hide (HZ.out.moves hmx (by omega)); replace HM := hide (HM.out.trans hmx)
        try replace HTM := hide (HTM.out.moves hmx (by omega))
        try replace HOM := hide (owns_moves HOM.out hmx (by omega))
        clear hcx hmx s1
        refine hK _ _ ?_; clear hK K
        try simp only [Act.put, List.getElem_toArray, List.getElem_cons_succ, List.getElem_cons_zero, List.setIfInBounds_toArray, List.set_cons_zero, List.set_cons_succ]
        refine wpAny_take (i := 6) (v := ?_) rfl (by kernel_rfl) (by kernel_rfl) (by kernel_rfl) (fun _ _ _ h => h) (Or.inl ⟨by rfl, ?_⟩) ?_; rotate_left; focus (intro uu; go_simp; try with_reducible rfl)
        try simp only [Act.put, List.getElem_toArray, List.getElem_cons_succ, List.getElem_cons_zero, List.setIfInBounds_toArray, List.set_cons_zero, List.set_cons_succ]
        refine wpAny_ready (rs := [7]) (by kernel_rfl) (by simp) ?_
        refine (AllReady.cons rfl (fun K hK => ?_) AllReady.nil)
        try rw [if_pos (by kernel_rfl)]
        go_simp
        obtain ⟨y4, hX⟩ : ∃ u, y3.alloc (.cells #[.int .i64 p, .int .i64 s] 57) = u := ⟨_, rfl⟩
        have hbX : Below y3.heap.size y3 y4 := by rw [← hX]; exact (Below.refl _ _).alloc (Nat.le_refl _) _
        have HN : Hid (y4.ownsRow y3.heap.size 57 2 (.slice (some ⟨y3.heap.size, 0, none⟩) 1 1) 1 (ev [⟨p, s⟩])) := by show World.ownsRow _ _ _ _ _ _ _; rw [← hX]; exact owns_lit y3 57 2 1 #[.int .i64 p, .int .i64 s] rfl (by omega)
        replace HC := hide (HC.out.below hbX); replace HRA := hide (HRA.out.new hbX); replace HZ := hide (HZ.out.new hbX); replace HM := hide (HM.out.trans (Moves.of_below (g := g) hbX))
        try replace HTM := hide (HTM.out.new hbX)
        try replace HOM := hide (owns_new HOM.out hbX)
        rw [hX]
        clear hX hbX
        refine hK _ _ ?_; clear hK K
        try simp only [Act.put, List.getElem_toArray, List.getElem_cons_succ, List.getElem_cons_zero, List.setIfInBounds_toArray, List.set_cons_zero, List.set_cons_succ]
        refine wpAny_ready (rs := [8]) (by kernel_rfl) (by simp) ?_
        refine (AllReady.cons rfl (fun K hK => ?_) AllReady.nil)
        refine step_app _ (by rfl) _ _ 24 (by rfl) 57 (.agg #[.int .i64 0, .int .i64 0]) 2 16 Try.underlying24 (by kernel_rfl) rfl (by decide) (w.heap.size + 1) _ d.es.length (ev d.es) (by rfl) HOM.out _ 1 (ev [⟨p, s⟩]) (by rfl) (reads_of_owns HN.out) (ev_one _) (by omega) (by decide) (by have := HZ.out.lt; omega) ?_
        intro ad7 cap7 y5 hown7 hg7 hat7
        have hlW := HTM.out.lt
        have hlt7 := fun k (e : (Value.slice aM d.es.length pM).ownBlock = some k) => (HOM.out.lt k e).1
        have hrow7 := HTM.out.kept (hg7.block gr hlW (fun e => HNM.out e.symm))
        have hz7 := HZ.out.kept (hg7.block _ HZ.out.lt (fun e => by have := hlt7 _ e.symm; omega))
        have hc7 := HC.out.grown hg7 (fun k hk => by have := hlt7 k hk; omega)
        have hm7 := HM.out.grown hg7 (fun k hk => by have := hlt7 k hk; omega)
        have hne7 : (Value.slice ad7 (d.es.length + 1) cap7).ownBlock ≠ some gr := by
          rcases hat7 with e | e
          · rw [e]; exact HNM.out
          · rw [e]; intro hc; have := Option.some.inj hc; omega
        have HT7 := hide hrow7; have HO7 := hide hown7; have HZ7 := hide hz7; have HC7 := hide hc7; have HM7 := hide hm7; have HNE7 := hide hne7
        clear hrow7 hown7 hz7 hc7 hm7 hne7 hat7 hg7 hlW hlt7
        refine hK _ _ ?_; clear hK K
        have t2 := HT7.out.cell (j := 2) rfl
        have tf := HT7.out.frozen 2
        have tl := HT7.out.lt
        try simp only [Act.put, List.getElem_toArray, List.getElem_cons_succ, List.getElem_cons_zero, List.setIfInBounds_toArray, List.set_cons_zero, List.set_cons_succ]
        refine wpAny_take (i := 9) (v := ?_) rfl (by kernel_rfl) (by kernel_rfl) (by kernel_rfl) (fun _ _ _ h => h) (Or.inl ⟨by rfl, ?_⟩) ?_; rotate_left; focus (intro uu; go_simp; try with_reducible rfl)
        try simp only [Act.put, List.getElem_toArray, List.getElem_cons_succ, List.getElem_cons_zero, List.setIfInBounds_toArray, List.set_cons_zero, List.set_cons_succ]
        refine wpAny_ready (rs := [10]) (by kernel_rfl) (by simp) ?_
        refine (AllReady.cons rfl (fun K hK => ?_) AllReady.nil)
        try rw [if_pos (by kernel_rfl)]
        go_simp
        refine hK _ _ ?_; clear hK K
        try simp only [Act.put, List.getElem_toArray, List.getElem_cons_succ, List.getElem_cons_zero, List.setIfInBounds_toArray, List.set_cons_zero, List.set_cons_succ]
        refine wpAny_done (by kernel_rfl) ?_ _
        go_upto_region 16 with fail
        have HRA : Hid (RegAt (y5.setCell ⟨gr, 2, none⟩ (.slice ad7 (d.es.length + 1) cap7)) gr (w.heap.size + 1) ⟨d.lim, d.top, d.es ++ [⟨p, s⟩]⟩) := by
          refine ⟨ad7, cap7, ?_, ?_, ?_⟩
          · have := HT7.out.set 2 (.slice ad7 (d.es.length + 1) cap7)
            simpa using this
          · have := owns_apart HO7.out ⟨gr, 2, none⟩ (.slice ad7 (d.es.length + 1) cap7) HNE7.out
            simpa [ev_app] using this
          · simpa using HNE7.out
        replace HZ := hide (HZ7.out.far ⟨gr, 2, none⟩ (.slice ad7 (d.es.length + 1) cap7) (by simp; omega))
        replace HC := hide (HC7.out.set ⟨gr, 2, none⟩ (.slice ad7 (d.es.length + 1) cap7) (by simp; omega))
        replace HM := hide (HM7.out.setNew ⟨gr, 2, none⟩ (by simp; omega) (.slice ad7 (d.es.length + 1) cap7))
        generalize y5.setCell ⟨gr, 2, none⟩ (.slice ad7 (d.es.length + 1) cap7) = w6 at *
        clear t2 tf tl HT7 HO7 HNE7 HZ7 HC7 HM7 HTM HOM HNM HN
        obtain ⟨d', hd'⟩ : ∃ d' : RegistryD, (⟨d.lim, d.top, d.es ++ [⟨p, s⟩]⟩ : RegistryD) = d' := ⟨_, rfl⟩
        have hd81 : d'.es.length ≤ 80 := by rw [← hd']; simp; omega
        rw [hd'] at HRA
        clear hd' hd80
        have hd80 := hd81
        obtain ⟨a9, p9, hrow, hown, hne⟩ := HRA.out.ex
        have t0 := hrow.cell (j := 0) rfl
        have t1 := hrow.cell (j := 1) rfl
        have t2 := hrow.cell (j := 2) rfl
        have hlT := hrow.lt
        have r0 := HZ.out.cell (j := 0) rfl
        have r1 := HZ.out.cell (j := 1) rfl
        have r2 := HZ.out.cell (j := 2) rfl
        have r3 := HZ.out.frozen 0
        have r4 := HZ.out.frozen 1
        have r5 := HZ.out.frozen 2
        have hlR := HZ.out.lt
        have hov : ∀ q, (Value.slice a9 d'.es.length p9).ownBlock = some q → w.heap.size + 1 ≤ q := fun q hq => (hown.lt q hq).1
        have HO := hide hown
        have HOV := hide hov
        have hgT : gr ≠ w.heap.size := by omega
        clear hrow hown hov hne
        go_wp2_with fail
        refine bodyPost_ret (v := (.agg #[.int .i64 d'.lim, .int .i64 d'.top, .slice a9 d'.es.length p9])) (by simp [results, Try.results27, go_sem, *]) rfl ?_
        have hlt1 : w.heap.size < w.heap.size + 1 := by omega
        have hfin := owns_far (w.heap.size + 1) (owns_far (w.heap.size + 1) (owns_far (w.heap.size + 1) HO.out HOV.out ⟨w.heap.size, 0, none⟩ (.int .i64 d'.lim) hlt1) HOV.out ⟨w.heap.size, 1, none⟩ (.int .i64 d'.top) hlt1) HOV.out ⟨w.heap.size, 2, none⟩ (.slice a9 d'.es.length p9) hlt1
        exact ⟨d', _, rfl, hfin, hd80, ((HC.out.set _ _ (by simpa using hgw)).set _ _ (by simpa using hgw)).set _ _ (by simpa using hgw), ((HM.out.setNew _ (by simp) _).setNew _ (by simp) _).setNew _ (by simp) _⟩
      · skip
        try rw [if_pos (by kernel_rfl)]
        go_simp
        refine (below1 g B 8 _ HC.out (by omega)).mono ?_; rintro e y6 ⟨p, p0, p1, _, rfl, hcx, hmx⟩
        replace HC := hide hcx; replace HRA := hide (HRA.out.moves hmx (by omega) (by omega)); replace HZ := hide (HZ.out.moves hmx (by omega)); replace HM := hide (HM.out.trans hmx)
        try replace HTM := hide (HTM.out.moves hmx (by omega))
        try replace HOM := hide (owns_moves HOM.out hmx (by omega))
        clear hcx hmx p1
        refine hK _ _ ?_; clear hK K
        try simp only [Act.put, List.getElem_toArray, List.getElem_cons_succ, List.getElem_cons_zero, List.setIfInBounds_toArray, List.set_cons_zero, List.set_cons_succ]
        refine wpAny_ready (rs := [1, 5]) (by kernel_rfl) (by simp) ?_
        refine (AllReady.cons rfl (fun K hK => ?_) (AllReady.cons rfl (fun K hK => ?_) AllReady.nil))
        · skip
          try rw [if_pos (by kernel_rfl)]
          obtain ⟨aM, pM, hrowM, hownM, hneM⟩ := HRA.out.ex
          have l2 := hrowM.cell (j := 2) rfl
          have ll := hrowM.lt
          have HTM := hide hrowM; have HOM := hide hownM; have HNM := hide hneM
          clear hrowM hownM hneM
          go_simp
          refine hK _ _ ?_; clear hK K
          clear l2 ll
          try simp only [Act.put, List.getElem_toArray, List.getElem_cons_succ, List.getElem_cons_zero, List.setIfInBounds_toArray, List.set_cons_zero, List.set_cons_succ]
          refine wpAny_ready (rs := [5]) (by kernel_rfl) (by simp) ?_
          refine (AllReady.cons rfl (fun K hK => ?_) AllReady.nil)
          try rw [if_pos (by kernel_rfl)]
          go_simp
          refine (below1 g B 6 _ HC.out (by omega)).mono ?_; rintro e y8 ⟨s, s0, s1, _, rfl, hcx, hmx⟩
          replace HC := hide hcx; replace HRA := hide (HRA.out.moves hmx (by omega) (by omega)); replace HZ := hide (HZ.out.moves hmx (by omega)); replace HM := hide (HM.out.trans hmx)
          try replace HTM := hide (HTM.out.moves hmx (by omega))
          try replace HOM := hide (owns_moves HOM.out hmx (by omega))
          clear hcx hmx s1
          refine hK _ _ ?_; clear hK K
          try simp only [Act.put, List.getElem_toArray, List.getElem_cons_succ, List.getElem_cons_zero, List.setIfInBounds_toArray, List.set_cons_zero, List.set_cons_succ]
          refine wpAny_take (i := 6) (v := ?_) rfl (by kernel_rfl) (by kernel_rfl) (by kernel_rfl) (fun _ _ _ h => h) (Or.inl ⟨by rfl, ?_⟩) ?_; rotate_left; focus (intro uu; go_simp; try with_reducible rfl)
          try simp only [Act.put, List.getElem_toArray, List.getElem_cons_succ, List.getElem_cons_zero, List.setIfInBounds_toArray, List.set_cons_zero, List.set_cons_succ]
          refine wpAny_ready (rs := [7]) (by kernel_rfl) (by simp) ?_
          refine (AllReady.cons rfl (fun K hK => ?_) AllReady.nil)
          try rw [if_pos (by kernel_rfl)]
          go_simp
          obtain ⟨y9, hX⟩ : ∃ u, y8.alloc (.cells #[.int .i64 p, .int .i64 s] 57) = u := ⟨_, rfl⟩
          have hbX : Below y8.heap.size y8 y9 := by rw [← hX]; exact (Below.refl _ _).alloc (Nat.le_refl _) _
          have HN : Hid (y9.ownsRow y8.heap.size 57 2 (.slice (some ⟨y8.heap.size, 0, none⟩) 1 1) 1 (ev [⟨p, s⟩])) := by show World.ownsRow _ _ _ _ _ _ _; rw [← hX]; exact owns_lit y8 57 2 1 #[.int .i64 p, .int .i64 s] rfl (by omega)
          replace HC := hide (HC.out.below hbX); replace HRA := hide (HRA.out.new hbX); replace HZ := hide (HZ.out.new hbX); replace HM := hide (HM.out.trans (Moves.of_below (g := g) hbX))
          try replace HTM := hide (HTM.out.new hbX)
          try replace HOM := hide (owns_new HOM.out hbX)
          rw [hX]
          clear hX hbX
          refine hK _ _ ?_; clear hK K
          try simp only [Act.put, List.getElem_toArray, List.getElem_cons_succ, List.getElem_cons_zero, List.setIfInBounds_toArray, List.set_cons_zero, List.set_cons_succ]
          refine wpAny_ready (rs := [8]) (by kernel_rfl) (by simp) ?_
          refine (AllReady.cons rfl (fun K hK => ?_) AllReady.nil)
          refine step_app _ (by rfl) _ _ 24 (by rfl) 57 (.agg #[.int .i64 0, .int .i64 0]) 2 16 Try.underlying24 (by kernel_rfl) rfl (by decide) (w.heap.size + 1) _ d.es.length (ev d.es) (by rfl) HOM.out _ 1 (ev [⟨p, s⟩]) (by rfl) (reads_of_owns HN.out) (ev_one _) (by omega) (by decide) (by have := HZ.out.lt; omega) ?_
          intro ad7 cap7 y10 hown7 hg7 hat7
          have hlW := HTM.out.lt
          have hlt7 := fun k (e : (Value.slice aM d.es.length pM).ownBlock = some k) => (HOM.out.lt k e).1
          have hrow7 := HTM.out.kept (hg7.block gr hlW (fun e => HNM.out e.symm))
          have hz7 := HZ.out.kept (hg7.block _ HZ.out.lt (fun e => by have := hlt7 _ e.symm; omega))
          have hc7 := HC.out.grown hg7 (fun k hk => by have := hlt7 k hk; omega)
          have hm7 := HM.out.grown hg7 (fun k hk => by have := hlt7 k hk; omega)
          have hne7 : (Value.slice ad7 (d.es.length + 1) cap7).ownBlock ≠ some gr := by
            rcases hat7 with e | e
            · rw [e]; exact HNM.out
            · rw [e]; intro hc; have := Option.some.inj hc; omega
          have HT7 := hide hrow7; have HO7 := hide hown7; have HZ7 := hide hz7; have HC7 := hide hc7; have HM7 := hide hm7; have HNE7 := hide hne7
          clear hrow7 hown7 hz7 hc7 hm7 hne7 hat7 hg7 hlW hlt7
          refine hK _ _ ?_; clear hK K
          have t2 := HT7.out.cell (j := 2) rfl
          have tf := HT7.out.frozen 2
          have tl := HT7.out.lt
          try simp only [Act.put, List.getElem_toArray, List.getElem_cons_succ, List.getElem_cons_zero, List.setIfInBounds_toArray, List.set_cons_zero, List.set_cons_succ]
          refine wpAny_take (i := 9) (v := ?_) rfl (by kernel_rfl) (by kernel_rfl) (by kernel_rfl) (fun _ _ _ h => h) (Or.inl ⟨by rfl, ?_⟩) ?_; rotate_left; focus (intro uu; go_simp; try with_reducible rfl)
          try simp only [Act.put, List.getElem_toArray, List.getElem_cons_succ, List.getElem_cons_zero, List.setIfInBounds_toArray, List.set_cons_zero, List.set_cons_succ]
          refine wpAny_ready (rs := [10]) (by kernel_rfl) (by simp) ?_
          refine (AllReady.cons rfl (fun K hK => ?_) AllReady.nil)
          try rw [if_pos (by kernel_rfl)]
          go_simp
          refine hK _ _ ?_; clear hK K
          try simp only [Act.put, List.getElem_toArray, List.getElem_cons_succ, List.getElem_cons_zero, List.setIfInBounds_toArray, List.set_cons_zero, List.set_cons_succ]
          refine wpAny_done (by kernel_rfl) ?_ _
          go_upto_region 16 with fail
          have HRA : Hid (RegAt (y10.setCell ⟨gr, 2, none⟩ (.slice ad7 (d.es.length + 1) cap7)) gr (w.heap.size + 1) ⟨d.lim, d.top, d.es ++ [⟨p, s⟩]⟩) := by
            refine ⟨ad7, cap7, ?_, ?_, ?_⟩
            · have := HT7.out.set 2 (.slice ad7 (d.es.length + 1) cap7)
              simpa using this
            · have := owns_apart HO7.out ⟨gr, 2, none⟩ (.slice ad7 (d.es.length + 1) cap7) HNE7.out
              simpa [ev_app] using this
            · simpa using HNE7.out
          replace HZ := hide (HZ7.out.far ⟨gr, 2, none⟩ (.slice ad7 (d.es.length + 1) cap7) (by simp; omega))
          replace HC := hide (HC7.out.set ⟨gr, 2, none⟩ (.slice ad7 (d.es.length + 1) cap7) (by simp; omega))
          replace HM := hide (HM7.out.setNew ⟨gr, 2, none⟩ (by simp; omega) (.slice ad7 (d.es.length + 1) cap7))
          generalize y10.setCell ⟨gr, 2, none⟩ (.slice ad7 (d.es.length + 1) cap7) = w6 at *
          clear t2 tf tl HT7 HO7 HNE7 HZ7 HC7 HM7 HTM HOM HNM HN
          obtain ⟨d', hd'⟩ : ∃ d' : RegistryD, (⟨d.lim, d.top, d.es ++ [⟨p, s⟩]⟩ : RegistryD) = d' := ⟨_, rfl⟩
          have hd81 : d'.es.length ≤ 80 := by rw [← hd']; simp; omega
          rw [hd'] at HRA
          clear hd' hd80
          have hd80 := hd81
          obtain ⟨a9, p9, hrow, hown, hne⟩ := HRA.out.ex
          have t0 := hrow.cell (j := 0) rfl
          have t1 := hrow.cell (j := 1) rfl
          have t2 := hrow.cell (j := 2) rfl
          have hlT := hrow.lt
          have r0 := HZ.out.cell (j := 0) rfl
          have r1 := HZ.out.cell (j := 1) rfl
          have r2 := HZ.out.cell (j := 2) rfl
          have r3 := HZ.out.frozen 0
          have r4 := HZ.out.frozen 1
          have r5 := HZ.out.frozen 2
          have hlR := HZ.out.lt
          have hov : ∀ q, (Value.slice a9 d'.es.length p9).ownBlock = some q → w.heap.size + 1 ≤ q := fun q hq => (hown.lt q hq).1
          have HO := hide hown
          have HOV := hide hov
          have hgT : gr ≠ w.heap.size := by omega
          clear hrow hown hov hne
          go_wp2_with fail
          refine bodyPost_ret (v := (.agg #[.int .i64 d'.lim, .int .i64 d'.top, .slice a9 d'.es.length p9])) (by simp [results, Try.results27, go_sem, *]) rfl ?_
          have hlt1 : w.heap.size < w.heap.size + 1 := by omega
          have hfin := owns_far (w.heap.size + 1) (owns_far (w.heap.size + 1) (owns_far (w.heap.size + 1) HO.out HOV.out ⟨w.heap.size, 0, none⟩ (.int .i64 d'.lim) hlt1) HOV.out ⟨w.heap.size, 1, none⟩ (.int .i64 d'.top) hlt1) HOV.out ⟨w.heap.size, 2, none⟩ (.slice a9 d'.es.length p9) hlt1
          exact ⟨d', _, rfl, hfin, hd80, ((HC.out.set _ _ (by simpa using hgw)).set _ _ (by simpa using hgw)).set _ _ (by simpa using hgw), ((HM.out.setNew _ (by simp) _).setNew _ (by simp) _).setNew _ (by simp) _⟩
        · skip
          try rw [if_pos (by kernel_rfl)]
          go_simp
          refine (below1 g B 6 _ HC.out (by omega)).mono ?_; rintro e y11 ⟨s, s0, s1, _, rfl, hcx, hmx⟩
          replace HC := hide hcx; replace HRA := hide (HRA.out.moves hmx (by omega) (by omega)); replace HZ := hide (HZ.out.moves hmx (by omega)); replace HM := hide (HM.out.trans hmx)
          try replace HTM := hide (HTM.out.moves hmx (by omega))
          try replace HOM := hide (owns_moves HOM.out hmx (by omega))
          clear hcx hmx s1
          refine hK _ _ ?_; clear hK K
          try simp only [Act.put, List.getElem_toArray, List.getElem_cons_succ, List.getElem_cons_zero, List.setIfInBounds_toArray, List.set_cons_zero, List.set_cons_succ]
          refine wpAny_take (i := 6) (v := ?_) rfl (by kernel_rfl) (by kernel_rfl) (by kernel_rfl) (fun _ _ _ h => h) (Or.inl ⟨by rfl, ?_⟩) ?_; rotate_left; focus (intro uu; go_simp; try with_reducible rfl)
          try simp only [Act.put, List.getElem_toArray, List.getElem_cons_succ, List.getElem_cons_zero, List.setIfInBounds_toArray, List.set_cons_zero, List.set_cons_succ]
          refine wpAny_ready (rs := [1, 7]) (by kernel_rfl) (by simp) ?_
          refine (AllReady.cons rfl (fun K hK => ?_) (AllReady.cons rfl (fun K hK => ?_) AllReady.nil))
          · skip
            try rw [if_pos (by kernel_rfl)]
            obtain ⟨aM, pM, hrowM, hownM, hneM⟩ := HRA.out.ex
            have l2 := hrowM.cell (j := 2) rfl
            have ll := hrowM.lt
            have HTM := hide hrowM; have HOM := hide hownM; have HNM := hide hneM
            clear hrowM hownM hneM
            go_simp
            refine hK _ _ ?_; clear hK K
            clear l2 ll
            try simp only [Act.put, List.getElem_toArray, List.getElem_cons_succ, List.getElem_cons_zero, List.setIfInBounds_toArray, List.set_cons_zero, List.set_cons_succ]
            refine wpAny_ready (rs := [7]) (by kernel_rfl) (by simp) ?_
            refine (AllReady.cons rfl (fun K hK => ?_) AllReady.nil)
            try rw [if_pos (by kernel_rfl)]
            go_simp
            obtain ⟨y13, hX⟩ : ∃ u, y11.alloc (.cells #[.int .i64 p, .int .i64 s] 57) = u := ⟨_, rfl⟩
            have hbX : Below y11.heap.size y11 y13 := by rw [← hX]; exact (Below.refl _ _).alloc (Nat.le_refl _) _
            have HN : Hid (y13.ownsRow y11.heap.size 57 2 (.slice (some ⟨y11.heap.size, 0, none⟩) 1 1) 1 (ev [⟨p, s⟩])) := by show World.ownsRow _ _ _ _ _ _ _; rw [← hX]; exact owns_lit y11 57 2 1 #[.int .i64 p, .int .i64 s] rfl (by omega)
            replace HC := hide (HC.out.below hbX); replace HRA := hide (HRA.out.new hbX); replace HZ := hide (HZ.out.new hbX); replace HM := hide (HM.out.trans (Moves.of_below (g := g) hbX))
            try replace HTM := hide (HTM.out.new hbX)
            try replace HOM := hide (owns_new HOM.out hbX)
            rw [hX]
            clear hX hbX
            refine hK _ _ ?_; clear hK K
            try simp only [Act.put, List.getElem_toArray, List.getElem_cons_succ, List.getElem_cons_zero, List.setIfInBounds_toArray, List.set_cons_zero, List.set_cons_succ]
            refine wpAny_ready (rs := [8]) (by kernel_rfl) (by simp) ?_
            refine (AllReady.cons rfl (fun K hK => ?_) AllReady.nil)
            refine step_app _ (by rfl) _ _ 24 (by rfl) 57 (.agg #[.int .i64 0, .int .i64 0]) 2 16 Try.underlying24 (by kernel_rfl) rfl (by decide) (w.heap.size + 1) _ d.es.length (ev d.es) (by rfl) HOM.out _ 1 (ev [⟨p, s⟩]) (by rfl) (reads_of_owns HN.out) (ev_one _) (by omega) (by decide) (by have := HZ.out.lt; omega) ?_
            intro ad7 cap7 y14 hown7 hg7 hat7
            have hlW := HTM.out.lt
            have hlt7 := fun k (e : (Value.slice aM d.es.length pM).ownBlock = some k) => (HOM.out.lt k e).1
            have hrow7 := HTM.out.kept (hg7.block gr hlW (fun e => HNM.out e.symm))
            have hz7 := HZ.out.kept (hg7.block _ HZ.out.lt (fun e => by have := hlt7 _ e.symm; omega))
            have hc7 := HC.out.grown hg7 (fun k hk => by have := hlt7 k hk; omega)
            have hm7 := HM.out.grown hg7 (fun k hk => by have := hlt7 k hk; omega)
            have hne7 : (Value.slice ad7 (d.es.length + 1) cap7).ownBlock ≠ some gr := by
              rcases hat7 with e | e
              · rw [e]; exact HNM.out
              · rw [e]; intro hc; have := Option.some.inj hc; omega
            have HT7 := hide hrow7; have HO7 := hide hown7; have HZ7 := hide hz7; have HC7 := hide hc7; have HM7 := hide hm7; have HNE7 := hide hne7
            clear hrow7 hown7 hz7 hc7 hm7 hne7 hat7 hg7 hlW hlt7
            refine hK _ _ ?_; clear hK K
            have t2 := HT7.out.cell (j := 2) rfl
            have tf := HT7.out.frozen 2
            have tl := HT7.out.lt
            try simp only [Act.put, List.getElem_toArray, List.getElem_cons_succ, List.getElem_cons_zero, List.setIfInBounds_toArray, List.set_cons_zero, List.set_cons_succ]
            refine wpAny_take (i := 9) (v := ?_) rfl (by kernel_rfl) (by kernel_rfl) (by kernel_rfl) (fun _ _ _ h => h) (Or.inl ⟨by rfl, ?_⟩) ?_; rotate_left; focus (intro uu; go_simp; try with_reducible rfl)
            try simp only [Act.put, List.getElem_toArray, List.getElem_cons_succ, List.getElem_cons_zero, List.setIfInBounds_toArray, List.set_cons_zero, List.set_cons_succ]
            refine wpAny_ready (rs := [10]) (by kernel_rfl) (by simp) ?_
            refine (AllReady.cons rfl (fun K hK => ?_) AllReady.nil)
            try rw [if_pos (by kernel_rfl)]
            go_simp
            refine hK _ _ ?_; clear hK K
            try simp only [Act.put, List.getElem_toArray, List.getElem_cons_succ, List.getElem_cons_zero, List.setIfInBounds_toArray, List.set_cons_zero, List.set_cons_succ]
            refine wpAny_done (by kernel_rfl) ?_ _
            go_upto_region 16 with fail
            have HRA : Hid (RegAt (y14.setCell ⟨gr, 2, none⟩ (.slice ad7 (d.es.length + 1) cap7)) gr (w.heap.size + 1) ⟨d.lim, d.top, d.es ++ [⟨p, s⟩]⟩) := by
              refine ⟨ad7, cap7, ?_, ?_, ?_⟩
              · have := HT7.out.set 2 (.slice ad7 (d.es.length + 1) cap7)
                simpa using this
              · have := owns_apart HO7.out ⟨gr, 2, none⟩ (.slice ad7 (d.es.length + 1) cap7) HNE7.out
                simpa [ev_app] using this
              · simpa using HNE7.out
            replace HZ := hide (HZ7.out.far ⟨gr, 2, none⟩ (.slice ad7 (d.es.length + 1) cap7) (by simp; omega))
            replace HC := hide (HC7.out.set ⟨gr, 2, none⟩ (.slice ad7 (d.es.length + 1) cap7) (by simp; omega))
            replace HM := hide (HM7.out.setNew ⟨gr, 2, none⟩ (by simp; omega) (.slice ad7 (d.es.length + 1) cap7))
            generalize y14.setCell ⟨gr, 2, none⟩ (.slice ad7 (d.es.length + 1) cap7) = w6 at *
            clear t2 tf tl HT7 HO7 HNE7 HZ7 HC7 HM7 HTM HOM HNM HN
            obtain ⟨d', hd'⟩ : ∃ d' : RegistryD, (⟨d.lim, d.top, d.es ++ [⟨p, s⟩]⟩ : RegistryD) = d' := ⟨_, rfl⟩
            have hd81 : d'.es.length ≤ 80 := by rw [← hd']; simp; omega
            rw [hd'] at HRA
            clear hd' hd80
            have hd80 := hd81
            obtain ⟨a9, p9, hrow, hown, hne⟩ := HRA.out.ex
            have t0 := hrow.cell (j := 0) rfl
            have t1 := hrow.cell (j := 1) rfl
            have t2 := hrow.cell (j := 2) rfl
            have hlT := hrow.lt
            have r0 := HZ.out.cell (j := 0) rfl
            have r1 := HZ.out.cell (j := 1) rfl
            have r2 := HZ.out.cell (j := 2) rfl
            have r3 := HZ.out.frozen 0
            have r4 := HZ.out.frozen 1
            have r5 := HZ.out.frozen 2
            have hlR := HZ.out.lt
            have hov : ∀ q, (Value.slice a9 d'.es.length p9).ownBlock = some q → w.heap.size + 1 ≤ q := fun q hq => (hown.lt q hq).1
            have HO := hide hown
            have HOV := hide hov
            have hgT : gr ≠ w.heap.size := by omega
            clear hrow hown hov hne
            go_wp2_with fail
            refine bodyPost_ret (v := (.agg #[.int .i64 d'.lim, .int .i64 d'.top, .slice a9 d'.es.length p9])) (by simp [results, Try.results27, go_sem, *]) rfl ?_
            have hlt1 : w.heap.size < w.heap.size + 1 := by omega
            have hfin := owns_far (w.heap.size + 1) (owns_far (w.heap.size + 1) (owns_far (w.heap.size + 1) HO.out HOV.out ⟨w.heap.size, 0, none⟩ (.int .i64 d'.lim) hlt1) HOV.out ⟨w.heap.size, 1, none⟩ (.int .i64 d'.top) hlt1) HOV.out ⟨w.heap.size, 2, none⟩ (.slice a9 d'.es.length p9) hlt1
            exact ⟨d', _, rfl, hfin, hd80, ((HC.out.set _ _ (by simpa using hgw)).set _ _ (by simpa using hgw)).set _ _ (by simpa using hgw), ((HM.out.setNew _ (by simp) _).setNew _ (by simp) _).setNew _ (by simp) _⟩
          · skip
            try rw [if_pos (by kernel_rfl)]
            go_simp
            obtain ⟨y15, hX⟩ : ∃ u, y11.alloc (.cells #[.int .i64 p, .int .i64 s] 57) = u := ⟨_, rfl⟩
            have hbX : Below y11.heap.size y11 y15 := by rw [← hX]; exact (Below.refl _ _).alloc (Nat.le_refl _) _
            have HN : Hid (y15.ownsRow y11.heap.size 57 2 (.slice (some ⟨y11.heap.size, 0, none⟩) 1 1) 1 (ev [⟨p, s⟩])) := by show World.ownsRow _ _ _ _ _ _ _; rw [← hX]; exact owns_lit y11 57 2 1 #[.int .i64 p, .int .i64 s] rfl (by omega)
            replace HC := hide (HC.out.below hbX); replace HRA := hide (HRA.out.new hbX); replace HZ := hide (HZ.out.new hbX); replace HM := hide (HM.out.trans (Moves.of_below (g := g) hbX))
            try replace HTM := hide (HTM.out.new hbX)
            try replace HOM := hide (owns_new HOM.out hbX)
            rw [hX]
            clear hX hbX
            refine hK _ _ ?_; clear hK K
            try simp only [Act.put, List.getElem_toArray, List.getElem_cons_succ, List.getElem_cons_zero, List.setIfInBounds_toArray, List.set_cons_zero, List.set_cons_succ]
            refine wpAny_ready (rs := [1]) (by kernel_rfl) (by simp) ?_
            refine (AllReady.cons rfl (fun K hK => ?_) AllReady.nil)
            try rw [if_pos (by kernel_rfl)]
            obtain ⟨aM, pM, hrowM, hownM, hneM⟩ := HRA.out.ex
            have l2 := hrowM.cell (j := 2) rfl
            have ll := hrowM.lt
            have HTM := hide hrowM; have HOM := hide hownM; have HNM := hide hneM
            clear hrowM hownM hneM
            go_simp
            refine hK _ _ ?_; clear hK K
            clear l2 ll
            try simp only [Act.put, List.getElem_toArray, List.getElem_cons_succ, List.getElem_cons_zero, List.setIfInBounds_toArray, List.set_cons_zero, List.set_cons_succ]
            refine wpAny_ready (rs := [8]) (by kernel_rfl) (by simp) ?_
            refine (AllReady.cons rfl (fun K hK => ?_) AllReady.nil)
            refine step_app _ (by rfl) _ _ 24 (by rfl) 57 (.agg #[.int .i64 0, .int .i64 0]) 2 16 Try.underlying24 (by kernel_rfl) rfl (by decide) (w.heap.size + 1) _ d.es.length (ev d.es) (by rfl) HOM.out _ 1 (ev [⟨p, s⟩]) (by rfl) (reads_of_owns HN.out) (ev_one _) (by omega) (by decide) (by have := HZ.out.lt; omega) ?_
            intro ad7 cap7 y17 hown7 hg7 hat7
            have hlW := HTM.out.lt
            have hlt7 := fun k (e : (Value.slice aM d.es.length pM).ownBlock = some k) => (HOM.out.lt k e).1
            have hrow7 := HTM.out.kept (hg7.block gr hlW (fun e => HNM.out e.symm))
            have hz7 := HZ.out.kept (hg7.block _ HZ.out.lt (fun e => by have := hlt7 _ e.symm; omega))
            have hc7 := HC.out.grown hg7 (fun k hk => by have := hlt7 k hk; omega)
            have hm7 := HM.out.grown hg7 (fun k hk => by have := hlt7 k hk; omega)
            have hne7 : (Value.slice ad7 (d.es.length + 1) cap7).ownBlock ≠ some gr := by
              rcases hat7 with e | e
              · rw [e]; exact HNM.out
              · rw [e]; intro hc; have := Option.some.inj hc; omega
            have HT7 := hide hrow7; have HO7 := hide hown7; have HZ7 := hide hz7; have HC7 := hide hc7; have HM7 := hide hm7; have HNE7 := hide hne7
            clear hrow7 hown7 hz7 hc7 hm7 hne7 hat7 hg7 hlW hlt7
            refine hK _ _ ?_; clear hK K
            have t2 := HT7.out.cell (j := 2) rfl
            have tf := HT7.out.frozen 2
            have tl := HT7.out.lt
            try simp only [Act.put, List.getElem_toArray, List.getElem_cons_succ, List.getElem_cons_zero, List.setIfInBounds_toArray, List.set_cons_zero, List.set_cons_succ]
            refine wpAny_take (i := 9) (v := ?_) rfl (by kernel_rfl) (by kernel_rfl) (by kernel_rfl) (fun _ _ _ h => h) (Or.inl ⟨by rfl, ?_⟩) ?_; rotate_left; focus (intro uu; go_simp; try with_reducible rfl)
            try simp only [Act.put, List.getElem_toArray, List.getElem_cons_succ, List.getElem_cons_zero, List.setIfInBounds_toArray, List.set_cons_zero, List.set_cons_succ]
            refine wpAny_ready (rs := [10]) (by kernel_rfl) (by simp) ?_
            refine (AllReady.cons rfl (fun K hK => ?_) AllReady.nil)
            try rw [if_pos (by kernel_rfl)]
            go_simp
            refine hK _ _ ?_; clear hK K
            try simp only [Act.put, List.getElem_toArray, List.getElem_cons_succ, List.getElem_cons_zero, List.setIfInBounds_toArray, List.set_cons_zero, List.set_cons_succ]
            refine wpAny_done (by kernel_rfl) ?_ _
            go_upto_region 16 with fail
            have HRA : Hid (RegAt (y17.setCell ⟨gr, 2, none⟩ (.slice ad7 (d.es.length + 1) cap7)) gr (w.heap.size + 1) ⟨d.lim, d.top, d.es ++ [⟨p, s⟩]⟩) := by
              refine ⟨ad7, cap7, ?_, ?_, ?_⟩
              · have := HT7.out.set 2 (.slice ad7 (d.es.length + 1) cap7)
                simpa using this
              · have := owns_apart HO7.out ⟨gr, 2, none⟩ (.slice ad7 (d.es.length + 1) cap7) HNE7.out
                simpa [ev_app] using this
              · simpa using HNE7.out
            replace HZ := hide (HZ7.out.far ⟨gr, 2, none⟩ (.slice ad7 (d.es.length + 1) cap7) (by simp; omega))
            replace HC := hide (HC7.out.set ⟨gr, 2, none⟩ (.slice ad7 (d.es.length + 1) cap7) (by simp; omega))
            replace HM := hide (HM7.out.setNew ⟨gr, 2, none⟩ (by simp; omega) (.slice ad7 (d.es.length + 1) cap7))
            generalize y17.setCell ⟨gr, 2, none⟩ (.slice ad7 (d.es.length + 1) cap7) = w6 at *
            clear t2 tf tl HT7 HO7 HNE7 HZ7 HC7 HM7 HTM HOM HNM HN
            obtain ⟨d', hd'⟩ : ∃ d' : RegistryD, (⟨d.lim, d.top, d.es ++ [⟨p, s⟩]⟩ : RegistryD) = d' := ⟨_, rfl⟩
            have hd81 : d'.es.length ≤ 80 := by rw [← hd']; simp; omega
            rw [hd'] at HRA
            clear hd' hd80
            have hd80 := hd81
            obtain ⟨a9, p9, hrow, hown, hne⟩ := HRA.out.ex
            have t0 := hrow.cell (j := 0) rfl
            have t1 := hrow.cell (j := 1) rfl
            have t2 := hrow.cell (j := 2) rfl
            have hlT := hrow.lt
            have r0 := HZ.out.cell (j := 0) rfl
            have r1 := HZ.out.cell (j := 1) rfl
            have r2 := HZ.out.cell (j := 2) rfl
            have r3 := HZ.out.frozen 0
            have r4 := HZ.out.frozen 1
            have r5 := HZ.out.frozen 2
            have hlR := HZ.out.lt
            have hov : ∀ q, (Value.slice a9 d'.es.length p9).ownBlock = some q → w.heap.size + 1 ≤ q := fun q hq => (hown.lt q hq).1
            have HO := hide hown
            have HOV := hide hov
            have hgT : gr ≠ w.heap.size := by omega
            clear hrow hown hov hne
            go_wp2_with fail
            refine bodyPost_ret (v := (.agg #[.int .i64 d'.lim, .int .i64 d'.top, .slice a9 d'.es.length p9])) (by simp [results, Try.results27, go_sem, *]) rfl ?_
            have hlt1 : w.heap.size < w.heap.size + 1 := by omega
            have hfin := owns_far (w.heap.size + 1) (owns_far (w.heap.size + 1) (owns_far (w.heap.size + 1) HO.out HOV.out ⟨w.heap.size, 0, none⟩ (.int .i64 d'.lim) hlt1) HOV.out ⟨w.heap.size, 1, none⟩ (.int .i64 d'.top) hlt1) HOV.out ⟨w.heap.size, 2, none⟩ (.slice a9 d'.es.length p9) hlt1
            exact ⟨d', _, rfl, hfin, hd80, ((HC.out.set _ _ (by simpa using hgw)).set _ _ (by simpa using hgw)).set _ _ (by simpa using hgw), ((HM.out.setNew _ (by simp) _).setNew _ (by simp) _).setNew _ (by simp) _⟩
    · have htm : d.top.tmod 2 = d.top % 2 := Int.tmod_eq_emod_of_nonneg ht0
      go_wp2_with fail
      go_loopw [4] (fun i wr => ∃ (k : Nat) (d' : RegistryD), i = .int .i64 k ∧ k ≤ 60 ∧ d'.es.length = d.es.length + k ∧ d'.lim = d.lim ∧ d'.top = d.top ∧ Hid (RegAt wr gr (w.heap.size + 1) d') ∧ Hid (RowIs wr w.heap.size 26 [.int .i64 0, .int .i64 0, .slice none 0 0]) ∧ Hid (Cur wr g B) ∧ Hid (Moves g w wr)) (fun i _ => 60 - (intOf i).toNat)
      case atStart => exact ⟨0, d, rfl, by omega, rfl, rfl, rfl, HRA, HZ, HC, HM⟩
      case round =>
        clear HRA HZ HC HM
        obtain ⟨k, ⟨lim', top', es'⟩, rfl, hk, hlen, rfl, rfl, HRA, HZ, HC, HM⟩ := hrel
        dsimp only at hlen
        have HLN := hide hlen
        have hle : es'.length ≤ 72 := by omega
        clear hlen
        obtain ⟨aM, pM, hrowM, hownM, hneM⟩ := HRA.out.ex
        dsimp only at hrowM hownM hneM
        have x1 := hrowM.cell (j := 1) rfl
        have x2 := hrowM.cell (j := 2) rfl
        have xl := hrowM.lt
        by_cases hlt : k < 60
        · obtain ⟨X, hXd⟩ : ∃ X : Int, d.top + 1 + d.top % 2 + 2 * k = X := ⟨_, rfl⟩
          have hX : Below wr.heap.size wr (wr.alloc (.cells #[.int .i64 (d.top + 1 + d.top % 2 + 2 * k), .int .i64 4] 57)) := (Below.refl _ _).alloc (Nat.le_refl _) _
          have hownX := owns_new hownM hX
          have hRd : Reads (wr.alloc (.cells #[.int .i64 (d.top + 1 + d.top % 2 + 2 * k), .int .i64 4] 57)) (.slice (some ⟨wr.heap.size, 0, none⟩) 1 1) 1 2 (ev [⟨d.top + 1 + d.top % 2 + 2 * k, 4⟩]) := reads_of_owns (owns_lit wr 57 2 1 #[.int .i64 (d.top + 1 + d.top % 2 + 2 * k), .int .i64 4] rfl (by omega))
          have HTX := hide (hrowM.new hX)
          have HZX := hide (HZ.out.new hX)
          have HCX := hide (HC.out.below hX)
          have HMX := hide (HM.out.trans (Moves.of_below (g := g) hX))
          have HNM := hide hneM
          have hzl := HZ.out.lt
          have hsX := hX.size
          clear hXd X hrowM hownM hneM hX HRA HZ HC HM
          go_wp2_with (at_builtin; refine wpList_app _ (by rfl) _ _ 24 (by rfl) 57 (.agg #[.int .i64 0, .int .i64 0]) 2 16 Try.underlying24 (by kernel_rfl) rfl (by decide) (w.heap.size + 1) _ es'.length (ev es') (by rfl) hownX _ 1 (ev [⟨d.top + 1 + d.top % 2 + 2 * k, 4⟩]) (by rfl) hRd (ev_one _) (by omega) (by decide) (by omega) ?_)
          intro ad7 cap7 w7 hown7 hg7 hat7
          generalize wr.alloc (.cells #[.int .i64 (d.top + 1 + d.top % 2 + 2 * k), .int .i64 4] 57) = wX at *
          generalize d.top + 1 + d.top % 2 + 2 * k = X at *
          have hlW := HTX.out.lt
          have hlt7 := fun k (e : (Value.slice aM es'.length pM).ownBlock = some k) => (hownX.lt k e).1
          have hrow7 := HTX.out.kept (hg7.block gr hlW (fun e => HNM.out e.symm))
          have hz7 := HZX.out.kept (hg7.block _ HZX.out.lt (fun e => by have := hlt7 _ e.symm; omega))
          have hc7 := HCX.out.grown hg7 (fun k hk => by have := hlt7 k hk; omega)
          have hm7 := HMX.out.grown hg7 (fun k hk => by have := hlt7 k hk; omega)
          have hne7 : (Value.slice ad7 (es'.length + 1) cap7).ownBlock ≠ some gr := by
            rcases hat7 with e | e
            · rw [e]; exact HNM.out
            · rw [e]; intro hc; have := Option.some.inj hc; omega
          have y2 := hrow7.cell (j := 2) rfl
          have yf := hrow7.frozen 2
          have yl := hrow7.lt
          have HT7 := hide hrow7; have HO7 := hide hown7; have HZ7 := hide hz7; have HC7 := hide hc7; have HM7 := hide hm7; have HNE7 := hide hne7
          clear hrow7 hown7 hz7 hc7 hm7 hne7 hat7 hg7 hlW hlt7 hownX hRd x1 x2 xl
          go_wp2_with fail
          go_roundw
          case rel =>
            refine ⟨k + 1, ⟨d.lim, d.top, es' ++ [⟨X, 4⟩]⟩, by go_num, by omega, by have := HLN.out; simp; omega, rfl, rfl, ?_, ?_, ?_, ?_⟩
            · refine ⟨ad7, cap7, ?_, ?_, ?_⟩
              · have := HT7.out.set 2 (.slice ad7 (es'.length + 1) cap7)
                simpa using this
              · have := owns_apart HO7.out ⟨gr, 2, none⟩ (.slice ad7 (es'.length + 1) cap7) HNE7.out
                simpa [ev_app] using this
              · simpa using HNE7.out
            · exact HZ7.out.far _ _ (by simp; omega)
            · exact HC7.out.set _ _ (by simp; omega)
            · exact HM7.out.setNew _ (by simp; omega) _
          case measure => simp [intOf]; omega
        · obtain rfl : k = 60 := by omega
          have xf := hrowM.frozen 1
          clear hrowM hownM hneM
          go_upto_region 16 with fail
          replace HRA := hide (HRA.out.put1 (d.top + 121 + d.top % 2))
          replace HZ := hide (HZ.out.far ⟨gr, 1, none⟩ (.int .i64 (d.top + 121 + d.top % 2)) (by simp; omega))
          replace HC := hide (HC.out.set ⟨gr, 1, none⟩ (.int .i64 (d.top + 121 + d.top % 2)) (by simp; omega))
          replace HM := hide (HM.out.setNew ⟨gr, 1, none⟩ (by simp; omega) (.int .i64 (d.top + 121 + d.top % 2)))
          generalize wr.setCell ⟨gr, 1, none⟩ (.int .i64 (d.top + 121 + d.top % 2)) = w6 at *
          clear x1 x2 xl xf
          obtain ⟨d', hd'⟩ : ∃ d' : RegistryD, (⟨d.lim, d.top + 121 + d.top % 2, es'⟩ : RegistryD) = d' := ⟨_, rfl⟩
          have hd81 : d'.es.length ≤ 80 := by rw [← hd']; have := HLN.out; simp only; omega
          dsimp only at HRA
          rw [hd'] at HRA
          clear hd' hd80
          have hd80 := hd81
          obtain ⟨a9, p9, hrow, hown, hne⟩ := HRA.out.ex
          have t0 := hrow.cell (j := 0) rfl
          have t1 := hrow.cell (j := 1) rfl
          have t2 := hrow.cell (j := 2) rfl
          have hlT := hrow.lt
          have r0 := HZ.out.cell (j := 0) rfl
          have r1 := HZ.out.cell (j := 1) rfl
          have r2 := HZ.out.cell (j := 2) rfl
          have r3 := HZ.out.frozen 0
          have r4 := HZ.out.frozen 1
          have r5 := HZ.out.frozen 2
          have hlR := HZ.out.lt
          have hov : ∀ q, (Value.slice a9 d'.es.length p9).ownBlock = some q → w.heap.size + 1 ≤ q := fun q hq => (hown.lt q hq).1
          have HO := hide hown
          have HOV := hide hov
          have hgT : gr ≠ w.heap.size := by omega
          clear hrow hown hov hne
          go_wp2_with fail
          refine bodyPost_ret (v := (.agg #[.int .i64 d'.lim, .int .i64 d'.top, .slice a9 d'.es.length p9])) (by simp [results, Try.results27, go_sem, *]) rfl ?_
          have hlt1 : w.heap.size < w.heap.size + 1 := by omega
          have hfin := owns_far (w.heap.size + 1) (owns_far (w.heap.size + 1) (owns_far (w.heap.size + 1) HO.out HOV.out ⟨w.heap.size, 0, none⟩ (.int .i64 d'.lim) hlt1) HOV.out ⟨w.heap.size, 1, none⟩ (.int .i64 d'.top) hlt1) HOV.out ⟨w.heap.size, 2, none⟩ (.slice a9 d'.es.length p9) hlt1
          exact ⟨d', _, rfl, hfin, hd80, ((HC.out.set _ _ (by simpa using hgw)).set _ _ (by simpa using hgw)).set _ _ (by simpa using hgw), ((HM.out.setNew _ (by simp) _).setNew _ (by simp) _).setNew _ (by simp) _⟩
end Go.Proofs.Ytgodopiejiajjaa
