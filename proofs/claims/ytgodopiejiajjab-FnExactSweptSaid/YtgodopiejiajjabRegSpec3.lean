/- Chapter 10's model: Opened, Happened, Swept. -/
import Derived.Test.YtgodopiejiajjabRegSpec2


namespace Go.Proofs.Ytgodopiejiajjab
open Go.RowKit
set_option maxRecDepth 100000
set_option linter.unusedSimpArgs false
set_option linter.unusedVariables false
def flt (L : List EntryD) : List EntryD := L.filter fun e => !decide (e.state = 4)
theorem flt_take_yes {L : List EntryD} {k : Nat} (hk : k < L.length) (h : L[k].state ≠ 4) : flt (L.take (k + 1)) = flt (L.take k) ++ [L[k]] := by unfold flt; rw [List.take_succ_eq_append_getElem hk, List.filter_append]; simp [h]
theorem flt_take_no {L : List EntryD} {k : Nat} (hk : k < L.length) (h : L[k].state = 4) : flt (L.take (k + 1)) = flt (L.take k) := by unfold flt; rw [List.take_succ_eq_append_getElem hk, List.filter_append]; simp [h]
theorem flt_len (L : List EntryD) : (flt L).length ≤ L.length := List.length_filter_le _ _
set_option maxRecDepth 100000 in
set_option maxHeartbeats 4000000 in
theorem specSwept (d : RegistryD) (v : Value) (w : World) (hr : RdR entryS w v d.es) :
    Calls Try.prog 5 #[.agg #[.int .i64 d.lim, .int .i64 d.top, v]] w fun x w' => ∃ v', x = .returned (.agg #[.int .i64 (sweptD d).lim, .int .i64 (sweptD d).top, v']) ∧ OwX entryS w' w.heap.size w'.heap.size v' (sweptD d).es ∧ Below w.heap.size w w' := by
  obtain ⟨ad, cap, rfl, h1, h2⟩ := hr.form
  have HR := hide hr
  clear hr
  have hok := fun w h => specRegistryOk d (.slice ad d.es.length cap) w h
  obtain ⟨dr, hD⟩ : ∃ y, sweptD d = y := ⟨_, rfl⟩
  rw [hD]
  have HD := hide hD
  clear hD
  go_enter Try.func5, Try.ntmps5
  go_wp2_with fail
  generalize hV : (w.alloc (.cells #[.int .i64 d.lim, .int .i64 d.top, .slice ad d.es.length cap] 28)).alloc (.cells #[.int .i64 0, .int .i64 0, .slice none 0 0] 28) = V
  have HBW : Hid (Below w.heap.size w V) := by show Below _ _ _; rw [← hV]; exact bo_alloc ((Below.refl _ _).alloc (Nat.le_refl _) _) _
  have HX : Hid (RowIs V w.heap.size 28 [.int .i64 d.lim, .int .i64 d.top, .slice ad d.es.length cap]) := by show RowIs _ _ _ _; rw [← hV]; exact (rowIs_new w 28 [.int .i64 d.lim, .int .i64 d.top, .slice ad d.es.length cap]).alloc _
  have HRR : Hid (RowIs V (w.heap.size + 1) 28 [.int .i64 0, .int .i64 0, .slice none 0 0]) := by show RowIs _ _ _ _; rw [← hV]; simpa using rowIs_new (w.alloc (.cells #[.int .i64 d.lim, .int .i64 d.top, .slice ad d.es.length cap] 28)) 28 [.int .i64 0, .int .i64 0, .slice none 0 0]
  clear hV
  refine (hok _ (HR.out.new HBW.out)).mono ?_
  cases hq : okRg d
  · rintro x w1 ⟨rfl, hb1⟩
    replace HRR := hide (HRR.out.new hb1)
    replace HBW := hide (bchain HBW.out hb1)
    have HDD : Hid (dr = (⟨0, 0, []⟩ : RegistryD)) := by show _ = _; rw [← HD.out]; unfold sweptD; rw [if_neg (by rw [hq]; simp)]
    obtain rfl := HDD.out
    clear hb1
    have r0 := HRR.out.cell (j := 0) rfl
    have r1 := HRR.out.cell (j := 1) rfl
    have r2 := HRR.out.cell (j := 2) rfl
    have r3 := HRR.out.frozen 0
    have r4 := HRR.out.frozen 1
    have r5 := HRR.out.frozen 2
    go_wp2_with fail
    refine bodyPost_ret (v := (.agg #[.int .i64 0, .int .i64 0, .slice none 0 0])) (by simp [results, Try.results5, go_sem, *]) rfl ?_
    exact ⟨_, rfl, owX_nil _ _ _, ((HBW.out.setCell (show w.heap.size ≤ w.heap.size + 1 by omega) _).setCell (show w.heap.size ≤ w.heap.size + 1 by omega) _).setCell (show w.heap.size ≤ w.heap.size + 1 by omega) _⟩
  rintro x w1 ⟨rfl, hb1⟩
  replace HX := hide (HX.out.new hb1)
  replace HRR := hide (HRR.out.new hb1)
  replace HBW := hide (bchain HBW.out hb1)
  have HDD : Hid (dr = ⟨d.lim, d.top, flt d.es⟩) := by show _ = _; rw [← HD.out]; unfold sweptD flt; rw [if_pos hq]
  have h60 := (okRg_iff.1 hq).2.2.1
  have hlR1 := HRR.out.lt
  clear hb1
  have x0 := HX.out.cell (j := 0) rfl
  have x1 := HX.out.cell (j := 1) rfl
  have hlX := HX.out.lt
  go_upto_region 4 with fail
  have hb3 : Below w1.heap.size w1 (w1.alloc (.cells #[.int .i64 d.lim, .int .i64 d.top, .slice none 0 0] 28)) := (Below.refl _ _).alloc (Nat.le_refl _) _
  have HTA : Hid (RegAt (w1.alloc (.cells #[.int .i64 d.lim, .int .i64 d.top, .slice none 0 0] 28)) w1.heap.size w1.heap.size ⟨d.lim, d.top, []⟩) := regAt_new (d := ⟨d.lim, d.top, []⟩) (World.ownsRow_nil w1 w1.heap.size 37 2)
  generalize w1.alloc (.cells #[.int .i64 d.lim, .int .i64 d.top, .slice none 0 0] 28) = w3 at *
  replace HX := hide (HX.out.new hb3)
  replace HRR := hide (HRR.out.new hb3)
  replace HBW := hide (bchain HBW.out hb3)
  clear hb3 x0 x1
  generalize hgo : w1.heap.size = go at *
  clear hgo
  go_wp2_with fail
  go_loopw [4] (fun i wr => ∃ (k : Nat), i = .int .i64 k ∧ k ≤ d.es.length ∧ Hid (RegAt wr go go ⟨d.lim, d.top, flt (d.es.take k)⟩) ∧ Hid (RowIs wr w.heap.size 28 [.int .i64 d.lim, .int .i64 d.top, .slice ad d.es.length cap]) ∧ Hid (RowIs wr (w.heap.size + 1) 28 [.int .i64 0, .int .i64 0, .slice none 0 0]) ∧ Hid (Below w.heap.size w wr)) (fun i _ => d.es.length - (intOf i).toNat)
  case atStart => exact ⟨0, rfl, Nat.zero_le _, HTA, HX, HRR, HBW⟩
  case round =>
    clear HTA HX HRR HBW
    obtain ⟨k, rfl, hk, HTA, HX, HRR, HBW⟩ := hrel
    have x2 := HX.out.cell (j := 2) rfl
    have hlX := HX.out.lt
    by_cases hlt : k < d.es.length
    · obtain ⟨b, o, cs, rfl, hbw, rfl, hc⟩ := (HR.out.new HBW.out).at k hlt
      have c0 : wr.cell? ⟨b, o + k * 2, none⟩ = some (.int .i64 d.es[k].id) := hc 0 _ rfl
      have c1 : wr.cell? ⟨b, o + k * 2 + 1, none⟩ = some (.int .i64 d.es[k].state) := hc 1 _ rfl
      clear hc
      by_cases h4 : d.es[k].state = 4
      · have HFL := hide (flt_take_no hlt h4)
        have h4' : (d.es[k].state != 4) = false := by simp [h4]
        rw [h4] at c1
        clear h4
        go_wp2_with fail
        go_roundw
        case rel => exact ⟨k + 1, by go_num, by omega, by show RegAt _ _ _ _; rw [HFL.out]; exact HTA.out, HX, HRR, HBW⟩
        case measure => simp [intOf]; omega
      · have HFL := hide (flt_take_yes hlt h4)
        have h4' : (d.es[k].state != 4) = true := by simpa using h4
        obtain ⟨e, he⟩ : ∃ e, d.es[k] = e := ⟨_, rfl⟩
        rw [he] at c0 c1 HFL h4'
        clear h4
        have HE := hide he
        clear he
        have hfl := flt_len (d.es.take k)
        have hfk : (d.es.take k).length ≤ k := by rw [List.length_take]; omega
        obtain ⟨M, hM⟩ : ∃ M, flt (d.es.take k) = M := ⟨_, rfl⟩
        rw [hM] at HTA HFL hfl
        clear hM
        obtain ⟨aM, pM, hrow, hown, hne⟩ := HTA.out.ex
        have HT := hide hrow; have HO := hide hown; have HNE := hide hne
        dsimp only at HT HO HNE
        clear hrow hown hne HTA
        have hlT := HT.out.lt
        have HEL : Hid (RdR entryS wr (.slice (some ⟨b, o, none⟩) d.es.length cap) d.es) := HR.out.new HBW.out
        go_upto_region 8 with fail
        clear c0 c1 x2 hlX
        refine wp_region_any (by kernel_rfl) ?_
        change wpAny _ _ _ _ _ _ _ (World.drew _)
        obtain ⟨u0, hu0⟩ : ∃ u : World, u = World.drew wr := ⟨_, rfl⟩
        have hbu : Below wr.heap.size wr u0 := by rw [hu0]; exact bo_drewN 1 (Below.refl _ _)
        have hsu : wr.heap.size = u0.heap.size := by rw [hu0]; rfl
        rw [← hu0]
        clear hu0
        replace HX := hide (HX.out.new hbu)
        replace HRR := hide (HRR.out.new hbu)
        replace HT := hide (HT.out.new hbu)
        replace HO := hide (owns_new HO.out hbu)
        replace HEL := hide (HEL.out.new hbu)
        replace HBW := hide (bchain HBW.out hbu)
        clear hbu
        refine wpAny_take (i := 0) (v := ?_) rfl (by kernel_rfl) (by kernel_rfl) (by kernel_rfl) (fun _ _ _ h => h) (Or.inl ⟨by rfl, ?_⟩) ?_; rotate_left; focus (intro uu; go_simp; try with_reducible rfl)
        try simp only [Act.put, List.getElem_toArray, List.getElem_cons_succ, List.getElem_cons_zero, List.setIfInBounds_toArray, List.set_cons_zero, List.set_cons_succ]
        refine wpAny_take (i := 2) (v := ?_) rfl (by kernel_rfl) (by kernel_rfl) (by kernel_rfl) (fun _ _ _ h => h) (Or.inl ⟨by rfl, ?_⟩) ?_; rotate_left; focus (intro uu; go_simp; try with_reducible rfl)
        try simp only [Act.put, List.getElem_toArray, List.getElem_cons_succ, List.getElem_cons_zero, List.setIfInBounds_toArray, List.set_cons_zero, List.set_cons_succ]
        refine wpAny_take (i := 4) (v := ?_) rfl (by kernel_rfl) (by kernel_rfl) (by kernel_rfl) (fun _ _ _ h => h) (Or.inl ⟨by rfl, ?_⟩) ?_; rotate_left; focus (intro uu; go_simp; try with_reducible rfl)
        try simp only [Act.put, List.getElem_toArray, List.getElem_cons_succ, List.getElem_cons_zero, List.setIfInBounds_toArray, List.set_cons_zero, List.set_cons_succ]
        refine wpAny_ready (rs := [1, 3]) (by kernel_rfl) (by simp) ?_
        refine (AllReady.cons rfl (fun K hK => ?_) (AllReady.cons rfl (fun K hK => ?_) AllReady.nil))
        · skip
          try rw [if_pos (by kernel_rfl)]
          have l2 := HT.out.cell (j := 2) rfl
          have ll := HT.out.lt
          go_simp
          refine hK _ _ ?_; clear hK K
          clear l2 ll
          try simp only [Act.put, List.getElem_toArray, List.getElem_cons_succ, List.getElem_cons_zero, List.setIfInBounds_toArray, List.set_cons_zero, List.set_cons_succ]
          refine wpAny_ready (rs := [3]) (by kernel_rfl) (by simp) ?_
          refine (AllReady.cons rfl (fun K hK => ?_) AllReady.nil)
          try rw [if_pos (by kernel_rfl)]
          have l2 := HX.out.cell (j := 2) rfl
          have ll := HX.out.lt
          go_simp
          refine hK _ _ ?_; clear hK K
          clear l2 ll
          try simp only [Act.put, List.getElem_toArray, List.getElem_cons_succ, List.getElem_cons_zero, List.setIfInBounds_toArray, List.set_cons_zero, List.set_cons_succ]
          refine wpAny_take (i := 5) (v := ?_) rfl (by kernel_rfl) (by kernel_rfl) (by kernel_rfl) (fun _ _ _ h => h) (Or.inl ⟨by rfl, ?_⟩) ?_; rotate_left; focus (intro uu; go_simp; try with_reducible rfl)
          try simp only [Act.put, List.getElem_toArray, List.getElem_cons_succ, List.getElem_cons_zero, List.setIfInBounds_toArray, List.set_cons_zero, List.set_cons_succ]
          refine wpAny_ready (rs := [6]) (by kernel_rfl) (by simp) ?_
          refine (AllReady.cons rfl (fun K hK => ?_) AllReady.nil)
          try rw [if_pos (by kernel_rfl)]
          obtain ⟨b', o', cs, hbo, ll, rfl, hc⟩ := HEL.out.at k hlt
          simp only [Option.some.injEq, Addr.mk.injEq] at hbo
          obtain ⟨rfl, rfl, -⟩ := hbo
          have c0 : u0.cell? ⟨b, o + k * 2, none⟩ = some (.int .i64 d.es[k].id) := hc 0 _ rfl
          have c1 : u0.cell? ⟨b, o + k * 2 + 1, none⟩ = some (.int .i64 d.es[k].state) := hc 1 _ rfl
          rw [HE.out] at c0 c1
          clear hc
          go_simp
          refine hK _ _ ?_; clear hK K
          clear c0 c1 ll
          try simp only [Act.put, List.getElem_toArray, List.getElem_cons_succ, List.getElem_cons_zero, List.setIfInBounds_toArray, List.set_cons_zero, List.set_cons_succ]
          refine wpAny_ready (rs := [7]) (by kernel_rfl) (by simp) ?_
          refine (AllReady.cons rfl (fun K hK => ?_) AllReady.nil)
          try rw [if_pos (by kernel_rfl)]
          go_simp
          obtain ⟨y4, hy4⟩ : ∃ u, u0.alloc (.cells #[.int .i64 e.id, .int .i64 e.state] 37) = u := ⟨_, rfl⟩
          have hby4 : Below u0.heap.size u0 y4 := by rw [← hy4]; exact (Below.refl _ _).alloc (Nat.le_refl _) _
          replace HX := hide (HX.out.new hby4)
          replace HRR := hide (HRR.out.new hby4)
          replace HT := hide (HT.out.new hby4)
          replace HO := hide (owns_new HO.out hby4)
          replace HEL := hide (HEL.out.new hby4)
          replace HBW := hide (bchain HBW.out hby4)
          have HN : Hid (y4.ownsRow u0.heap.size 37 2 (.slice (some ⟨u0.heap.size, 0, none⟩) 1 1) 1 (ev [e])) := by show _; rw [← hy4]; exact owns_lit u0 37 2 1 #[.int .i64 e.id, .int .i64 e.state] rfl (by omega)
          rw [hy4]
          clear hy4 hby4
          refine hK _ _ ?_; clear hK K
          try simp only [Act.put, List.getElem_toArray, List.getElem_cons_succ, List.getElem_cons_zero, List.setIfInBounds_toArray, List.set_cons_zero, List.set_cons_succ]
          refine wpAny_ready (rs := [8]) (by kernel_rfl) (by simp) ?_
          refine (AllReady.cons rfl (fun K hK => ?_) AllReady.nil)
          refine step_app _ (by rfl) _ _ 26 (by rfl) 37 (.agg #[.int .i64 0, .int .i64 0]) 2 16 Try.underlying26 (by kernel_rfl) rfl (by decide) go _ M.length (ev M) (by rfl) HO.out _ 1 (ev [e]) (by rfl) (reads_of_owns HN.out) (ev_one _) (by omega) (by decide) (by have := HT.out.lt; omega) ?_
          intro ad7 cap7 y5 hown7 hg7 hat7
          have hlW := HT.out.lt
          have hrow7 := HT.out.kept (hg7.block go hlW (fun e => HNE.out e.symm))
          have hx7 := HX.out.kept (hg7.block _ HX.out.lt (fun e => by have := (HO.out.lt _ e.symm).1; omega))
          have hr7 := HRR.out.kept (hg7.block _ HRR.out.lt (fun e => by have := (HO.out.lt _ e.symm).1; omega))
          have hne7 : (Value.slice ad7 (M.length + 1) cap7).ownBlock ≠ some go := by
            rcases hat7 with e | e
            · rw [e]; exact HNE.out
            · rw [e]; intro hc; have := Option.some.inj hc; omega
          have hbw7 : Below w.heap.size w y5 := ⟨hg7.os.trans HBW.out.os, hg7.tape.trans HBW.out.tape, hg7.output.trans HBW.out.output, Nat.le_trans HBW.out.size hg7.size, fun k hk => (hg7.block k (by have := HBW.out.size; omega) (fun e => by have := (HO.out.lt k e.symm).1; omega)).trans (HBW.out.block k hk)⟩
          have HT7 := hide hrow7; have HO7 := hide hown7; have HX7 := hide hx7; have HR7 := hide hr7; have HNE7 := hide hne7; have HBW7 := hide hbw7
          clear hrow7 hown7 hx7 hr7 hne7 hbw7 hat7 hg7 hlW
          refine hK _ _ ?_; clear hK K
          have t2 := HT7.out.cell (j := 2) rfl
          have tf := HT7.out.frozen 2
          have tl := HT7.out.lt
          try simp only [Act.put, List.getElem_toArray, List.getElem_cons_succ, List.getElem_cons_zero, List.setIfInBounds_toArray, List.set_cons_zero, List.set_cons_succ]
          refine wpAny_take (i := 9) (v := ?_) rfl (by kernel_rfl) (by kernel_rfl) (by kernel_rfl) (fun _ _ _ h => h) (Or.inl ⟨by rfl, ?_⟩) ?_; rotate_left; focus (intro uu; go_simp; try with_reducible rfl)
          try simp only [Act.put, List.getElem_toArray, List.getElem_cons_succ, List.getElem_cons_zero, List.setIfInBounds_toArray, List.set_cons_zero, List.set_cons_succ]
          refine wpAny_ready (rs := [10]) (by kernel_rfl) (by simp) ?_
          refine (AllReady.cons rfl (fun K hK => ?_) AllReady.nil)
          try rw [if_pos (by kernel_rfl)]
          go_simp

          refine hK _ _ ?_; clear hK K
          try simp only [Act.put, List.getElem_toArray, List.getElem_cons_succ, List.getElem_cons_zero, List.setIfInBounds_toArray, List.set_cons_zero, List.set_cons_succ]
          refine wpAny_done (by kernel_rfl) ?_ _
          go_wp2_with fail
          go_roundw
          case rel =>
            refine ⟨k + 1, by go_num, by omega, ?_, ?_, ?_, ?_⟩
            · show RegAt _ _ _ _
              rw [HFL.out]
              refine ⟨ad7, cap7, ?_, ?_, ?_⟩
              · have := HT7.out.set 2 (.slice ad7 (M.length + 1) cap7)
                simpa using this
              · have := owns_apart HO7.out ⟨go, 2, none⟩ (.slice ad7 (M.length + 1) cap7) HNE7.out
                simpa [ev_app] using this
              · simpa using HNE7.out
            · exact HX7.out.far _ _ (by simp; omega)
            · exact HR7.out.far _ _ (by simp; omega)
            · exact HBW7.out.setCell (by simp; omega) _
          case measure => simp [intOf]; omega
        · skip
          try rw [if_pos (by kernel_rfl)]
          have l2 := HX.out.cell (j := 2) rfl
          have ll := HX.out.lt
          go_simp
          refine hK _ _ ?_; clear hK K
          clear l2 ll
          try simp only [Act.put, List.getElem_toArray, List.getElem_cons_succ, List.getElem_cons_zero, List.setIfInBounds_toArray, List.set_cons_zero, List.set_cons_succ]
          refine wpAny_take (i := 5) (v := ?_) rfl (by kernel_rfl) (by kernel_rfl) (by kernel_rfl) (fun _ _ _ h => h) (Or.inl ⟨by rfl, ?_⟩) ?_; rotate_left; focus (intro uu; go_simp; try with_reducible rfl)
          try simp only [Act.put, List.getElem_toArray, List.getElem_cons_succ, List.getElem_cons_zero, List.setIfInBounds_toArray, List.set_cons_zero, List.set_cons_succ]
          refine wpAny_ready (rs := [1, 6]) (by kernel_rfl) (by simp) ?_
          refine (AllReady.cons rfl (fun K hK => ?_) (AllReady.cons rfl (fun K hK => ?_) AllReady.nil))
          · skip
            try rw [if_pos (by kernel_rfl)]
            have l2 := HT.out.cell (j := 2) rfl
            have ll := HT.out.lt
            go_simp
            refine hK _ _ ?_; clear hK K
            clear l2 ll
            try simp only [Act.put, List.getElem_toArray, List.getElem_cons_succ, List.getElem_cons_zero, List.setIfInBounds_toArray, List.set_cons_zero, List.set_cons_succ]
            refine wpAny_ready (rs := [6]) (by kernel_rfl) (by simp) ?_
            refine (AllReady.cons rfl (fun K hK => ?_) AllReady.nil)
            try rw [if_pos (by kernel_rfl)]
            obtain ⟨b', o', cs, hbo, ll, rfl, hc⟩ := HEL.out.at k hlt
            simp only [Option.some.injEq, Addr.mk.injEq] at hbo
            obtain ⟨rfl, rfl, -⟩ := hbo
            have c0 : u0.cell? ⟨b, o + k * 2, none⟩ = some (.int .i64 d.es[k].id) := hc 0 _ rfl
            have c1 : u0.cell? ⟨b, o + k * 2 + 1, none⟩ = some (.int .i64 d.es[k].state) := hc 1 _ rfl
            rw [HE.out] at c0 c1
            clear hc
            go_simp
            refine hK _ _ ?_; clear hK K
            clear c0 c1 ll
            try simp only [Act.put, List.getElem_toArray, List.getElem_cons_succ, List.getElem_cons_zero, List.setIfInBounds_toArray, List.set_cons_zero, List.set_cons_succ]
            refine wpAny_ready (rs := [7]) (by kernel_rfl) (by simp) ?_
            refine (AllReady.cons rfl (fun K hK => ?_) AllReady.nil)
            try rw [if_pos (by kernel_rfl)]
            go_simp
            obtain ⟨y10, hy10⟩ : ∃ u, u0.alloc (.cells #[.int .i64 e.id, .int .i64 e.state] 37) = u := ⟨_, rfl⟩
            have hby10 : Below u0.heap.size u0 y10 := by rw [← hy10]; exact (Below.refl _ _).alloc (Nat.le_refl _) _
            replace HX := hide (HX.out.new hby10)
            replace HRR := hide (HRR.out.new hby10)
            replace HT := hide (HT.out.new hby10)
            replace HO := hide (owns_new HO.out hby10)
            replace HEL := hide (HEL.out.new hby10)
            replace HBW := hide (bchain HBW.out hby10)
            have HN : Hid (y10.ownsRow u0.heap.size 37 2 (.slice (some ⟨u0.heap.size, 0, none⟩) 1 1) 1 (ev [e])) := by show _; rw [← hy10]; exact owns_lit u0 37 2 1 #[.int .i64 e.id, .int .i64 e.state] rfl (by omega)
            rw [hy10]
            clear hy10 hby10
            refine hK _ _ ?_; clear hK K
            try simp only [Act.put, List.getElem_toArray, List.getElem_cons_succ, List.getElem_cons_zero, List.setIfInBounds_toArray, List.set_cons_zero, List.set_cons_succ]
            refine wpAny_ready (rs := [8]) (by kernel_rfl) (by simp) ?_
            refine (AllReady.cons rfl (fun K hK => ?_) AllReady.nil)
            refine step_app _ (by rfl) _ _ 26 (by rfl) 37 (.agg #[.int .i64 0, .int .i64 0]) 2 16 Try.underlying26 (by kernel_rfl) rfl (by decide) go _ M.length (ev M) (by rfl) HO.out _ 1 (ev [e]) (by rfl) (reads_of_owns HN.out) (ev_one _) (by omega) (by decide) (by have := HT.out.lt; omega) ?_
            intro ad7 cap7 y11 hown7 hg7 hat7
            have hlW := HT.out.lt
            have hrow7 := HT.out.kept (hg7.block go hlW (fun e => HNE.out e.symm))
            have hx7 := HX.out.kept (hg7.block _ HX.out.lt (fun e => by have := (HO.out.lt _ e.symm).1; omega))
            have hr7 := HRR.out.kept (hg7.block _ HRR.out.lt (fun e => by have := (HO.out.lt _ e.symm).1; omega))
            have hne7 : (Value.slice ad7 (M.length + 1) cap7).ownBlock ≠ some go := by
              rcases hat7 with e | e
              · rw [e]; exact HNE.out
              · rw [e]; intro hc; have := Option.some.inj hc; omega
            have hbw7 : Below w.heap.size w y11 := ⟨hg7.os.trans HBW.out.os, hg7.tape.trans HBW.out.tape, hg7.output.trans HBW.out.output, Nat.le_trans HBW.out.size hg7.size, fun k hk => (hg7.block k (by have := HBW.out.size; omega) (fun e => by have := (HO.out.lt k e.symm).1; omega)).trans (HBW.out.block k hk)⟩
            have HT7 := hide hrow7; have HO7 := hide hown7; have HX7 := hide hx7; have HR7 := hide hr7; have HNE7 := hide hne7; have HBW7 := hide hbw7
            clear hrow7 hown7 hx7 hr7 hne7 hbw7 hat7 hg7 hlW
            refine hK _ _ ?_; clear hK K
            have t2 := HT7.out.cell (j := 2) rfl
            have tf := HT7.out.frozen 2
            have tl := HT7.out.lt
            try simp only [Act.put, List.getElem_toArray, List.getElem_cons_succ, List.getElem_cons_zero, List.setIfInBounds_toArray, List.set_cons_zero, List.set_cons_succ]
            refine wpAny_take (i := 9) (v := ?_) rfl (by kernel_rfl) (by kernel_rfl) (by kernel_rfl) (fun _ _ _ h => h) (Or.inl ⟨by rfl, ?_⟩) ?_; rotate_left; focus (intro uu; go_simp; try with_reducible rfl)
            try simp only [Act.put, List.getElem_toArray, List.getElem_cons_succ, List.getElem_cons_zero, List.setIfInBounds_toArray, List.set_cons_zero, List.set_cons_succ]
            refine wpAny_ready (rs := [10]) (by kernel_rfl) (by simp) ?_
            refine (AllReady.cons rfl (fun K hK => ?_) AllReady.nil)
            try rw [if_pos (by kernel_rfl)]
            go_simp

            refine hK _ _ ?_; clear hK K
            try simp only [Act.put, List.getElem_toArray, List.getElem_cons_succ, List.getElem_cons_zero, List.setIfInBounds_toArray, List.set_cons_zero, List.set_cons_succ]
            refine wpAny_done (by kernel_rfl) ?_ _
            go_wp2_with fail
            go_roundw
            case rel =>
              refine ⟨k + 1, by go_num, by omega, ?_, ?_, ?_, ?_⟩
              · show RegAt _ _ _ _
                rw [HFL.out]
                refine ⟨ad7, cap7, ?_, ?_, ?_⟩
                · have := HT7.out.set 2 (.slice ad7 (M.length + 1) cap7)
                  simpa using this
                · have := owns_apart HO7.out ⟨go, 2, none⟩ (.slice ad7 (M.length + 1) cap7) HNE7.out
                  simpa [ev_app] using this
                · simpa using HNE7.out
              · exact HX7.out.far _ _ (by simp; omega)
              · exact HR7.out.far _ _ (by simp; omega)
              · exact HBW7.out.setCell (by simp; omega) _
            case measure => simp [intOf]; omega
          · skip
            try rw [if_pos (by kernel_rfl)]
            obtain ⟨b', o', cs, hbo, ll, rfl, hc⟩ := HEL.out.at k hlt
            simp only [Option.some.injEq, Addr.mk.injEq] at hbo
            obtain ⟨rfl, rfl, -⟩ := hbo
            have c0 : u0.cell? ⟨b, o + k * 2, none⟩ = some (.int .i64 d.es[k].id) := hc 0 _ rfl
            have c1 : u0.cell? ⟨b, o + k * 2 + 1, none⟩ = some (.int .i64 d.es[k].state) := hc 1 _ rfl
            rw [HE.out] at c0 c1
            clear hc
            go_simp
            refine hK _ _ ?_; clear hK K
            clear c0 c1 ll
            try simp only [Act.put, List.getElem_toArray, List.getElem_cons_succ, List.getElem_cons_zero, List.setIfInBounds_toArray, List.set_cons_zero, List.set_cons_succ]
            refine wpAny_ready (rs := [1, 7]) (by kernel_rfl) (by simp) ?_
            refine (AllReady.cons rfl (fun K hK => ?_) (AllReady.cons rfl (fun K hK => ?_) AllReady.nil))
            · skip
              try rw [if_pos (by kernel_rfl)]
              have l2 := HT.out.cell (j := 2) rfl
              have ll := HT.out.lt
              go_simp
              refine hK _ _ ?_; clear hK K
              clear l2 ll
              try simp only [Act.put, List.getElem_toArray, List.getElem_cons_succ, List.getElem_cons_zero, List.setIfInBounds_toArray, List.set_cons_zero, List.set_cons_succ]
              refine wpAny_ready (rs := [7]) (by kernel_rfl) (by simp) ?_
              refine (AllReady.cons rfl (fun K hK => ?_) AllReady.nil)
              try rw [if_pos (by kernel_rfl)]
              go_simp
              obtain ⟨y15, hy15⟩ : ∃ u, u0.alloc (.cells #[.int .i64 e.id, .int .i64 e.state] 37) = u := ⟨_, rfl⟩
              have hby15 : Below u0.heap.size u0 y15 := by rw [← hy15]; exact (Below.refl _ _).alloc (Nat.le_refl _) _
              replace HX := hide (HX.out.new hby15)
              replace HRR := hide (HRR.out.new hby15)
              replace HT := hide (HT.out.new hby15)
              replace HO := hide (owns_new HO.out hby15)
              replace HEL := hide (HEL.out.new hby15)
              replace HBW := hide (bchain HBW.out hby15)
              have HN : Hid (y15.ownsRow u0.heap.size 37 2 (.slice (some ⟨u0.heap.size, 0, none⟩) 1 1) 1 (ev [e])) := by show _; rw [← hy15]; exact owns_lit u0 37 2 1 #[.int .i64 e.id, .int .i64 e.state] rfl (by omega)
              rw [hy15]
              clear hy15 hby15
              refine hK _ _ ?_; clear hK K
              try simp only [Act.put, List.getElem_toArray, List.getElem_cons_succ, List.getElem_cons_zero, List.setIfInBounds_toArray, List.set_cons_zero, List.set_cons_succ]
              refine wpAny_ready (rs := [8]) (by kernel_rfl) (by simp) ?_
              refine (AllReady.cons rfl (fun K hK => ?_) AllReady.nil)
              refine step_app _ (by rfl) _ _ 26 (by rfl) 37 (.agg #[.int .i64 0, .int .i64 0]) 2 16 Try.underlying26 (by kernel_rfl) rfl (by decide) go _ M.length (ev M) (by rfl) HO.out _ 1 (ev [e]) (by rfl) (reads_of_owns HN.out) (ev_one _) (by omega) (by decide) (by have := HT.out.lt; omega) ?_
              intro ad7 cap7 y16 hown7 hg7 hat7
              have hlW := HT.out.lt
              have hrow7 := HT.out.kept (hg7.block go hlW (fun e => HNE.out e.symm))
              have hx7 := HX.out.kept (hg7.block _ HX.out.lt (fun e => by have := (HO.out.lt _ e.symm).1; omega))
              have hr7 := HRR.out.kept (hg7.block _ HRR.out.lt (fun e => by have := (HO.out.lt _ e.symm).1; omega))
              have hne7 : (Value.slice ad7 (M.length + 1) cap7).ownBlock ≠ some go := by
                rcases hat7 with e | e
                · rw [e]; exact HNE.out
                · rw [e]; intro hc; have := Option.some.inj hc; omega
              have hbw7 : Below w.heap.size w y16 := ⟨hg7.os.trans HBW.out.os, hg7.tape.trans HBW.out.tape, hg7.output.trans HBW.out.output, Nat.le_trans HBW.out.size hg7.size, fun k hk => (hg7.block k (by have := HBW.out.size; omega) (fun e => by have := (HO.out.lt k e.symm).1; omega)).trans (HBW.out.block k hk)⟩
              have HT7 := hide hrow7; have HO7 := hide hown7; have HX7 := hide hx7; have HR7 := hide hr7; have HNE7 := hide hne7; have HBW7 := hide hbw7
              clear hrow7 hown7 hx7 hr7 hne7 hbw7 hat7 hg7 hlW
              refine hK _ _ ?_; clear hK K
              have t2 := HT7.out.cell (j := 2) rfl
              have tf := HT7.out.frozen 2
              have tl := HT7.out.lt
              try simp only [Act.put, List.getElem_toArray, List.getElem_cons_succ, List.getElem_cons_zero, List.setIfInBounds_toArray, List.set_cons_zero, List.set_cons_succ]
              refine wpAny_take (i := 9) (v := ?_) rfl (by kernel_rfl) (by kernel_rfl) (by kernel_rfl) (fun _ _ _ h => h) (Or.inl ⟨by rfl, ?_⟩) ?_; rotate_left; focus (intro uu; go_simp; try with_reducible rfl)
              try simp only [Act.put, List.getElem_toArray, List.getElem_cons_succ, List.getElem_cons_zero, List.setIfInBounds_toArray, List.set_cons_zero, List.set_cons_succ]
              refine wpAny_ready (rs := [10]) (by kernel_rfl) (by simp) ?_
              refine (AllReady.cons rfl (fun K hK => ?_) AllReady.nil)
              try rw [if_pos (by kernel_rfl)]
              go_simp

              refine hK _ _ ?_; clear hK K
              try simp only [Act.put, List.getElem_toArray, List.getElem_cons_succ, List.getElem_cons_zero, List.setIfInBounds_toArray, List.set_cons_zero, List.set_cons_succ]
              refine wpAny_done (by kernel_rfl) ?_ _
              go_wp2_with fail
              go_roundw
              case rel =>
                refine ⟨k + 1, by go_num, by omega, ?_, ?_, ?_, ?_⟩
                · show RegAt _ _ _ _
                  rw [HFL.out]
                  refine ⟨ad7, cap7, ?_, ?_, ?_⟩
                  · have := HT7.out.set 2 (.slice ad7 (M.length + 1) cap7)
                    simpa using this
                  · have := owns_apart HO7.out ⟨go, 2, none⟩ (.slice ad7 (M.length + 1) cap7) HNE7.out
                    simpa [ev_app] using this
                  · simpa using HNE7.out
                · exact HX7.out.far _ _ (by simp; omega)
                · exact HR7.out.far _ _ (by simp; omega)
                · exact HBW7.out.setCell (by simp; omega) _
              case measure => simp [intOf]; omega
            · skip
              try rw [if_pos (by kernel_rfl)]
              go_simp
              obtain ⟨y18, hy18⟩ : ∃ u, u0.alloc (.cells #[.int .i64 e.id, .int .i64 e.state] 37) = u := ⟨_, rfl⟩
              have hby18 : Below u0.heap.size u0 y18 := by rw [← hy18]; exact (Below.refl _ _).alloc (Nat.le_refl _) _
              replace HX := hide (HX.out.new hby18)
              replace HRR := hide (HRR.out.new hby18)
              replace HT := hide (HT.out.new hby18)
              replace HO := hide (owns_new HO.out hby18)
              replace HEL := hide (HEL.out.new hby18)
              replace HBW := hide (bchain HBW.out hby18)
              have HN : Hid (y18.ownsRow u0.heap.size 37 2 (.slice (some ⟨u0.heap.size, 0, none⟩) 1 1) 1 (ev [e])) := by show _; rw [← hy18]; exact owns_lit u0 37 2 1 #[.int .i64 e.id, .int .i64 e.state] rfl (by omega)
              rw [hy18]
              clear hy18 hby18
              refine hK _ _ ?_; clear hK K
              try simp only [Act.put, List.getElem_toArray, List.getElem_cons_succ, List.getElem_cons_zero, List.setIfInBounds_toArray, List.set_cons_zero, List.set_cons_succ]
              refine wpAny_ready (rs := [1]) (by kernel_rfl) (by simp) ?_
              refine (AllReady.cons rfl (fun K hK => ?_) AllReady.nil)
              try rw [if_pos (by kernel_rfl)]
              have l2 := HT.out.cell (j := 2) rfl
              have ll := HT.out.lt
              go_simp
              refine hK _ _ ?_; clear hK K
              clear l2 ll
              try simp only [Act.put, List.getElem_toArray, List.getElem_cons_succ, List.getElem_cons_zero, List.setIfInBounds_toArray, List.set_cons_zero, List.set_cons_succ]
              refine wpAny_ready (rs := [8]) (by kernel_rfl) (by simp) ?_
              refine (AllReady.cons rfl (fun K hK => ?_) AllReady.nil)
              refine step_app _ (by rfl) _ _ 26 (by rfl) 37 (.agg #[.int .i64 0, .int .i64 0]) 2 16 Try.underlying26 (by kernel_rfl) rfl (by decide) go _ M.length (ev M) (by rfl) HO.out _ 1 (ev [e]) (by rfl) (reads_of_owns HN.out) (ev_one _) (by omega) (by decide) (by have := HT.out.lt; omega) ?_
              intro ad7 cap7 y20 hown7 hg7 hat7
              have hlW := HT.out.lt
              have hrow7 := HT.out.kept (hg7.block go hlW (fun e => HNE.out e.symm))
              have hx7 := HX.out.kept (hg7.block _ HX.out.lt (fun e => by have := (HO.out.lt _ e.symm).1; omega))
              have hr7 := HRR.out.kept (hg7.block _ HRR.out.lt (fun e => by have := (HO.out.lt _ e.symm).1; omega))
              have hne7 : (Value.slice ad7 (M.length + 1) cap7).ownBlock ≠ some go := by
                rcases hat7 with e | e
                · rw [e]; exact HNE.out
                · rw [e]; intro hc; have := Option.some.inj hc; omega
              have hbw7 : Below w.heap.size w y20 := ⟨hg7.os.trans HBW.out.os, hg7.tape.trans HBW.out.tape, hg7.output.trans HBW.out.output, Nat.le_trans HBW.out.size hg7.size, fun k hk => (hg7.block k (by have := HBW.out.size; omega) (fun e => by have := (HO.out.lt k e.symm).1; omega)).trans (HBW.out.block k hk)⟩
              have HT7 := hide hrow7; have HO7 := hide hown7; have HX7 := hide hx7; have HR7 := hide hr7; have HNE7 := hide hne7; have HBW7 := hide hbw7
              clear hrow7 hown7 hx7 hr7 hne7 hbw7 hat7 hg7 hlW
              refine hK _ _ ?_; clear hK K
              have t2 := HT7.out.cell (j := 2) rfl
              have tf := HT7.out.frozen 2
              have tl := HT7.out.lt
              try simp only [Act.put, List.getElem_toArray, List.getElem_cons_succ, List.getElem_cons_zero, List.setIfInBounds_toArray, List.set_cons_zero, List.set_cons_succ]
              refine wpAny_take (i := 9) (v := ?_) rfl (by kernel_rfl) (by kernel_rfl) (by kernel_rfl) (fun _ _ _ h => h) (Or.inl ⟨by rfl, ?_⟩) ?_; rotate_left; focus (intro uu; go_simp; try with_reducible rfl)
              try simp only [Act.put, List.getElem_toArray, List.getElem_cons_succ, List.getElem_cons_zero, List.setIfInBounds_toArray, List.set_cons_zero, List.set_cons_succ]
              refine wpAny_ready (rs := [10]) (by kernel_rfl) (by simp) ?_
              refine (AllReady.cons rfl (fun K hK => ?_) AllReady.nil)
              try rw [if_pos (by kernel_rfl)]
              go_simp

              refine hK _ _ ?_; clear hK K
              try simp only [Act.put, List.getElem_toArray, List.getElem_cons_succ, List.getElem_cons_zero, List.setIfInBounds_toArray, List.set_cons_zero, List.set_cons_succ]
              refine wpAny_done (by kernel_rfl) ?_ _
              go_wp2_with fail
              go_roundw
              case rel =>
                refine ⟨k + 1, by go_num, by omega, ?_, ?_, ?_, ?_⟩
                · show RegAt _ _ _ _
                  rw [HFL.out]
                  refine ⟨ad7, cap7, ?_, ?_, ?_⟩
                  · have := HT7.out.set 2 (.slice ad7 (M.length + 1) cap7)
                    simpa using this
                  · have := owns_apart HO7.out ⟨go, 2, none⟩ (.slice ad7 (M.length + 1) cap7) HNE7.out
                    simpa [ev_app] using this
                  · simpa using HNE7.out
                · exact HX7.out.far _ _ (by simp; omega)
                · exact HR7.out.far _ _ (by simp; omega)
                · exact HBW7.out.setCell (by simp; omega) _
              case measure => simp [intOf]; omega
    · obtain rfl : k = d.es.length := by omega
      rw [List.take_length] at HTA
      obtain ⟨aM, pM, hrow, hown, hne⟩ := HTA.out.ex
      dsimp only at hrow hown hne
      have t0 := hrow.cell (j := 0) rfl
      have t1 := hrow.cell (j := 1) rfl
      have t2 := hrow.cell (j := 2) rfl
      have hlT := hrow.lt
      have r0 := HRR.out.cell (j := 0) rfl
      have r1 := HRR.out.cell (j := 1) rfl
      have r2 := HRR.out.cell (j := 2) rfl
      have r3 := HRR.out.frozen 0
      have r4 := HRR.out.frozen 1
      have r5 := HRR.out.frozen 2
      have hlR := HRR.out.lt
      have hov : ∀ q, (Value.slice aM (flt d.es).length pM).ownBlock = some q → w.heap.size + 2 ≤ q := fun q hq => by have := (hown.lt q hq).1; omega
      have HO := hide hown
      have HOV := hide hov
      have hgT : go ≠ w.heap.size + 1 := by omega
      clear hrow hown hov hne
      obtain rfl := HDD.out
      go_wp2_with fail
      refine bodyPost_ret (v := (.agg #[.int .i64 d.lim, .int .i64 d.top, .slice aM (flt d.es).length pM])) (by simp [results, Try.results5, go_sem, *]) rfl ?_
      have hlt1 : w.heap.size + 1 < w.heap.size + 2 := by omega
      have hfin := owns_far (w.heap.size + 2) (owns_far (w.heap.size + 2) (owns_far (w.heap.size + 2) HO.out HOV.out ⟨w.heap.size + 1, 0, none⟩ (.int .i64 d.lim) hlt1) HOV.out ⟨w.heap.size + 1, 1, none⟩ (.int .i64 d.top) hlt1) HOV.out ⟨w.heap.size + 1, 2, none⟩ (.slice aM (flt d.es).length pM) hlt1
      exact ⟨_, rfl, ev_ow (owns_base hfin (fun q hq => by have := HOV.out q hq; omega)), ((HBW.out.setCell (show w.heap.size ≤ w.heap.size + 1 by omega) _).setCell (show w.heap.size ≤ w.heap.size + 1 by omega) _).setCell (show w.heap.size ≤ w.heap.size + 1 by omega) _⟩
end Go.Proofs.Ytgodopiejiajjab
