/- What the laws of the registry draw: a registry as it comes about, and one that is bent. -/
import Derived.Test.YtgodopiejiajjaaRegSpec2
import Derived.Test.YtgodopiejiajjaaCurTurn
import Derived.Test.YtgodopiejiajjaaOpenCode
import Derived.Test.YtgodopiejiajjaaStateDraw


namespace Go.Proofs.Ytgodopiejiajjaa
open Go.RowKit
set_option maxRecDepth 100000
set_option linter.unusedSimpArgs false
set_option linter.unusedVariables false
theorem RegAt.moves {w w' : World} {c g base : Nat} {d : RegistryD} (h : RegAt w g base d) (hm : Moves c w w') (h1 : c < base) (h2 : c ≠ g) : RegAt w' g base d := by
  obtain ⟨ad, cap, a, b, e⟩ := h.ex
  exact ⟨ad, cap, a.moves hm (fun x => h2 x.symm), owns_moves b hm h1, e⟩
theorem Moves.behind {c : Nat} {a b b' : World} (h : Moves c a b) (k : Below a.heap.size b b') : Moves c a b' :=
  ⟨k.os.trans h.os, k.tape.trans h.tape, k.output.trans h.output, Nat.le_trans h.size k.size, fun i hi hne => (k.block i hi).trans (h.block i hi hne)⟩
theorem openRaw_len (r : RegistryD) (id : Int) : (openRaw r id).1.es.length ≤ r.es.length + 1 := by
  unfold openRaw
  repeat' split
  all_goals simp
theorem openRaw_top (r : RegistryD) (id : Int) (h0 : 0 ≤ r.top) (h1 : r.top ≤ 100000) : 0 ≤ (openRaw r id).1.top ∧ (openRaw r id).1.top ≤ 100000 := by
  unfold openRaw
  split
  · rename_i c
    have := idB_iff.1 c.1
    split <;> simp only <;> omega
  · exact ⟨h0, h1⟩
theorem happenRaw_len (r : RegistryD) (id e : Int) : (happenRaw r id e).1.es.length = r.es.length ∧ (happenRaw r id e).1.top = r.top := by
  cases hq : atE r.es id with
  | none => rw [happenRaw_none hq]; exact ⟨rfl, rfl⟩
  | some k => obtain ⟨hk, _⟩ := atE_some hq; rw [happenRaw_some hq hk]; simp
set_option maxRecDepth 100000 in
set_option maxHeartbeats 4000000 in
theorem drawReg0 (g B : Nat) (w : World) (hc : Cur w g B) :
    Calls Try.prog 52 #[.pointer (some ⟨g, 0, none⟩)] w fun e w' => ∃ (d : RegistryD) (v : Value), e = .returned (.agg #[.int .i64 d.lim, .int .i64 d.top, v]) ∧ w'.ownsRow (w.heap.size + 1) 57 2 v d.es.length (ev d.es) ∧ d.es.length ≤ 12 ∧ 0 ≤ d.top ∧ d.top ≤ 100000 ∧ Cur w' g B ∧ Moves g w w' := by
  have hgw := hc.lt
  go_enter Try.func52, Try.ntmps52
  go_wp2_with fail
  generalize hV : w.alloc (.cells #[.int .i64 0, .int .i64 0, .slice none 0 0] 26) = V
  have HM : Hid (Moves g w V) := by show Moves _ _ _; rw [← hV]; exact (Moves.refl g w).alloc _
  have HZ : Hid (RowIs V w.heap.size 26 [.int .i64 0, .int .i64 0, .slice none 0 0]) := by show RowIs _ _ _ _; rw [← hV]; exact rowIs_new w 26 [.int .i64 0, .int .i64 0, .slice none 0 0]
  have HC : Hid (Cur V g B) := by show Cur _ _ _; rw [← hV]; exact hc.alloc _
  have hlZ := HZ.out.lt
  clear hV hc
  refine (below1 g B 5 _ HC.out (by omega)).mono ?_; rintro e w1 ⟨l, l0, l1, _, rfl, hc1, hm1⟩
  replace HC := hide hc1; replace HZ := hide (HZ.out.moves hm1 (by omega)); replace HM := hide (HM.out.trans hm1)
  have hs1 := hm1.size
  clear hc1 hm1 l1
  go_upto_region 2 with fail
  have hb2 : Below w1.heap.size w1 (w1.alloc (.cells #[.int .i64 l, .int .i64 0, .slice none 0 0] 26)) := (Below.refl _ _).alloc (Nat.le_refl _) _
  have HRA : Hid (RegAt (w1.alloc (.cells #[.int .i64 l, .int .i64 0, .slice none 0 0] 26)) w1.heap.size w1.heap.size ⟨l, 0, []⟩) := regAt_new (d := ⟨l, 0, []⟩) (World.ownsRow_nil w1 w1.heap.size 57 2)
  generalize w1.alloc (.cells #[.int .i64 l, .int .i64 0, .slice none 0 0] 26) = w2 at *
  replace HC := hide (HC.out.below hb2); replace HZ := hide (HZ.out.new hb2); replace HM := hide (HM.out.trans (Moves.of_below (g := g) hb2))
  have hs2 := hb2.size
  clear hb2
  generalize w1.heap.size = gr at *
  go_wp2_with fail
  refine (below1 g B 12 _ HC.out (by omega)).mono ?_; rintro e w3 ⟨n, n0, n1, _, rfl, hc3, hm3⟩
  have n12 := n1 (by omega)
  replace HC := hide hc3; replace HRA := hide (HRA.out.moves hm3 (by omega) (by omega)); replace HZ := hide (HZ.out.moves hm3 (by omega)); replace HM := hide (HM.out.trans hm3)
  clear hc3 hm3 n1
  go_wp2_with fail
  go_loopw [4] (fun n wr => ∃ (m : Nat) (d : RegistryD), n = .int .i64 m ∧ m + d.es.length ≤ 12 ∧ 0 ≤ d.top ∧ d.top ≤ 100000 ∧ Hid (RegAt wr gr gr d) ∧ Hid (RowIs wr w.heap.size 26 [.int .i64 0, .int .i64 0, .slice none 0 0]) ∧ Hid (Cur wr g B) ∧ Hid (Moves g w wr)) (fun n _ => (intOf n).toNat)
  case atStart =>
    obtain ⟨m, rfl⟩ : ∃ m : Nat, n = m := ⟨n.toNat, by omega⟩
    exact ⟨m, ⟨l, 0, []⟩, rfl, by simp; omega, by simp, by simp, HRA, HZ, HC, HM⟩
  case round =>
    clear HRA HZ HC HM
    obtain ⟨m, d, rfl, hmd, ht0, ht1, HRA, HZ, HC, HM⟩ := hrel
    by_cases hm : 0 < m
    · obtain ⟨m', rfl⟩ : ∃ m', m = m' + 1 := ⟨m - 1, by omega⟩
      go_wp2_with fail
      refine (once1 g B 2 _ HC.out (by omega)).mono ?_; rintro e w5 ⟨b, rfl, hc5, hm5⟩
      replace HC := hide hc5; replace HRA := hide (HRA.out.moves hm5 (by omega) (by omega)); replace HZ := hide (HZ.out.moves hm5 (by omega)); replace HM := hide (HM.out.trans hm5)
      clear hc5 hm5
      cases b
      · go_wp2_with fail
        refine (below1 g B 6 _ HC.out (by omega)).mono ?_; rintro e w6 ⟨p, p0, p1, _, rfl, hc6, hm6⟩
        have p6 := p1 (by omega)
        replace HC := hide hc6; replace HRA := hide (HRA.out.moves hm6 (by omega) (by omega)); replace HZ := hide (HZ.out.moves hm6 (by omega)); replace HM := hide (HM.out.trans hm6)
        clear hc6 hm6 p1
        go_wp2_with fail
        refine (below1 g B 6 _ HC.out (by omega)).mono ?_; rintro e w7 ⟨q, q0, q1, _, rfl, hc7, hm7⟩
        have q6 := q1 (by omega)
        replace HC := hide hc7; replace HRA := hide (HRA.out.moves hm7 (by omega) (by omega)); replace HZ := hide (HZ.out.moves hm7 (by omega)); replace HM := hide (HM.out.trans hm7)
        clear hc7 hm7 q1
        go_wp2_with fail
        have hgr := HM.out.size
        have hlz := HZ.out.lt
        have hln := happenRaw_len d (1 + 2 * p) (2 + q)
        refine (happenAt gr gr d (1 + 2 * p) (2 + q) _ HRA.out (by obtain ⟨_, _, hh, _⟩ := HRA.out.ex; exact Nat.le_of_lt hh.lt)).mono ?_
        obtain ⟨d2, hd2⟩ : ∃ d2, happenRaw d (1 + 2 * p) (2 + q) = d2 := ⟨_, rfl⟩
        rw [hd2] at hln ⊢
        clear hd2
        rintro x w8 ⟨rfl, hta, hbb⟩
        have hbw := hbb (w.heap.size + 1) (by omega) (by omega) (by omega)
        have HRA2 := hide hta
        have HC2 := hide (HC.out.kept (hbw.mono (by omega)))
        have HZ2 := hide (HZ.out.kept (hbw.block _ (by omega)))
        have HM2 := hide (HM.out.behind (hbw.mono (by omega)))
        clear hta hbb hbw
        go_wp2_with fail
        go_roundw
        case rel => exact ⟨m', d2.1, by go_num, by omega, by omega, by omega, HRA2, HZ2, HC2, HM2⟩
        case measure => simp [intOf]
      · go_upto_region 6 with fail
        refine wp_region_any (by kernel_rfl) ?_
        change wpAny _ _ _ _ _ _ _ (World.drew _)
        obtain ⟨u0, hu0⟩ : ∃ u : World, u = World.drew w5 := ⟨_, rfl⟩
        have hbu : Below w5.heap.size w5 u0 := by rw [hu0]; exact bo_drewN 1 (Below.refl _ _)
        rw [← hu0]
        clear hu0
        replace HRA := hide (HRA.out.new hbu); replace HZ := hide (HZ.out.new hbu); replace HC := hide (HC.out.below hbu); replace HM := hide (HM.out.trans (Moves.of_below (g := g) hbu))
        clear hbu

        refine wpAny_take (i := 0) (v := ?_) rfl (by kernel_rfl) (by kernel_rfl) (by kernel_rfl) (fun _ _ _ h => h) (Or.inl ⟨by rfl, ?_⟩) ?_; rotate_left; focus (intro uu; go_simp; try with_reducible rfl)
        try simp only [Act.put, List.getElem_toArray, List.getElem_cons_succ, List.getElem_cons_zero, List.setIfInBounds_toArray, List.set_cons_zero, List.set_cons_succ]
        refine wpAny_take (i := 3) (v := ?_) rfl (by kernel_rfl) (by kernel_rfl) (by kernel_rfl) (fun _ _ _ h => h) (Or.inl ⟨by rfl, ?_⟩) ?_; rotate_left; focus (intro uu; go_simp; try with_reducible rfl)
        try simp only [Act.put, List.getElem_toArray, List.getElem_cons_succ, List.getElem_cons_zero, List.setIfInBounds_toArray, List.set_cons_zero, List.set_cons_succ]
        refine wpAny_ready (rs := [1, 4]) (by kernel_rfl) (by simp) ?_
        refine (AllReady.cons rfl (fun K hK => ?_) (AllReady.cons rfl (fun K hK => ?_) AllReady.nil))
        · skip
          try rw [if_pos (by kernel_rfl)]
          obtain ⟨a1, p1, hr1, -, -⟩ := HRA.out.ex
          have l1 := hr1.cell (j := 1) rfl
          have ll := hr1.lt
          clear hr1
          go_simp
          refine hK _ _ ?_; clear hK K
          clear l1 ll
          try simp only [Act.put, List.getElem_toArray, List.getElem_cons_succ, List.getElem_cons_zero, List.setIfInBounds_toArray, List.set_cons_zero, List.set_cons_succ]
          refine wpAny_take (i := 2) (v := ?_) rfl (by kernel_rfl) (by kernel_rfl) (by kernel_rfl) (fun _ _ _ h => h) (Or.inl ⟨by rfl, ?_⟩) ?_; rotate_left; focus (intro uu; go_simp; try with_reducible rfl)
          try simp only [Act.put, List.getElem_toArray, List.getElem_cons_succ, List.getElem_cons_zero, List.setIfInBounds_toArray, List.set_cons_zero, List.set_cons_succ]
          refine wpAny_ready (rs := [4]) (by kernel_rfl) (by simp) ?_
          refine (AllReady.cons rfl (fun K hK => ?_) AllReady.nil)
          try rw [if_pos (by kernel_rfl)]
          go_simp
          refine (below1 g B 4 _ HC.out (by omega)).mono ?_; rintro e y2 ⟨q, q0, q1, _, rfl, hc6, hm6⟩
          have q6 := q1 (by omega)
          replace HC := hide hc6; replace HRA := hide (HRA.out.moves hm6 (by omega) (by omega)); replace HZ := hide (HZ.out.moves hm6 (by omega)); replace HM := hide (HM.out.trans hm6)
          clear hc6 hm6 q1
          refine hK _ _ ?_; clear hK K
          try simp only [Act.put, List.getElem_toArray, List.getElem_cons_succ, List.getElem_cons_zero, List.setIfInBounds_toArray, List.set_cons_zero, List.set_cons_succ]
          refine wpAny_take (i := 5) (v := ?_) rfl (by kernel_rfl) (by kernel_rfl) (by kernel_rfl) (fun _ _ _ h => h) (Or.inl ⟨by rfl, ?_⟩) ?_; rotate_left; focus (intro uu; go_simp; try with_reducible rfl)
          try simp only [Act.put, List.getElem_toArray, List.getElem_cons_succ, List.getElem_cons_zero, List.setIfInBounds_toArray, List.set_cons_zero, List.set_cons_succ]
          refine wpAny_ready (rs := [6]) (by kernel_rfl) (by simp) ?_
          refine (AllReady.cons rfl (fun K hK => ?_) AllReady.nil)
          try rw [if_pos (by kernel_rfl)]
          go_simp
          refine (openAt gr gr d _ _ HRA.out (by omega) (by obtain ⟨_, _, hh, _⟩ := HRA.out.ex; exact Nat.le_of_lt hh.lt)).mono ?_
          obtain ⟨idv, hid⟩ : ∃ x : Int, IntKind.i64.wrap (IntKind.i64.wrap (d.top + 1) + q) = x := ⟨_, rfl⟩
          rw [hid]
          have hln := openRaw_len d idv
          have htp := openRaw_top d idv ht0 ht1
          clear hid
          obtain ⟨d2, hd2⟩ : ∃ d2, openRaw d idv = d2 := ⟨_, rfl⟩
          rw [hd2] at hln htp ⊢
          clear hd2
          rintro x y3 ⟨rfl, hta, hbb⟩
          have hgr := HM.out.size
          have hlz := HZ.out.lt
          have hbw := hbb (w.heap.size + 1) (by omega) (by omega) (by omega)
          have HRA2 := hide hta
          have HC2 := hide (HC.out.kept (hbw.mono (by omega)))
          have HZ2 := hide (HZ.out.kept (hbw.block _ (by omega)))
          have HM2 := hide (HM.out.behind (hbw.mono (by omega)))
          clear hta hbb hbw
          refine hK _ _ ?_; clear hK K
          try simp only [Act.put, List.getElem_toArray, List.getElem_cons_succ, List.getElem_cons_zero, List.setIfInBounds_toArray, List.set_cons_zero, List.set_cons_succ]
          refine wpAny_done (by kernel_rfl) ?_ _
          go_wp2_with fail
          go_roundw
          case rel => exact ⟨m', d2.1, by go_num, by omega, by omega, by omega, HRA2, HZ2, HC2, HM2⟩
          case measure => simp [intOf]
        · skip
          try rw [if_pos (by kernel_rfl)]
          go_simp
          refine (below1 g B 4 _ HC.out (by omega)).mono ?_; rintro e y4 ⟨q, q0, q1, _, rfl, hc6, hm6⟩
          have q6 := q1 (by omega)
          replace HC := hide hc6; replace HRA := hide (HRA.out.moves hm6 (by omega) (by omega)); replace HZ := hide (HZ.out.moves hm6 (by omega)); replace HM := hide (HM.out.trans hm6)
          clear hc6 hm6 q1
          refine hK _ _ ?_; clear hK K
          try simp only [Act.put, List.getElem_toArray, List.getElem_cons_succ, List.getElem_cons_zero, List.setIfInBounds_toArray, List.set_cons_zero, List.set_cons_succ]
          refine wpAny_ready (rs := [1]) (by kernel_rfl) (by simp) ?_
          refine (AllReady.cons rfl (fun K hK => ?_) AllReady.nil)
          try rw [if_pos (by kernel_rfl)]
          obtain ⟨a1, p1, hr1, -, -⟩ := HRA.out.ex
          have l1 := hr1.cell (j := 1) rfl
          have ll := hr1.lt
          clear hr1
          go_simp
          refine hK _ _ ?_; clear hK K
          clear l1 ll
          try simp only [Act.put, List.getElem_toArray, List.getElem_cons_succ, List.getElem_cons_zero, List.setIfInBounds_toArray, List.set_cons_zero, List.set_cons_succ]
          refine wpAny_take (i := 2) (v := ?_) rfl (by kernel_rfl) (by kernel_rfl) (by kernel_rfl) (fun _ _ _ h => h) (Or.inl ⟨by rfl, ?_⟩) ?_; rotate_left; focus (intro uu; go_simp; try with_reducible rfl)
          try simp only [Act.put, List.getElem_toArray, List.getElem_cons_succ, List.getElem_cons_zero, List.setIfInBounds_toArray, List.set_cons_zero, List.set_cons_succ]
          refine wpAny_take (i := 5) (v := ?_) rfl (by kernel_rfl) (by kernel_rfl) (by kernel_rfl) (fun _ _ _ h => h) (Or.inl ⟨by rfl, ?_⟩) ?_; rotate_left; focus (intro uu; go_simp; try with_reducible rfl)
          try simp only [Act.put, List.getElem_toArray, List.getElem_cons_succ, List.getElem_cons_zero, List.setIfInBounds_toArray, List.set_cons_zero, List.set_cons_succ]
          refine wpAny_ready (rs := [6]) (by kernel_rfl) (by simp) ?_
          refine (AllReady.cons rfl (fun K hK => ?_) AllReady.nil)
          try rw [if_pos (by kernel_rfl)]
          go_simp
          refine (openAt gr gr d _ _ HRA.out (by omega) (by obtain ⟨_, _, hh, _⟩ := HRA.out.ex; exact Nat.le_of_lt hh.lt)).mono ?_
          obtain ⟨idv, hid⟩ : ∃ x : Int, IntKind.i64.wrap (IntKind.i64.wrap (d.top + 1) + q) = x := ⟨_, rfl⟩
          rw [hid]
          have hln := openRaw_len d idv
          have htp := openRaw_top d idv ht0 ht1
          clear hid
          obtain ⟨d2, hd2⟩ : ∃ d2, openRaw d idv = d2 := ⟨_, rfl⟩
          rw [hd2] at hln htp ⊢
          clear hd2
          rintro x y6 ⟨rfl, hta, hbb⟩
          have hgr := HM.out.size
          have hlz := HZ.out.lt
          have hbw := hbb (w.heap.size + 1) (by omega) (by omega) (by omega)
          have HRA2 := hide hta
          have HC2 := hide (HC.out.kept (hbw.mono (by omega)))
          have HZ2 := hide (HZ.out.kept (hbw.block _ (by omega)))
          have HM2 := hide (HM.out.behind (hbw.mono (by omega)))
          clear hta hbb hbw
          refine hK _ _ ?_; clear hK K
          try simp only [Act.put, List.getElem_toArray, List.getElem_cons_succ, List.getElem_cons_zero, List.setIfInBounds_toArray, List.set_cons_zero, List.set_cons_succ]
          refine wpAny_done (by kernel_rfl) ?_ _
          go_wp2_with fail
          go_roundw
          case rel => exact ⟨m', d2.1, by go_num, by omega, by omega, by omega, HRA2, HZ2, HC2, HM2⟩
          case measure => simp [intOf]
    · obtain rfl : m = 0 := by omega
      obtain ⟨a9, p9, hrow, hown, hne⟩ := HRA.out.ex
      have t0 := hrow.cell (j := 0) rfl
      have t1 := hrow.cell (j := 1) rfl
      have t2 := hrow.cell (j := 2) rfl
      have hlT := hrow.lt
      have r0 := HZ.out.cell (j := 0) rfl
      have r1 := HZ.out.cell (j := 1) rfl
      have r2 := HZ.out.cell (j := 2) rfl
      have r3 := HZ.out.frozen 0
      have r4 := HZ.out.frozen 1
      have r5 := HZ.out.frozen 2
      have hlR := HZ.out.lt
      have hov : ∀ q, (Value.slice a9 d.es.length p9).ownBlock = some q → w.heap.size + 1 ≤ q := fun q hq => by have := (hown.lt q hq).1; omega
      have HO := hide hown
      have HOV := hide hov
      have hgT : gr ≠ w.heap.size := by omega
      clear hrow hown hov hne
      go_wp2_with fail
      refine bodyPost_ret (v := (.agg #[.int .i64 d.lim, .int .i64 d.top, .slice a9 d.es.length p9])) (by simp [results, Try.results52, go_sem, *]) rfl ?_
      have hlt1 : w.heap.size < w.heap.size + 1 := by omega
      have hfin := owns_far (w.heap.size + 1) (owns_far (w.heap.size + 1) (owns_far (w.heap.size + 1) HO.out HOV.out ⟨w.heap.size, 0, none⟩ (.int .i64 d.lim) hlt1) HOV.out ⟨w.heap.size, 1, none⟩ (.int .i64 d.top) hlt1) HOV.out ⟨w.heap.size, 2, none⟩ (.slice a9 d.es.length p9) hlt1
      exact ⟨d, _, rfl, owns_base hfin (fun q hq => by have := HOV.out q hq; omega), by omega, ht0, ht1, ((HC.out.set _ _ (by simpa using hgw)).set _ _ (by simpa using hgw)).set _ _ (by simpa using hgw), ((HM.out.setNew _ (by simp) _).setNew _ (by simp) _).setNew _ (by simp) _⟩
end Go.Proofs.Ytgodopiejiajjaa
