/- A Memory copied by the model: every list of it in new memory. -/
import Derived.Test.YtdplpkobpoiioaaSpecPick
import Derived.Test.YtdplpkobpoiioaaApart


namespace Go.Proofs.Ytdplpkobpoiioaa
open Go.RowKit
set_option linter.unusedSimpArgs false
set_option linter.unusedVariables false

theorem tv_snoc (A : List Th) (t : Th) : tv (A ++ [t]) = tv A ++ t.cs := by unfold tv; rw [List.flatMap_append]; simp
theorem one_th {w : World} (t : Th) (ht : ∃ a n c, t.sv = .slice a n c) : ∀ u ∈ t.cs, u.oneCell' = true := fun u hu => by
  obtain ⟨a, n, c, e⟩ := ht
  simp only [Th.cs, List.mem_cons, List.not_mem_nil, or_false] at hu
  rcases hu with rfl | rfl | rfl | rfl
  · rw [e]; rfl
  · rfl
  · rfl
  · rfl

/-- A row just built of n elements. -/
theorem reads_built (w : World) (cs : Array Value) (t : TypeId) (n size : Nat) (h : cs.size = n * size) (hn : n ≤ 1048576) : Reads (w.alloc (.cells cs t)) (.slice (some ⟨w.heap.size, 0, none⟩) n n) n size cs.toList :=
  ⟨by simpa using h, _, _, rfl, Nat.le_refl _, by unfold maxLen; omega, fun _ => ⟨w.heap.size, 0, rfl, by simp, fun j u hu => by rw [Nat.zero_add, World.cell?_alloc_new]; simpa using hu⟩⟩

set_option maxHeartbeats 4000000 in
theorem specCopy (cv tv0 : Value) (cells : List Int) (T : List Th) (w : World) (hr : ReadM w ⟨cv, cells, tv0, T⟩) (hok : okM ⟨cells, T.map Th.d⟩ = true) :
    Calls Try.prog 44 #[.agg #[cv, tv0]] w fun x w' => ∃ m' : Mm, x = .returned (.agg #[m'.cv, m'.tv]) ∧ m'.d = ⟨cells, T.map Th.d⟩ ∧ OwnM w' w.heap.size w'.heap.size m' ∧ Below w.heap.size w w' := by
  obtain ⟨hl4, hl6⟩ := okM_len hok
  have hl20 : ∀ t ∈ T, t.st.length ≤ 20 := fun t ht => by
    have := (okTh_rng ((okM_parts hok).2.2.2 _ (List.mem_map_of_mem ht))).2.2.2.2.2.2.1
    exact Int.ofNat_le.1 this
  obtain ⟨ad, cap, hcv, _⟩ := hr.cel.2
  obtain ⟨ad', cap', htv, h2'⟩ := hr.ths.row.2
  simp only at hcv htv
  subst hcv htv
  have h4a : cells.length ≤ 4 := by omega
  have H1 := hide (one_iv cells)
  have HR := hide hr; have HOK := hide hok; have H20 := hide hl20
  have hT : T.length ≤ cap' ∧ cap' ≤ maxLen := ⟨h2'.1, h2'.2.1⟩
  unfold maxLen at hT
  clear hr hok hl20 hl4 h2'
  have ho0 := World.ownsRow_made (base := w.heap.size + 2) (e := 2) (size := 1) ((w.alloc (.cells #[.slice ad cells.length cap, .slice ad' T.length cap'] 27)).alloc (.cells #[.slice none 0 0, .slice none 0 0] 27)) #[] 0 (by simp) (Nat.zero_le _) rfl
  simp only [World.size_alloc] at ho0
  have HO0 := hide ho0
  clear ho0
  go_enter Try.func44, Try.ntmps44
  go_wp2_with (at_builtin; refine wpList_app _ rfl _ _ 24 rfl 2 (.int .i64 0) 1 8 Try.underlying24 (by kernel_rfl) rfl (by decide) (w.heap.size + 2) _ 0 [] rfl HO0.out _ cells.length (iv cells) rfl ?c1 H1.out (by omega) (by decide) ?c2 ?_)
  case c1 => exact HR.out.cel.new ((by repeat' (first | (with_reducible exact Below.refl _ _) | (with_reducible refine Below.drew ?_) | (with_reducible refine bo_drewN _ ?_) | (with_reducible refine bo_alloc ?_ _) | (refine bchain ?_ (by with_reducible assumption)) | (with_reducible refine Below.setCell ?_ ?_ _) | go_size)))
  intro ad1 cap1 w1 hown1 hgrow1 hat1
  clear hat1
  have hs1 := hgrow1.size
  simp at hs1
  have hB1 : Below (w.heap.size + 2) ((w.alloc (.cells #[.slice ad cells.length cap, .slice ad' T.length cap'] 27)).alloc (.cells #[.slice none 0 0, .slice none 0 0] 27)) w1 := ⟨hgrow1.os, hgrow1.tape, hgrow1.output, by simp; omega, fun k hk => (hgrow1.block k (by simp; omega) (by simp [Value.ownBlock]; omega)).trans (((Below.refl _ _).alloc (Nat.le_refl _) _).block k (by simp; omega))⟩
  have hv1 : ∀ k, (Value.slice ad1 cells.length cap1).ownBlock = some k → w.heap.size + 2 ≤ k ∧ k < w1.heap.size := fun k hk => hown1.lt k hk
  have hB0 : Below w.heap.size w ((w.alloc (.cells #[.slice ad cells.length cap, .slice ad' T.length cap'] 27)).alloc (.cells #[.slice none 0 0, .slice none 0 0] 27)) := (by repeat' (first | (with_reducible exact Below.refl _ _) | (with_reducible refine Below.drew ?_) | (with_reducible refine bo_drewN _ ?_) | (with_reducible refine bo_alloc ?_ _) | (refine bchain ?_ (by with_reducible assumption)) | (with_reducible refine Below.setCell ?_ ?_ _) | go_size))
  have k1 : ((w.alloc (.cells #[.slice ad cells.length cap, .slice ad' T.length cap'] 27)).alloc (.cells #[.slice none 0 0, .slice none 0 0] 27)).cell? ⟨w.heap.size, 1, none⟩ = some (.slice ad' T.length cap') := by simp
  have r0 : ((w.alloc (.cells #[.slice ad cells.length cap, .slice ad' T.length cap'] 27)).alloc (.cells #[.slice none 0 0, .slice none 0 0] 27)).cell? ⟨w.heap.size + 1, 0, none⟩ = some (.slice none 0 0) := by simp
  have r1 : ((w.alloc (.cells #[.slice ad cells.length cap, .slice ad' T.length cap'] 27)).alloc (.cells #[.slice none 0 0, .slice none 0 0] 27)).cell? ⟨w.heap.size + 1, 1, none⟩ = some (.slice none 0 0) := by simp
  have r2 : ((w.alloc (.cells #[.slice ad cells.length cap, .slice ad' T.length cap'] 27)).alloc (.cells #[.slice none 0 0, .slice none 0 0] 27)).frozen? ⟨w.heap.size + 1, 0, none⟩ = false := by simp
  have r3 : ((w.alloc (.cells #[.slice ad cells.length cap, .slice ad' T.length cap'] 27)).alloc (.cells #[.slice none 0 0, .slice none 0 0] 27)).frozen? ⟨w.heap.size + 1, 1, none⟩ = false := by simp
  have hS0 : ((w.alloc (.cells #[.slice ad cells.length cap, .slice ad' T.length cap'] 27)).alloc (.cells #[.slice none 0 0, .slice none 0 0] 27)).heap.size = w.heap.size + 2 := by simp
  generalize ((w.alloc (.cells #[.slice ad cells.length cap, .slice ad' T.length cap'] 27)).alloc (.cells #[.slice none 0 0, .slice none 0 0] 27)) = W0 at *
  have RR := hide (And.intro r0 (And.intro r1 (And.intro r2 r3)))
  have HOWN1 := hide hown1; have HV1 := hide hv1; have HB1 := hide hB1; have HK1 := hide k1; have HB0 := hide hB0
  clear r0 r1 r2 r3 hown1 hv1 hgrow1 hB1 hB0 k1
  go_wp2_with fail
  go_loopw [4] (fun i wr => ∃ (k : Nat) (A : List Th) (ad2 : Option Addr) (cap2 : Nat), i = .int .i64 k ∧ k ≤ T.length ∧ Hid (A.length = k) ∧ A.map Th.d = (T.take k).map Th.d ∧ wr.ownsRow (w.heap.size + 2) 41 4 (.slice ad2 k cap2) k (tv A) ∧
      (∀ t ∈ A, wr.ownsRow (w.heap.size + 2) 44 3 t.sv t.st.length (sv t.st)) ∧ (Value.slice ad1 cells.length cap1 :: Value.slice ad2 k cap2 :: A.map Th.sv).Pairwise Ap ∧ (∀ u ∈ Value.slice ad1 cells.length cap1 :: Value.slice ad2 k cap2 :: A.map Th.sv, u.ownBlock ≠ some w1.heap.size) ∧
      wr.ownsRow (w.heap.size + 2) 2 1 (.slice ad1 cells.length cap1) cells.length (iv cells) ∧ Below (w.heap.size + 2) W0 wr ∧ w1.heap.size < wr.heap.size ∧ wr.cell? ⟨w1.heap.size, 0, none⟩ = some (.slice ad1 cells.length cap1) ∧ wr.cell? ⟨w1.heap.size, 1, none⟩ = some (.slice ad2 k cap2) ∧ wr.frozen? ⟨w1.heap.size, 1, none⟩ = false) (fun i _ => T.length - (intOf i).toNat)
  case atStart =>
    refine ⟨0, [], none, 0, rfl, Nat.zero_le _, rfl, rfl, World.ownsRow_nil _ _ _ _, (fun t ht => by cases ht), ?_, ?_, HOWN1.out.alloc _, HB1.out.alloc (by omega) _, by simp, by simp, by simp, by simp⟩
    · simp only [List.map_nil, List.pairwise_cons, List.mem_singleton, List.not_mem_nil, false_implies, implies_true, List.Pairwise.nil, and_true, forall_eq]
      intro q _ h; cases h
    · intro u hu
      simp only [List.map_nil, List.mem_cons, List.not_mem_nil, or_false] at hu
      rcases hu with rfl | rfl
      · intro e; have := HV1.out _ e; omega
      · intro e; cases e
  case round =>
    obtain ⟨k, A, ad2, cap2, rfl, hk, HK, hd, hrow, hst, hpw, hne, hcel, hBW, hbx, bx0, bx1, bxf⟩ := hrel
    have hbw : Below w.heap.size w wr := HB0.out.trans (hBW.mono (by omega))
    have hszW := hBW.size
    have m1 : wr.cell? ⟨w.heap.size, 1, none⟩ = some (.slice ad' T.length cap') := (hBW.cell (p := ⟨w.heap.size, 1, none⟩) (by simp)).trans HK1.out
    by_cases hlt : k < T.length
    · have H3' : Hid (ReadTs w (.slice ad' T.length cap') T) := HR.out.ths
      obtain ⟨sz0, ad1, cap1, et1, g1, g2, hrd⟩ := H3'.out.row; simp only [Value.slice.injEq] at et1; obtain ⟨rfl, _, rfl⟩ := et1; obtain ⟨b, o, rfl, hbw', hc⟩ := hrd (by omega); obtain ⟨s0, s1, s2, s3⟩ := tv_get T k hlt; have hrt := (H3'.out.st _ (List.getElem_mem hlt)).new hbw; obtain ⟨t, htt⟩ : ∃ t, t = T[k] := ⟨_, rfl⟩; rw [← htt] at s0 s1 s2 s3 hrt; obtain ⟨ad0, cap0, hsv0, _⟩ := hrt.2; rw [hsv0] at s0 hrt; have c0 : World.cell? wr ⟨b, o + k * 4, none⟩ = some (.slice ad0 t.st.length cap0) := (by rw [hbw.cell (p := ⟨b, o + k * 4, none⟩) hbw']; exact hc _ _ s0); have c1 : World.cell? wr ⟨b, o + k * 4 + 1, none⟩ = some (.int .i64 t.pos) := (by rw [hbw.cell (p := ⟨b, o + k * 4 + 1, none⟩) hbw']; exact hc _ _ s1); have c2 : World.cell? wr ⟨b, o + k * 4 + 2, none⟩ = some (.int .i64 t.seen) := (by rw [hbw.cell (p := ⟨b, o + k * 4 + 2, none⟩) hbw']; exact hc _ _ s2); have c3 : World.cell? wr ⟨b, o + k * 4 + 3, none⟩ = some (.int .i64 t.won) := (by rw [hbw.cell (p := ⟨b, o + k * 4 + 3, none⟩) hbw']; exact hc _ _ s3); have HRT := hide hrt; have HTT := hide htt; clear hc s0 s1 s2 s3 hrt hsv0 hrd htt
      have h20 := H20.out _ (List.getElem_mem hlt)
      rw [← HTT.out] at h20
      have hblt : b < wr.heap.size := by omega
      have hwlt : w.heap.size < wr.heap.size := by omega
      have hDD : Hid (∀ v : Value, (A ++ [Th.mk v t.st t.pos t.seen t.won]).map Th.d = (T.take (k + 1)).map Th.d) := fun v => by
        rw [List.map_append, hd, List.take_succ_eq_append_getElem hlt, List.map_append, ← HTT.out]; rfl
      have hr2 := fun q hq => hrow.lt q hq
      have HROW := hide hrow; have HST := hide hst; have HPW := hide hpw; have HNE := hide hne; have HCEL := hide hcel; have HBW := hide hBW; have HR2 := hide hr2
      have hone := hide (one_sv t.st)
      clear hrow hst hpw hne hcel hBW hd hr2
      have hoe := (World.ownsRow_made (base := wr.heap.size + 1) (e := 44) (size := 3) (wr.alloc (.cells #[.slice ad0 t.st.length cap0, .int .i64 t.pos, .int .i64 t.seen, .int .i64 t.won] 41)) #[] 0 (by simp) (Nat.zero_le _) rfl)
      simp only [World.size_alloc] at hoe
      have HOE := hide hoe
      clear hoe
      go_wp2_with (at_builtin; refine Hid.out ?_)
      show wpList _ _ _ _ _ _
      refine (wpList_app _ rfl _ _ 39 rfl 44 (.agg #[.int .i64 0, .int .i64 0, .int .i64 0]) 3 24 Try.underlying39 (by kernel_rfl) rfl (by decide) (wr.heap.size + 1) (.slice (some ⟨wr.heap.size + 1, 0, none⟩) 0 0) 0 [] rfl HOE.out (.slice ad0 t.st.length cap0) t.st.length (sv t.st) rfl ?e1 hone.out (by omega) (by decide) ?e2 ?_)
      case e1 => exact HRT.out.new ((by repeat' (first | (with_reducible exact Below.refl _ _) | (with_reducible refine Below.drew ?_) | (with_reducible refine bo_drewN _ ?_) | (with_reducible refine bo_alloc ?_ _) | (refine bchain ?_ (by with_reducible assumption)) | (with_reducible refine Below.setCell ?_ ?_ _) | go_size)))
      case e2 => simp
      intro ad3 cap3 w3 hown3 hgrow3 hat3
      clear hat3
      simp only [Nat.zero_add, List.nil_append] at hown3 ⊢
      have hs3 := hgrow3.size
      simp at hs3
      have hB3 : Below (wr.heap.size + 1) (wr.alloc (.cells #[.slice ad0 t.st.length cap0, .int .i64 t.pos, .int .i64 t.seen, .int .i64 t.won] 41)) w3 := ⟨hgrow3.os, hgrow3.tape, hgrow3.output, by simp; omega, fun k hk => (hgrow3.block k (by simp; omega) (by simp [Value.ownBlock]; try omega)).trans (((Below.refl _ _).alloc (Nat.le_refl _) _).block k (by simp; omega))⟩
      obtain ⟨hb3, hc3, hf3, hz3⟩ := box1 hB3
      have hv3 : ∀ q, (Value.slice ad3 t.st.length cap3).ownBlock = some q → wr.heap.size + 1 ≤ q ∧ q < w3.heap.size := fun q hq => hown3.lt q hq
      have d0 := hc3 0; have d1 := hc3 1; have d2 := hc3 2; have d3 := hc3 3
      simp only [List.getElem?_toArray, List.getElem?_cons_zero, List.getElem?_cons_succ] at d0 d1 d2 d3
      have g0 := hf3 0
      have x0 := (hb3.cell (p := ⟨w1.heap.size, 0, none⟩) hbx).trans bx0
      have x1 := (hb3.cell (p := ⟨w1.heap.size, 1, none⟩) hbx).trans bx1
      have xf := (hb3.frozen (p := ⟨w1.heap.size, 1, none⟩) hbx).trans bxf
      have HOWN3 := hide hown3; have HV3 := hide hv3; have HB3 := hide hb3
      have hl13 : w1.heap.size < w3.heap.size := by omega
      have hn1 : w1.heap.size ≠ wr.heap.size := by omega
      have hn2 : wr.heap.size ≠ w1.heap.size := by omega
      clear hown3 hv3 hgrow3 hB3 hc3 hf3 c0 c1 c2 c3 m1 bx0 bx1 bxf
      have hrowX : Hid (∀ V : World, Below wr.heap.size wr V → V.ownsRow (w.heap.size + 2) 41 4 (.slice ad2 k cap2) k (tv A)) := fun V hV => owns_new HROW.out hV
      go_wp2_with (at_builtin; refine Hid.out ?_)
      show wpList _ _ _ _ _ _
      refine (wpList_app _ rfl _ _ 25 rfl 41 (.agg #[.slice none 0 0, .int .i64 0, .int .i64 0, .int .i64 0]) 4 48 Try.underlying25 (by kernel_rfl) rfl (by decide) (w.heap.size + 2) (.slice ad2 k cap2) k (tv A) rfl ?f1 (.slice (some ⟨w3.heap.size, 0, none⟩) 1 1) 1 [.slice ad3 t.st.length cap3, .int .i64 t.pos, .int .i64 t.seen, .int .i64 t.won] rfl ?f2 ?f3 ?f4 ?f5 ?f6 ?_)
      case f1 => exact hrowX.out _ ((HB3.out.setCell (by simp) _).alloc (by simp; omega) _)
      case f2 =>
        have h := reads_built (w3.setCell ⟨wr.heap.size, 0, none⟩ (.slice ad3 t.st.length cap3)) #[.slice ad3 t.st.length cap3, .int .i64 t.pos, .int .i64 t.seen, .int .i64 t.won] 41 1 4 rfl (by decide)
        simp only [World.size_setCell] at h
        exact h
      case f3 => exact one_th (w := w) (Th.mk (.slice ad3 t.st.length cap3) t.st t.pos t.seen t.won) ⟨_, _, _, rfl⟩
      case f4 => omega
      case f5 => decide
      case f6 => simp; omega
      intro ad4 cap4 w4 hown4 hgrow4 hat4
      have hs4 := hgrow4.size
      simp at hs4
      have U2 : ∀ q, (Value.slice ad2 k cap2).ownBlock = some q → q < wr.heap.size := fun q hq => (HR2.out q hq).2
      have U1 : ∀ q, (Value.slice ad1 cells.length cap1).ownBlock = some q → q < wr.heap.size := fun q hq => (HCEL.out.lt q hq).2
      have UA : ∀ t' ∈ A, ∀ q, t'.sv.ownBlock = some q → q < wr.heap.size := fun t' ht' q hq => ((HST.out t' ht').lt q hq).2
      have U4 : ∀ q, (Value.slice ad4 (k + 1) cap4).ownBlock = some q → (Value.slice ad2 k cap2).ownBlock = some q ∨ q = w3.heap.size + 1 := fun q hq => by
        rcases hat4 with h | h
        · exact .inl (by rw [← h]; exact hq)
        · rw [h] at hq; simp at hq; exact .inr hq.symm
      have nebx : (Value.slice ad2 k cap2).ownBlock ≠ some w1.heap.size := HNE.out _ (by simp)
      have hX : ∀ b, b < w3.heap.size → b ≠ wr.heap.size → (Value.slice ad2 k cap2).ownBlock ≠ some b → w4.heap[b]? = w3.heap[b]? := fun b h1 h2 h3 => by
        rw [hgrow4.block b (by simp; omega) (fun e => h3 e.symm), ((Below.refl _ _).alloc (Nat.le_refl _) _).block b (by simpa using h1), Below.heap_setCell _ _ _ b h2]
      have z1 : w4.cell? ⟨w1.heap.size, 1, none⟩ = some (.slice ad2 k cap2) := (World.cell?_of_block (hX _ hl13 hn1 nebx)).trans x1
      have z0 : w4.cell? ⟨w1.heap.size, 0, none⟩ = some (.slice ad1 cells.length cap1) := (World.cell?_of_block (hX _ hl13 hn1 nebx)).trans x0
      have zf : w4.frozen? ⟨w1.heap.size, 1, none⟩ = false := (World.frozen?_of_block (hX _ hl13 hn1 nebx)).trans xf
      have MV : ∀ (e : TypeId) (size : Nat) (u : Value) (n : Nat) (xs : List Value), w3.ownsRow (w.heap.size + 2) e size u n xs → u.ownBlock ≠ some wr.heap.size → (∀ q, u.ownBlock = some q → (Value.slice ad2 k cap2).ownBlock ≠ some q) → u.ownBlock ≠ some w1.heap.size →
          (w4.setCell ⟨w1.heap.size, 1, none⟩ (.slice ad4 (k + 1) cap4)).ownsRow (w.heap.size + 2) e size u n xs := fun e size u n xs h h1 h2 h3 =>
        owns_apart (owns_kept h fun q hq hlt => hX q hlt (fun e => h1 (by rw [hq, e])) (h2 q hq)) _ _ h3
      have hpw1 := List.pairwise_cons.1 HPW.out
      have hpw2 := List.pairwise_cons.1 hpw1.2
      have HX2 := hide (And.intro hpw1 hpw2); have HOWN4 := hide hown4; have HMV := hide MV; have HU := hide (And.intro U1 (And.intro U2 (And.intro UA U4)))
      have hBZ : Below (w.heap.size + 2) W0 w4 := ⟨hgrow4.os.trans ((HB3.out.os).trans HBW.out.os), hgrow4.tape.trans ((HB3.out.tape).trans HBW.out.tape), hgrow4.output.trans ((HB3.out.output).trans HBW.out.output), by omega, fun b hb =>
        (hX b (by omega) (by omega) (fun e => by have := (HR2.out b e).1; omega)).trans ((HB3.out.block b (by omega)).trans (HBW.out.block b hb))⟩
      have HBZ := hide hBZ
      clear hpw1 hpw2 hown4 MV U1 U2 UA U4 hX hgrow4 hat4 hBZ nebx x0 x1 xf d0 d1 d2 d3 g0
      go_wp2_with fail
      obtain ⟨U1, U2, UA, U4⟩ := HU.out
      obtain ⟨hpw1, hpw2⟩ := HX2.out
      have nA : ∀ t' ∈ A, ∀ q, t'.sv.ownBlock = some q → (Value.slice ad2 k cap2).ownBlock ≠ some q := fun t' ht' q hq e => hpw2.1 _ (List.mem_map_of_mem ht') q e hq
      have n1 : ∀ q, (Value.slice ad1 cells.length cap1).ownBlock = some q → (Value.slice ad2 k cap2).ownBlock ≠ some q := fun q hq e => hpw1.1 _ (by simp) q hq e
      have hown3' : w3.ownsRow (w.heap.size + 2) 44 3 (.slice ad3 t.st.length cap3) t.st.length (sv t.st) := owns_base HOWN3.out fun q hq => by have := HV3.out q hq; omega
      have sB : w4.heap.size = w4.heap.size := rfl
      refine ⟨⟨k + 1, A ++ [Th.mk (.slice ad3 t.st.length cap3) t.st t.pos t.seen t.won], ad4, cap4, ?_, ?_, ?_, hDD.out _, ?_, ?_, ?_, ?_, ?_, ?_, ?_, ?_, ?_, ?_⟩, ?_⟩
      · go_num
      · omega
      · show _ = _; rw [List.length_append, HK.out]; rfl
      · rw [tv_snoc]
        refine owns_apart HOWN4.out _ _ fun e => ?_
        rcases U4 _ e with h | h
        · exact HNE.out _ (by simp) h
        · have h' : w1.heap.size = w3.heap.size + 1 := h
          omega
      · intro t' ht'
        rcases List.mem_append.1 ht' with h | h
        · exact HMV.out _ _ _ _ _ (owns_new (HST.out t' h) HB3.out) (fun e => by have := UA t' h _ e; omega) (nA t' h) (HNE.out _ (List.mem_cons_of_mem _ (List.mem_cons_of_mem _ (List.mem_map_of_mem h))))
        · simp at h; subst h
          exact HMV.out _ _ _ _ _ hown3' (fun e => by have := HV3.out _ e; omega) (fun q hq e => by have := HV3.out q hq; have := U2 q e; omega) (fun e => by have := HV3.out _ e; omega)
      · rw [List.map_append, List.map_cons, List.map_nil]
        refine List.pairwise_cons.2 ⟨fun u hu q h1 h2 => ?_, List.pairwise_cons.2 ⟨fun u hu q h1 h2 => ?_, List.pairwise_append.2 ⟨hpw2.2, List.pairwise_singleton _ _, fun u hu v hv q h1 h2 => ?_⟩⟩⟩
        · have h3 := U1 q h1
          simp only [List.mem_cons, List.mem_append, List.mem_map, List.not_mem_nil, or_false] at hu
          rcases hu with rfl | ⟨t', ht', rfl⟩ | rfl
          · rcases U4 q h2 with h | h
            · exact n1 q h1 h
            · omega
          · exact hpw1.1 _ (List.mem_cons_of_mem _ (List.mem_map_of_mem ht')) q h1 h2
          · have := HV3.out q h2; omega
        · simp only [List.mem_append, List.mem_map, List.mem_cons, List.not_mem_nil, or_false] at hu
          rcases hu with ⟨t', ht', rfl⟩ | rfl
          · rcases U4 q h1 with h | h
            · exact nA t' ht' q h2 h
            · have := UA t' ht' q h2; omega
          · have h5 := HV3.out q h2
            rcases U4 q h1 with h | h
            · have := U2 q h; omega
            · omega
        · simp only [List.mem_map] at hu
          obtain ⟨t', ht', rfl⟩ := hu
          simp only [List.mem_cons, List.not_mem_nil, or_false] at hv
          subst hv
          have := UA t' ht' q h1; have := HV3.out q h2; omega
      · intro u hu
        simp only [List.mem_cons, List.map_append, List.mem_append, List.mem_map, List.map_cons, List.map_nil, List.not_mem_nil, or_false] at hu
        rcases hu with rfl | rfl | ⟨t', ht', rfl⟩ | rfl
        · exact HNE.out _ (by simp)
        · intro e
          rcases U4 _ e with h | h
          · exact HNE.out _ (by simp) h
          · omega
        · exact HNE.out _ (List.mem_cons_of_mem _ (List.mem_cons_of_mem _ (List.mem_map_of_mem ht')))
        · intro e; have := HV3.out _ e; omega
      · exact HMV.out _ _ _ _ _ (owns_new HCEL.out HB3.out) (fun e => by have := U1 _ e; omega) n1 (HNE.out _ (by simp))
      · exact HBZ.out.setCell (by simp; omega) _
      · simp; omega
      · simp [*, go_sem]
      · simp [*, go_sem]
      · simp [*, go_sem]
      · simp [intOf]; omega
    · obtain rfl : k = T.length := by omega
      rw [List.take_length] at hd
      have hpw1 := List.pairwise_cons.1 hpw
      have howm : OwnM wr (w.heap.size + 2) wr.heap.size ⟨.slice ad1 cells.length cap1, cells, .slice ad2 T.length cap2, A⟩ := by
        refine ⟨hcel, ⟨by simp only [HK.out]; exact hrow, hst, hpw1.2, fun u hu q hq => ?_⟩, hpw1.1, fun q hq => (hcel.lt q hq).2⟩
        simp only [List.mem_cons, List.mem_map] at hu
        rcases hu with rfl | ⟨t, ht, rfl⟩
        · exact (hrow.lt q hq).2
        · exact ((hst t ht).lt q hq).2
      have HM := hide howm; have HD := hide hd
      have b0 := (hBW.cell (p := ⟨w.heap.size + 1, 0, none⟩) (by simp)).trans RR.out.1
      have b1 := (hBW.cell (p := ⟨w.heap.size + 1, 1, none⟩) (by simp)).trans RR.out.2.1
      have f0 := (hBW.frozen (p := ⟨w.heap.size + 1, 0, none⟩) (by simp)).trans RR.out.2.2.1
      have f1 := (hBW.frozen (p := ⟨w.heap.size + 1, 1, none⟩) (by simp)).trans RR.out.2.2.2
      clear hrow hst hpw hne hcel hpw1 howm hd hBW
      have hbne : w1.heap.size ≠ w.heap.size + 1 := by omega
      have hbne' : w.heap.size + 1 ≠ w1.heap.size := by omega
      go_wp2_with fail
      refine bodyPost_ret (v := .agg #[.slice ad1 cells.length cap1, .slice ad2 T.length cap2]) (by simp [results, Try.results44, go_sem, *]) rfl ?_
      have hT2 : Turn (w.heap.size + 1) (w.heap.size + 2) wr ((wr.setCell ⟨w.heap.size + 1, 0, none⟩ (.slice ad1 cells.length cap1)).setCell ⟨w.heap.size + 1, 1, none⟩ (.slice ad2 T.length cap2)) := ((Turn.refl _ _ _).setCell _ (.inl (by simp))).setCell _ (.inl (by simp))
      exact ⟨⟨.slice ad1 cells.length cap1, cells, .slice ad2 T.length cap2, A⟩, rfl, by simp only [Mm.d, HD.out], ((HM.out.far hT2 (.inr (by omega))).lo (by omega)).hi (by simp), (hbw.setCell (by go_size) _).setCell (by go_size) _⟩
end Go.Proofs.Ytdplpkobpoiioaa
