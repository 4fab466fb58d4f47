/- One pick in memory that is owned: the program's step. -/
import Derived.Test.YtdplpkobpoiioaaPickD
import Derived.Deep.RegionHeld3


namespace Go.Proofs.Ytdplpkobpoiioaa
open Go.RowKit
set_option linter.unusedSimpArgs false
set_option linter.unusedVariables false

theorem tv_at (T : List Th) (i : Nat) (hi : i < T.length) (x : Th) : (T.set i x)[i]'(by simpa using hi) = x := by simp
theorem tv_pos (T : List Th) (i : Nat) (hi : i < T.length) (x : Th) (p : Int) : (tv (T.set i x)).set (i * 4 + 1) (.int .i64 p) = tv (T.set i ⟨x.sv, x.st, p, x.seen, x.won⟩) := by
  have h := flat_set Th.cs 4 tcs_len (T.set i x) i (by simpa using hi) 1 (by decide) (.int .i64 p) ⟨x.sv, x.st, p, x.seen, x.won⟩ (by rw [tv_at T i hi]; rfl)
  rw [List.set_set] at h; exact h
theorem tv_seen (T : List Th) (i : Nat) (hi : i < T.length) (x : Th) (p : Int) : (tv (T.set i x)).set (i * 4 + 2) (.int .i64 p) = tv (T.set i ⟨x.sv, x.st, x.pos, p, x.won⟩) := by
  have h := flat_set Th.cs 4 tcs_len (T.set i x) i (by simpa using hi) 2 (by decide) (.int .i64 p) ⟨x.sv, x.st, x.pos, p, x.won⟩ (by rw [tv_at T i hi]; rfl)
  rw [List.set_set] at h; exact h
theorem tv_won (T : List Th) (i : Nat) (hi : i < T.length) (x : Th) (p : Int) : (tv (T.set i x)).set (i * 4 + 3) (.int .i64 p) = tv (T.set i ⟨x.sv, x.st, x.pos, x.seen, p⟩) := by
  have h := flat_set Th.cs 4 tcs_len (T.set i x) i (by simpa using hi) 3 (by decide) (.int .i64 p) ⟨x.sv, x.st, x.pos, x.seen, p⟩ (by rw [tv_at T i hi]; rfl)
  rw [List.set_set] at h; exact h
theorem iv_set (C : List Int) (c : Nat) (v : Int) : (iv C).set c (.int .i64 v) = iv (C.set c v) := by simp [iv, List.map_set]

/-- The Memory in which Thread i holds p, s, n now, and the Cells C'. -/
def Mm.upd (m : Mm) (C' : List Int) (i : Nat) (p s n : Int) : Mm := ⟨m.cv, C', m.tv, m.ths.set i ⟨(m.ths.getD i ⟨.bool false, [], 0, 0, 0⟩).sv, (m.ths.getD i ⟨.bool false, [], 0, 0, 0⟩).st, p, s, n⟩⟩

theorem OwnM.upd {w w' : World} {lo hi : Nat} {m : Mm} (h : OwnM w lo hi m) {C' : List Int} {i : Nat} {p s n : Int} (hi' : i < m.ths.length) (hl : C'.length = m.cells.length)
    (hc : w'.ownsRow lo 2 1 m.cv m.cells.length (iv C')) (ht : w'.ownsRow lo 41 4 m.tv m.ths.length (tv (m.ths.set i ⟨m.ths[i].sv, m.ths[i].st, p, s, n⟩)))
    (ho : ∀ b, b < w.heap.size → m.cv.ownBlock ≠ some b → m.tv.ownBlock ≠ some b → w'.heap[b]? = w.heap[b]?) : OwnM w' lo hi (m.upd C' i p s n) := by
  have hg : m.ths.getD i ⟨.bool false, [], 0, 0, 0⟩ = m.ths[i] := getD_get _ _ _ hi'
  unfold Mm.upd
  rw [hg]
  have hsv : (m.ths.set i ⟨m.ths[i].sv, m.ths[i].st, p, s, n⟩).map Th.sv = m.ths.map Th.sv := by
    rw [List.map_set]
    have : (m.ths.map Th.sv)[i]'(by simpa using hi') = m.ths[i].sv := by simp
    rw [← this, List.set_getElem_self]
  refine ⟨by simp only [hl]; exact hc, ⟨by simpa using ht, fun t hm => ?_, by simp only [hsv]; exact h.ths.apart, by simp only [hsv]; exact h.ths.up⟩, by simp only [hsv]; exact h.apart, h.up⟩
  have hold : ∃ t0 ∈ m.ths, t0.sv = t.sv ∧ t0.st = t.st := by
    rcases List.mem_or_eq_of_mem_set hm with h1 | rfl
    · exact ⟨t, h1, rfl, rfl⟩
    · exact ⟨m.ths[i], List.getElem_mem hi', rfl, rfl⟩
  obtain ⟨t0, hm0, e1, e2⟩ := hold
  rw [← e1, ← e2]
  have hne1 := h.apart t0.sv (List.mem_cons_of_mem _ (List.mem_map_of_mem hm0))
  have hne2 := (ap_self h.ths.apart).1 t0 hm0
  exact owns_kept (h.ths.st t0 hm0) fun k hk hlt => ho k hlt (fun e => hne1 k e hk) (fun e => hne2 k e hk)


set_option maxHeartbeats 2000000 in
/-- t.do(s, cells), where t is Thread i of the Memory m. -/
theorem doThread (m : Mm) (lo hi : Nat) (i : Nat) (hi' : i < m.ths.length) (s : St) (g capT : Nat) (w : World) (ho : OwnM w lo hi m) (hhi : hi ≤ w.heap.size) (hC : m.cells.length = 4) (hs : okSt s = true) (hcb : ∀ c ∈ m.cells, 0 ≤ c ∧ c ≤ 1000000)
    (htv : m.tv = .slice (some ⟨g, 0, none⟩) m.ths.length capT) (hw : 0 ≤ m.ths[i].won ∧ m.ths[i].won ≤ 1000000) (hn : 0 ≤ m.ths[i].seen ∧ m.ths[i].seen ≤ 1000000) (hp : 0 ≤ m.ths[i].pos ∧ m.ths[i].pos ≤ 20) :
    Calls Try.prog 60 #[.pointer (some ⟨g, i * 4, none⟩), .agg #[.int .i64 s.k, .int .i64 s.c, .int .i64 s.a], m.cv] w fun x w' =>
      (match act m.cells s m.ths[i].pos m.ths[i].seen m.ths[i].won with
        | none => x = .returned (.bool false) ∧ OwnM w' lo hi m
        | some r => x = .returned (.bool true) ∧ OwnM w' lo hi (m.upd r.1 i r.2.1 r.2.2.1 r.2.2.2)) ∧ Turn lo hi w w' := by
  have hok : (1 ≤ s.k ∧ s.k ≤ 3) ∧ (0 ≤ s.c ∧ s.c ≤ 3) ∧ 0 ≤ s.a ∧ s.a ≤ 100 := by
    simp only [okSt, rng, Bool.and_eq_true, decide_eq_true_eq] at hs; omega
  obtain ⟨k, c, a⟩ := s
  obtain ⟨⟨hk1, hk3⟩, ⟨hc0, hc3⟩, ha0, ha1⟩ := hok
  simp only at hk1 hk3 hc0 hc3 ha0 ha1 ⊢
  obtain ⟨c, rfl⟩ := Int.eq_ofNat_of_zero_le hc0
  have hcl : c < m.cells.length := by omega
  obtain ⟨gc, capC, ecv, ecb, elo, elt, _, ecap, ecell, efr⟩ := owns_open ho.cel (by omega)
  obtain ⟨g', capT', etv, etb, glo, glt, _, gcap, gcell, gfr⟩ := owns_open ho.ths.row (by omega)
  rw [htv] at etv etb
  simp only [Value.slice.injEq, Option.some.injEq, Addr.mk.injEq] at etv
  obtain ⟨⟨rfl, _, _⟩, _, rfl⟩ := etv
  have hap : gc ≠ g := fun e => ho.apart m.tv List.mem_cons_self gc ecb (by rw [htv, e]; rfl)
  have hap' : g ≠ gc := fun e => hap e.symm
  have ugc : gc < hi := ho.up gc ecb
  have ug : g < hi := ho.ths.up m.tv List.mem_cons_self g (by rw [htv]; rfl)
  obtain ⟨s0, s1, s2, s3⟩ := tv_get m.ths i hi'
  have t1 := gcell _ _ s1; have t2 := gcell _ _ s2; have t3 := gcell _ _ s3
  have cc := ecell c _ (iv_get m.cells c hcl)
  have f1 := gfr (i * 4 + 1); have f2 := gfr (i * 4 + 2); have f3 := gfr (i * 4 + 3); have fc := efr c
  have hgd : m.cells.getD c 0 = m.cells[c] := getD_get _ _ _ hcl
  have hcv := hcb _ (List.getElem_mem hcl)
  have HO := hide ho; have HTV := hide htv; have HCV := hide ecv; have HCB := hide ecb
  have HTW : Hid (tv m.ths = tv (m.ths.set i m.ths[i])) := by show _ = _; rw [List.set_getElem_self]
  have HGD := hide hgd
  clear ho htv s0 s1 s2 s3 gcell ecell gfr efr hgd hs hcb ecb etb
  rw [ecv]
  clear ecv
  obtain ⟨x, hx⟩ : ∃ x, x = m.ths[i] := ⟨_, rfl⟩
  obtain ⟨y, hy⟩ : ∃ y, y = m.cells[c] := ⟨_, rfl⟩
  rw [← hx] at t1 t2 t3 hw hn hp HTW ⊢
  rw [← hy] at cc hcv HGD
  have HX := hide hx; have HY := hide hy; have HC := hide hC
  have CELL0 : Hid (∀ w' : World, (∀ b, b < w.heap.size → m.tv.ownBlock ≠ some b → w'.heap[b]? = w.heap[b]?) → w'.ownsRow lo 2 1 m.cv m.cells.length (iv m.cells)) := fun w' h => owns_kept HO.out.cel fun b hb hlt => h b hlt (by
    rw [HCB.out] at hb; cases hb; rw [HTV.out]; exact fun e => hap (by simpa [Value.ownBlock] using e.symm))
  clear hx hy hC
  obtain ⟨sv0, st, p, n, wn⟩ := x
  simp only at t1 t2 t3 hw hn hp HTW ⊢
  simp only [act, Int.toNat_natCast, HGD.out]
  have DONE : Hid (∀ (w' : World) (C' : List Int) (p' n' wn' : Int), C'.length = m.cells.length → w'.ownsRow lo 2 1 m.cv m.cells.length (iv C') → w'.ownsRow lo 41 4 m.tv m.ths.length (tv (m.ths.set i ⟨sv0, st, p', n', wn'⟩)) →
      (∀ b, b < w.heap.size → m.cv.ownBlock ≠ some b → m.tv.ownBlock ≠ some b → w'.heap[b]? = w.heap[b]?) → OwnM w' lo hi (m.upd C' i p' n' wn')) := fun w' C' p' n' wn' h1 h2 h3 h4 =>
    OwnM.upd HO.out hi' h1 h2 (by rw [← HX.out]; exact h3) h4
  have OG : Hid (∀ b, m.tv.ownBlock ≠ some b → b ≠ g) := fun b h e => h (by rw [HTV.out, e]; rfl)
  have OC : Hid (∀ b, m.cv.ownBlock ≠ some b → b ≠ gc) := fun b h e => h (by rw [HCB.out, e])
  have hTG : lo ≤ g ∧ g < hi := ⟨glo, ug⟩
  have hTC : lo ≤ gc ∧ gc < hi := ⟨elo, ugc⟩
  have NE1 : Hid (m.cv.ownBlock ≠ some g) := by show _ ≠ _; rw [HCB.out]; simp; exact hap
  have TB : Hid (m.tv.ownBlock = some g) := by show _ = _; rw [HTV.out]; rfl
  have NE2 : Hid (m.tv.ownBlock ≠ some gc) := by show _ ≠ _; rw [TB.out]; simp; exact hap'
  have FIN3 : Hid (∀ (V : World) (v p' wn' : Int), Below w.heap.size w V → OwnM (((V.setCell ⟨gc, c, none⟩ (.int .i64 v)).setCell ⟨g, i * 4 + 3, none⟩ (.int .i64 wn')).setCell ⟨g, i * 4 + 1, none⟩ (.int .i64 p')) lo hi (m.upd (m.cells.set c v) i p' n wn') ∧
      Turn lo hi w (((V.setCell ⟨gc, c, none⟩ (.int .i64 v)).setCell ⟨g, i * 4 + 3, none⟩ (.int .i64 wn')).setCell ⟨g, i * 4 + 1, none⟩ (.int .i64 p'))) := fun V v p' wn' hV => by
    refine ⟨DONE.out _ _ _ _ _ (by simp) ?_ ?_ ?_, (((turn_new hV lo hi).setCell _ (.inl hTC)).setCell _ (.inl hTG)).setCell _ (.inl hTG)⟩
    · rw [← iv_set]
      exact owns_apart (owns_apart (owns_set (g := gc) (owns_new HO.out.cel hV) HCB.out c _) _ _ NE1.out) _ _ NE1.out
    · have h := owns_set (g := g) (owns_set (g := g) (owns_apart (owns_new HO.out.ths.row hV) ⟨gc, c, none⟩ (.int .i64 v) NE2.out) TB.out (i * 4 + 3) (.int .i64 wn')) TB.out (i * 4 + 1) (.int .i64 p')
      rw [HTW.out, tv_won _ _ hi', tv_pos _ _ hi'] at h
      exact h
    · intro b hb h' h
      rw [Below.heap_setCell _ _ _ b (OG.out b h), Below.heap_setCell _ _ _ b (OG.out b h), Below.heap_setCell _ _ _ b (OC.out b h')]
      exact hV.block b hb
  have FIN1 : Hid (∀ (V : World) (p' : Int), Below w.heap.size w V → OwnM (V.setCell ⟨g, i * 4 + 1, none⟩ (.int .i64 p')) lo hi (m.upd m.cells i p' n wn) ∧ Turn lo hi w (V.setCell ⟨g, i * 4 + 1, none⟩ (.int .i64 p'))) := fun V p' hV => by
    refine ⟨DONE.out _ _ _ _ _ rfl ?_ ?_ ?_, (turn_new hV lo hi).setCell _ (.inl hTG)⟩
    · exact owns_apart (owns_new HO.out.cel hV) _ _ NE1.out
    · have h := owns_set (g := g) (owns_new HO.out.ths.row hV) TB.out (i * 4 + 1) (.int .i64 p')
      rw [HTW.out, tv_pos _ _ hi'] at h
      exact h
    · intro b hb h' h
      rw [Below.heap_setCell _ _ _ b (OG.out b h)]
      exact hV.block b hb
  obtain ⟨hw0, hw1⟩ := hw
  obtain ⟨hn0, hn1⟩ := hn
  obtain ⟨hp0, hp1⟩ := hp
  have hz1 : gc ≠ w.heap.size := by omega
  have hz2 : w.heap.size ≠ gc := by omega
  have hz3 : g ≠ w.heap.size := by omega
  have hz4 : w.heap.size ≠ g := by omega
  by_cases h1 : k = 1
  · subst h1
    go_enter Try.func60, Try.ntmps60
    go_wp2_with fail
    go_ret
    refine ⟨⟨rfl, DONE.out _ _ _ _ _ rfl (CELL0.out _ ?_) ?_ ?_⟩, ?_⟩
    · intro b hb h
      rw [((Below.refl _ _).alloc (Nat.le_refl _) _).block b (by simpa using hb), Below.heap_setCell _ _ _ b (OG.out b h), Below.heap_setCell _ _ _ b (OG.out b h)]
    · have h := (owns_set (g := g) (owns_set (g := g) HO.out.ths.row (by rw [HTV.out]; rfl) (i * 4 + 2) (.int .i64 y)) (by rw [HTV.out]; rfl) (i * 4 + 1) (.int .i64 (p + 1))).alloc (.cells #[.int .i64 1, .int .i64 c, .int .i64 a] 44)
      rw [HTW.out, tv_seen _ _ hi', tv_pos _ _ hi'] at h
      exact h
    · intro b hb h' h
      rw [((Below.refl _ _).alloc (Nat.le_refl _) _).block b (by simpa using hb), Below.heap_setCell _ _ _ b (OG.out b h), Below.heap_setCell _ _ _ b (OG.out b h)]
    · exact (((Turn.refl _ _ _).setCell _ (.inl hTG)).setCell _ (.inl hTG)).alloc _
  · by_cases h2 : k = 2
    · subst h2
      by_cases hbig : n + a > 1000000
      · have hbig' : decide (1000000 < n + a) = true := by simpa using hbig
        have hwz : decide (1000000 < wn) = false := by simp; omega
        simp only [if_pos hbig]
        go_enter Try.func60, Try.ntmps60
        go_wp2_with fail
        go_quiet (fail)
        go_wp2_with fail
        go_ret
        exact ⟨⟨rfl, HO.out.new ((by repeat' (first | (with_reducible exact Below.refl _ _) | (with_reducible refine Below.drew ?_) | (with_reducible refine bo_drewN _ ?_) | (with_reducible refine bo_alloc ?_ _) | (refine bchain ?_ (by with_reducible assumption)) | (with_reducible refine Below.setCell ?_ ?_ _) | go_size)))⟩, turn_new ((by repeat' (first | (with_reducible exact Below.refl _ _) | (with_reducible refine Below.drew ?_) | (with_reducible refine bo_drewN _ ?_) | (with_reducible refine bo_alloc ?_ _) | (refine bchain ?_ (by with_reducible assumption)) | (with_reducible refine Below.setCell ?_ ?_ _) | go_size))) _ _⟩
      · have hbig' : decide (1000000 < n + a) = false := by simpa using hbig
        have hwz : decide (1000000 < wn) = false := by simp; omega
        simp only [if_neg hbig]
        go_enter Try.func60, Try.ntmps60
        go_wp2_with fail
        go_quiet (fail)
        go_wp2_with fail
        go_region_held3 (fun w' => w'.cell? ⟨g, i * 4 + 2, none⟩ = some (.int .i64 n) ∧ w'.cell? ⟨w.heap.size, 1, none⟩ = some (.int .i64 c) ∧ w'.cell? ⟨w.heap.size, 2, none⟩ = some (.int .i64 a)) (first | go_keep | (simp [*, go_sem]; done)) (fail)
        go_wp2_with fail
        go_ret
        exact ⟨⟨rfl, (FIN3.out _ (n + a) (p + 1) wn ((by repeat' (first | (with_reducible exact Below.refl _ _) | (with_reducible refine Below.drew ?_) | (with_reducible refine bo_drewN _ ?_) | (with_reducible refine bo_alloc ?_ _) | (refine bchain ?_ (by with_reducible assumption)) | (with_reducible refine Below.setCell ?_ ?_ _) | go_size)))).1⟩, (FIN3.out _ (n + a) (p + 1) wn ((by repeat' (first | (with_reducible exact Below.refl _ _) | (with_reducible refine Below.drew ?_) | (with_reducible refine bo_drewN _ ?_) | (with_reducible refine bo_alloc ?_ _) | (refine bchain ?_ (by with_reducible assumption)) | (with_reducible refine Below.setCell ?_ ?_ _) | go_size)))).2⟩
    · obtain rfl : k = 3 := by omega
      by_cases hyn : y = n
      · have hyn' : (y != n) = false := by rw [hyn]; simp
        by_cases hbig : n + a > 1000000 ∨ wn = 1000000
        · simp only [if_pos hyn, if_pos hbig]
          by_cases hwz : wn = 1000000
          · have hwz' : decide (1000000 < wn + 1) = true := by simp; omega
            go_enter Try.func60, Try.ntmps60
            go_wp2_with fail
            go_quiet (fail)
            go_wp2_with fail
            go_quiet (fail)
            go_wp2_with fail
            go_ret
            exact ⟨⟨rfl, HO.out.new ((by repeat' (first | (with_reducible exact Below.refl _ _) | (with_reducible refine Below.drew ?_) | (with_reducible refine bo_drewN _ ?_) | (with_reducible refine bo_alloc ?_ _) | (refine bchain ?_ (by with_reducible assumption)) | (with_reducible refine Below.setCell ?_ ?_ _) | go_size)))⟩, turn_new ((by repeat' (first | (with_reducible exact Below.refl _ _) | (with_reducible refine Below.drew ?_) | (with_reducible refine bo_drewN _ ?_) | (with_reducible refine bo_alloc ?_ _) | (refine bchain ?_ (by with_reducible assumption)) | (with_reducible refine Below.setCell ?_ ?_ _) | go_size))) _ _⟩
          · have hwz' : decide (1000000 < wn + 1) = false := by simp; omega
            have hbig' : decide (1000000 < n + a) = true := by simp; omega
            go_enter Try.func60, Try.ntmps60
            go_wp2_with fail
            go_quiet (fail)
            go_wp2_with fail
            go_quiet (fail)
            go_wp2_with fail
            go_ret
            exact ⟨⟨rfl, HO.out.new ((by repeat' (first | (with_reducible exact Below.refl _ _) | (with_reducible refine Below.drew ?_) | (with_reducible refine bo_drewN _ ?_) | (with_reducible refine bo_alloc ?_ _) | (refine bchain ?_ (by with_reducible assumption)) | (with_reducible refine Below.setCell ?_ ?_ _) | go_size)))⟩, turn_new ((by repeat' (first | (with_reducible exact Below.refl _ _) | (with_reducible refine Below.drew ?_) | (with_reducible refine bo_drewN _ ?_) | (with_reducible refine bo_alloc ?_ _) | (refine bchain ?_ (by with_reducible assumption)) | (with_reducible refine Below.setCell ?_ ?_ _) | go_size))) _ _⟩
        · simp only [if_pos hyn, if_neg hbig]
          have hwz' : decide (1000000 < wn + 1) = false := by simp; omega
          have hbig' : decide (1000000 < n + a) = false := by simp; omega
          have hna : n + a ≤ 1000000 := by omega
          have hwa : wn + 1 ≤ 1000000 := by omega
          clear hbig
          go_enter Try.func60, Try.ntmps60
          go_wp2_with fail
          go_quiet (fail)
          go_wp2_with fail
          go_quiet (fail)
          go_wp2_with fail
          go_region_held3 (fun w' => w'.cell? ⟨g, i * 4 + 2, none⟩ = some (.int .i64 n) ∧ w'.cell? ⟨w.heap.size, 1, none⟩ = some (.int .i64 c) ∧ w'.cell? ⟨w.heap.size, 2, none⟩ = some (.int .i64 a)) (first | go_keep | (simp [*, go_sem]; done)) (fail)
          go_wp2_with fail
          go_ret
          exact ⟨⟨rfl, (FIN3.out _ (n + a) (p + 1) (wn + 1) ((by repeat' (first | (with_reducible exact Below.refl _ _) | (with_reducible refine Below.drew ?_) | (with_reducible refine bo_drewN _ ?_) | (with_reducible refine bo_alloc ?_ _) | (refine bchain ?_ (by with_reducible assumption)) | (with_reducible refine Below.setCell ?_ ?_ _) | go_size)))).1⟩, (FIN3.out _ (n + a) (p + 1) (wn + 1) ((by repeat' (first | (with_reducible exact Below.refl _ _) | (with_reducible refine Below.drew ?_) | (with_reducible refine bo_drewN _ ?_) | (with_reducible refine bo_alloc ?_ _) | (refine bchain ?_ (by with_reducible assumption)) | (with_reducible refine Below.setCell ?_ ?_ _) | go_size)))).2⟩
      · have hyn' : (y != n) = true := by simpa using hyn
        simp only [if_neg hyn]
        go_enter Try.func60, Try.ntmps60
        go_wp2_with fail
        go_quiet (fail)
        go_wp2_with fail
        go_ret
        exact ⟨⟨rfl, (FIN1.out _ (p + 1) ((by repeat' (first | (with_reducible exact Below.refl _ _) | (with_reducible refine Below.drew ?_) | (with_reducible refine bo_drewN _ ?_) | (with_reducible refine bo_alloc ?_ _) | (refine bchain ?_ (by with_reducible assumption)) | (with_reducible refine Below.setCell ?_ ?_ _) | go_size)))).1⟩, (FIN1.out _ (p + 1) ((by repeat' (first | (with_reducible exact Below.refl _ _) | (with_reducible refine Below.drew ?_) | (with_reducible refine bo_drewN _ ?_) | (with_reducible refine bo_alloc ?_ _) | (refine bchain ?_ (by with_reducible assumption)) | (with_reducible refine Below.setCell ?_ ?_ _) | go_size)))).2⟩
end Go.Proofs.Ytdplpkobpoiioaa
