/- A Memory copied apart by the program: every list of it in new memory. -/
import Derived.Test.YtdplpkobpoiioaaPick2
import Derived.Test.YtdplpkobpoiioaaAppRows
import Derived.Deep.DeepCutAuto


namespace Go.Proofs.Ytdplpkobpoiioaa
open Go.RowKit
set_option linter.unusedSimpArgs false
set_option linter.unusedVariables false

theorem one_iv (L : List Int) : ∀ u ∈ iv L, u.oneCell' = true := fun u hu => by
  obtain ⟨z, _, rfl⟩ := List.mem_map.1 hu; rfl
theorem one_sv (L : List St) : ∀ u ∈ sv L, u.oneCell' = true := fun u hu => by
  obtain ⟨s, _, h⟩ := List.mem_flatMap.1 hu
  simp only [St.cs, List.mem_cons, List.not_mem_nil, or_false] at h
  rcases h with rfl | rfl | rfl <;> rfl
theorem one_tv {w : World} {v : Value} {T : List Th} (h : ReadTs w v T) : ∀ u ∈ tv T, u.oneCell' = true := fun u hu => by
  obtain ⟨t, ht, h'⟩ := List.mem_flatMap.1 hu
  simp only [Th.cs, List.mem_cons, List.not_mem_nil, or_false] at h'
  rcases h' with rfl | rfl | rfl | rfl
  · obtain ⟨ad, cap, e, _⟩ := (h.st t ht).2; rw [e]; rfl
  · rfl
  · rfl
  · rfl

theorem tv_sv (A R : List Th) (r : Th) (v : Value) : (tv (A ++ r :: R)).set (A.length * 4) v = tv ((A ++ [⟨v, r.st, r.pos, r.seen, r.won⟩]) ++ R) := by
  have h := flat_set Th.cs 4 tcs_len (A ++ r :: R) A.length (by simp) 0 (by decide) v ⟨v, r.st, r.pos, r.seen, r.won⟩ (by simp [Th.cs])
  rw [Nat.add_zero] at h
  unfold tv
  rw [h]
  simp
theorem sv_d {A R T : List Th} {r : Th} (v : Value) (h : (A ++ r :: R).map Th.d = T.map Th.d) : ((A ++ [Th.mk v r.st r.pos r.seen r.won]) ++ R).map Th.d = T.map Th.d := by
  rw [← h]; simp [Th.d]

set_option maxHeartbeats 4000000 in
theorem apartM (cv tv0 : Value) (cells : List Int) (T : List Th) (w : World) (hr : ReadM w ⟨cv, cells, tv0, T⟩) (hok : okM ⟨cells, T.map Th.d⟩ = true) :
    Calls Try.prog 38 #[.agg #[cv, tv0]] w fun x w' => ∃ m' : Mm, x = .returned (.agg #[m'.cv, m'.tv]) ∧ m'.d = ⟨cells, T.map Th.d⟩ ∧ OwnM w' w.heap.size w'.heap.size m' ∧ Below w.heap.size w w' := by
  obtain ⟨hl4, hl6⟩ := okM_len hok
  have hl20 : ∀ t ∈ T, t.st.length ≤ 20 := fun t ht => by
    have := (okTh_rng ((okM_parts hok).2.2.2 _ (List.mem_map_of_mem ht))).2.2.2.2.2.2.1
    exact Int.ofNat_le.1 this
  obtain ⟨ad, cap, hcv, _⟩ := hr.cel.2
  obtain ⟨ad', cap', htv, h2'⟩ := hr.ths.row.2
  simp only at hcv htv
  subst hcv htv
  have H1 := hide (one_iv cells); have H2 := hide (one_tv hr.ths)
  have HR := hide hr; have HOK := hide hok; have H20 := hide hl20
  clear hr hok hl20
  go_enter Try.func38, Try.ntmps38
  go_wp2_with fail
  have k0 : ((w.alloc (.cells #[.slice ad cells.length cap, .slice ad' T.length cap'] 27)).alloc (.cells #[.slice none 0 0, .slice none 0 0] 27)).cell? ⟨w.heap.size, 0, none⟩ = some (.slice ad cells.length cap) := by simp
  have k1 : ((w.alloc (.cells #[.slice ad cells.length cap, .slice ad' T.length cap'] 27)).alloc (.cells #[.slice none 0 0, .slice none 0 0] 27)).cell? ⟨w.heap.size, 1, none⟩ = some (.slice ad' T.length cap') := by simp
  have hB0 : Below w.heap.size w ((w.alloc (.cells #[.slice ad cells.length cap, .slice ad' T.length cap'] 27)).alloc (.cells #[.slice none 0 0, .slice none 0 0] 27)) := (by repeat' (first | (with_reducible exact Below.refl _ _) | (with_reducible refine Below.drew ?_) | (with_reducible refine bo_drewN _ ?_) | (with_reducible refine bo_alloc ?_ _) | (refine bchain ?_ (by with_reducible assumption)) | (with_reducible refine Below.setCell ?_ ?_ _) | go_size))
  have hS0 : ((w.alloc (.cells #[.slice ad cells.length cap, .slice ad' T.length cap'] 27)).alloc (.cells #[.slice none 0 0, .slice none 0 0] 27)).heap.size = w.heap.size + 2 := by simp
  have r0 : ((w.alloc (.cells #[.slice ad cells.length cap, .slice ad' T.length cap'] 27)).alloc (.cells #[.slice none 0 0, .slice none 0 0] 27)).cell? ⟨w.heap.size + 1, 0, none⟩ = some (.slice none 0 0) := by simp
  have r1 : ((w.alloc (.cells #[.slice ad cells.length cap, .slice ad' T.length cap'] 27)).alloc (.cells #[.slice none 0 0, .slice none 0 0] 27)).cell? ⟨w.heap.size + 1, 1, none⟩ = some (.slice none 0 0) := by simp
  have r2 : ((w.alloc (.cells #[.slice ad cells.length cap, .slice ad' T.length cap'] 27)).alloc (.cells #[.slice none 0 0, .slice none 0 0] 27)).frozen? ⟨w.heap.size + 1, 0, none⟩ = false := by simp
  have r3 : ((w.alloc (.cells #[.slice ad cells.length cap, .slice ad' T.length cap'] 27)).alloc (.cells #[.slice none 0 0, .slice none 0 0] 27)).frozen? ⟨w.heap.size + 1, 1, none⟩ = false := by simp
  obtain ⟨W0, hW0⟩ : ∃ W0, W0 = ((w.alloc (.cells #[.slice ad cells.length cap, .slice ad' T.length cap'] 27)).alloc (.cells #[.slice none 0 0, .slice none 0 0] 27)) := ⟨_, rfl⟩
  rw [← hW0] at k0 k1 hB0 hS0 r0 r1 r2 r3 ⊢
  have RR := hide (And.intro r0 (And.intro r1 (And.intro r2 r3)))
  clear r0 r1 r2 r3
  clear hW0
  go_cut [3] (fun x wx => ∃ (bx : Nat) (ad1 ad2 : Option Addr) (cap1 cap2 : Nat), x = .pointer (some ⟨bx, 0, none⟩) ∧ wx.cell? ⟨bx, 0, none⟩ = some (.slice ad1 cells.length cap1) ∧ wx.cell? ⟨bx, 1, none⟩ = some (.slice ad2 T.length cap2) ∧
    wx.ownsRow (w.heap.size + 2) 2 1 (.slice ad1 cells.length cap1) cells.length (iv cells) ∧ wx.ownsRow (w.heap.size + 2) 41 4 (.slice ad2 T.length cap2) T.length (tv T) ∧ Ap (.slice ad1 cells.length cap1) (.slice ad2 T.length cap2) ∧
    (∀ k, (Value.slice ad1 cells.length cap1).ownBlock = some k → k ≠ bx) ∧ (∀ k, (Value.slice ad2 T.length cap2).ownBlock = some k → k ≠ bx) ∧ w.heap.size + 2 ≤ bx ∧ bx < wx.heap.size ∧ Below (w.heap.size + 2) W0 wx)
  case first =>
    go_region_held3 (fun w' => w'.cell? ⟨w.heap.size, 0, none⟩ = some (.slice ad cells.length cap) ∧ w'.cell? ⟨w.heap.size, 1, none⟩ = some (.slice ad' T.length cap')) (first | go_keep | (simp [*, go_sem]; done))
      (first
        | (refine step_app _ (by rfl) _ _ 24 (by rfl) 2 (.int .i64 0) 1 8 Try.underlying24 (by kernel_rfl) rfl (by decide) _ _ 0 [] (by rfl) (World.ownsRow_nil _ _ _ _) _ cells.length (iv cells) (by rfl) (HR.out.cel.new ((by repeat' (first | (with_reducible exact Below.refl _ _) | (with_reducible refine Below.drew ?_) | (with_reducible refine bo_drewN _ ?_) | (with_reducible refine bo_alloc ?_ _) | (refine bchain ?_ (by with_reducible assumption)) | (with_reducible refine Below.setCell ?_ ?_ _) | go_size)))) H1.out (by omega) (by decide) (Nat.le_refl _) ?_; intro ad1 cap1 w1 hown1 hgrow1 hat1; clear hat1; have hb1 := below_grown hgrow1; have hs1 := hb1.size; (try simp at hs1); have lc1 := fun o => hb1.cell (p := ⟨w.heap.size, o, none⟩) (by first | (simp; done) | (simp; omega) | omega); obtain ⟨la1, lb1⟩ := bcell hb1; (try simp at la1 lb1); have hl1 : w.heap.size < w1.heap.size := (by omega); have hn1 : w.heap.size ≠ w1.heap.size := (by omega); have hm1 : w1.heap.size ≠ w.heap.size := (by omega); (try (have hq1 : w.heap.size + 2 < w1.heap.size := ?hh; case hh => omega)))
        | (refine step_app _ (by rfl) _ _ 25 (by rfl) 41 (.agg #[.slice none 0 0, .int .i64 0, .int .i64 0, .int .i64 0]) 4 48 Try.underlying25 (by kernel_rfl) rfl (by decide) _ _ 0 [] (by rfl) (World.ownsRow_nil _ _ _ _) _ T.length (tv T) (by rfl) (HR.out.ths.row.new ((by repeat' (first | (with_reducible exact Below.refl _ _) | (with_reducible refine Below.drew ?_) | (with_reducible refine bo_drewN _ ?_) | (with_reducible refine bo_alloc ?_ _) | (refine bchain ?_ (by with_reducible assumption)) | (with_reducible refine Below.setCell ?_ ?_ _) | go_size)))) H2.out (by omega) (by decide) (Nat.le_refl _) ?_; intro ad2 cap2 w2 hown2 hgrow2 hat2; clear hat2; have hb2 := below_grown hgrow2; have hs2 := hb2.size; (try simp at hs2); have lc2 := fun o => hb2.cell (p := ⟨w.heap.size, o, none⟩) (by first | (simp; done) | (simp; omega) | omega); obtain ⟨la2, lb2⟩ := bcell hb2; (try simp at la2 lb2); have hl2 : w.heap.size < w2.heap.size := (by omega); have hn2 : w.heap.size ≠ w2.heap.size := (by omega); have hm2 : w2.heap.size ≠ w.heap.size := (by omega); (try (have hq2 : w.heap.size + 2 < w2.heap.size := ?hh; case hh => omega))))
    all_goals
      go_wp2_with fail
      go_meet
    · have hu1 : ∀ k, (Value.slice ad1 cells.length cap1).ownBlock = some k → w.heap.size + 2 ≤ k ∧ k < w1.heap.size := fun k hk => by have := hown1.lt k (by simpa using hk); (try simp at this); omega
      have hu2 : ∀ k, (Value.slice ad2 T.length cap2).ownBlock = some k → w1.heap.size ≤ k ∧ k < w2.heap.size := fun k hk => by have := hown2.lt k (by simpa using hk); (try simp at this); omega
      simp only [Nat.zero_add, List.nil_append] at hown1 hown2
      have hr1 : w2.ownsRow (w.heap.size + 2) 2 1 (.slice ad1 cells.length cap1) cells.length (iv cells) := owns_base (owns_new hown1 (show Below w1.heap.size w1 w2 from (by repeat' (first | (with_reducible exact Below.refl _ _) | (with_reducible refine Below.drew ?_) | (with_reducible refine bo_drewN _ ?_) | (with_reducible refine bo_alloc ?_ _) | (refine bchain ?_ (by with_reducible assumption)) | (with_reducible refine Below.setCell ?_ ?_ _) | go_size)))) fun k hk => by have := hu1 k hk; omega
      have hr2 : w2.ownsRow (w.heap.size + 2) 41 4 (.slice ad2 T.length cap2) T.length (tv T) := owns_base hown2 fun k hk => by have := hu2 k hk; omega
      have hBB : Below W0.heap.size W0 (w2.alloc (.cells #[(Value.slice ad1 cells.length cap1), (Value.slice ad2 T.length cap2)] 27)) := (by repeat' (first | (with_reducible exact Below.refl _ _) | (with_reducible refine Below.drew ?_) | (with_reducible refine bo_drewN _ ?_) | (with_reducible refine bo_alloc ?_ _) | (refine bchain ?_ (by with_reducible assumption)) | (with_reducible refine Below.setCell ?_ ?_ _) | go_size))
      refine ⟨w2.heap.size, ad1, ad2, cap1, cap2, rfl, ?_, ?_, ?_, ?_, ?_, ?_, ?_, ?_, ?_, ?_⟩
      · simp
      · simp
      · exact hr1.alloc _
      · exact hr2.alloc _
      · intro k h1 h2; have := hu1 k h1; have := hu2 k h2; omega
      · intro k h1; have := hu1 k h1; omega
      · intro k h2; have := hu2 k h2; omega
      · omega
      · simp; try omega
      · rw [hS0] at hBB; exact hBB
    · have hu1 : ∀ k, (Value.slice ad1 cells.length cap1).ownBlock = some k → w.heap.size + 2 ≤ k ∧ k < w1.heap.size := fun k hk => by have := hown1.lt k (by simpa using hk); (try simp at this); omega
      have hu2 : ∀ k, (Value.slice ad2 T.length cap2).ownBlock = some k → w1.heap.size + 1 ≤ k ∧ k < w2.heap.size := fun k hk => by have := hown2.lt k (by simpa using hk); (try simp at this); omega
      simp only [Nat.zero_add, List.nil_append] at hown1 hown2
      have hr1 : w2.ownsRow (w.heap.size + 2) 2 1 (.slice ad1 cells.length cap1) cells.length (iv cells) := owns_base (owns_new hown1 (show Below w1.heap.size w1 w2 from (by repeat' (first | (with_reducible exact Below.refl _ _) | (with_reducible refine Below.drew ?_) | (with_reducible refine bo_drewN _ ?_) | (with_reducible refine bo_alloc ?_ _) | (refine bchain ?_ (by with_reducible assumption)) | (with_reducible refine Below.setCell ?_ ?_ _) | go_size)))) fun k hk => by have := hu1 k hk; omega
      have hr2 : w2.ownsRow (w.heap.size + 2) 41 4 (.slice ad2 T.length cap2) T.length (tv T) := owns_base hown2 fun k hk => by have := hu2 k hk; omega
      have hBB : Below W0.heap.size W0 ((w2.setCell ⟨w1.heap.size, 0, none⟩ (Value.slice ad1 cells.length cap1)).setCell ⟨w1.heap.size, 1, none⟩ (Value.slice ad2 T.length cap2)) := (by repeat' (first | (with_reducible exact Below.refl _ _) | (with_reducible refine Below.drew ?_) | (with_reducible refine bo_drewN _ ?_) | (with_reducible refine bo_alloc ?_ _) | (refine bchain ?_ (by with_reducible assumption)) | (with_reducible refine Below.setCell ?_ ?_ _) | go_size))
      refine ⟨w1.heap.size, ad1, ad2, cap1, cap2, rfl, ?_, ?_, ?_, ?_, ?_, ?_, ?_, ?_, ?_, ?_⟩
      · simp [*, go_sem]
      · simp [*, go_sem]
      · exact owns_apart (owns_apart hr1 _ _ (fun e => by have := hu1 _ e; first | omega | (simp at this; done) | (simp at this; omega))) _ _ (fun e => by have := hu1 _ e; first | omega | (simp at this; done) | (simp at this; omega))
      · exact owns_apart (owns_apart hr2 _ _ (fun e => by have := hu2 _ e; first | omega | (simp at this; done) | (simp at this; omega))) _ _ (fun e => by have := hu2 _ e; first | omega | (simp at this; done) | (simp at this; omega))
      · intro k h1 h2; have := hu1 k h1; have := hu2 k h2; omega
      · intro k h1; have := hu1 k h1; omega
      · intro k h2; have := hu2 k h2; omega
      · omega
      · simp; try omega
      · rw [hS0] at hBB; exact hBB
    · have hu1 : ∀ k, (Value.slice ad1 cells.length cap1).ownBlock = some k → w.heap.size + 3 ≤ k ∧ k < w1.heap.size := fun k hk => by have := hown1.lt k (by simpa using hk); (try simp at this); omega
      have hu2 : ∀ k, (Value.slice ad2 T.length cap2).ownBlock = some k → w1.heap.size ≤ k ∧ k < w2.heap.size := fun k hk => by have := hown2.lt k (by simpa using hk); (try simp at this); omega
      simp only [Nat.zero_add, List.nil_append] at hown1 hown2
      have hr1 : w2.ownsRow (w.heap.size + 2) 2 1 (.slice ad1 cells.length cap1) cells.length (iv cells) := owns_base (owns_new hown1 (show Below w1.heap.size w1 w2 from (by repeat' (first | (with_reducible exact Below.refl _ _) | (with_reducible refine Below.drew ?_) | (with_reducible refine bo_drewN _ ?_) | (with_reducible refine bo_alloc ?_ _) | (refine bchain ?_ (by with_reducible assumption)) | (with_reducible refine Below.setCell ?_ ?_ _) | go_size)))) fun k hk => by have := hu1 k hk; omega
      have hr2 : w2.ownsRow (w.heap.size + 2) 41 4 (.slice ad2 T.length cap2) T.length (tv T) := owns_base hown2 fun k hk => by have := hu2 k hk; omega
      have hBB : Below W0.heap.size W0 ((w2.setCell ⟨w.heap.size + 2, 0, none⟩ (Value.slice ad1 cells.length cap1)).setCell ⟨w.heap.size + 2, 1, none⟩ (Value.slice ad2 T.length cap2)) := (by repeat' (first | (with_reducible exact Below.refl _ _) | (with_reducible refine Below.drew ?_) | (with_reducible refine bo_drewN _ ?_) | (with_reducible refine bo_alloc ?_ _) | (refine bchain ?_ (by with_reducible assumption)) | (with_reducible refine Below.setCell ?_ ?_ _) | go_size))
      refine ⟨w.heap.size + 2, ad1, ad2, cap1, cap2, rfl, ?_, ?_, ?_, ?_, ?_, ?_, ?_, ?_, ?_, ?_⟩
      · simp [*, go_sem]
      · simp [*, go_sem]
      · exact owns_apart (owns_apart hr1 _ _ (fun e => by have := hu1 _ e; first | omega | (simp at this; done) | (simp at this; omega))) _ _ (fun e => by have := hu1 _ e; first | omega | (simp at this; done) | (simp at this; omega))
      · exact owns_apart (owns_apart hr2 _ _ (fun e => by have := hu2 _ e; first | omega | (simp at this; done) | (simp at this; omega))) _ _ (fun e => by have := hu2 _ e; first | omega | (simp at this; done) | (simp at this; omega))
      · intro k h1 h2; have := hu1 k h1; have := hu2 k h2; omega
      · intro k h1; have := hu1 k h1; omega
      · intro k h2; have := hu2 k h2; omega
      · omega
      · simp; try omega
      · rw [hS0] at hBB; exact hBB
  case rest =>
    obtain ⟨bx, ad1, ad2, cap1, cap2, rfl, x0, x1, hr1, hr2, hap, hb1, hb2, hbx, hbxl, hBW⟩ := hcut
    have hBw : Below w.heap.size w wc := hB0.trans (hBW.mono (by omega))
    have m1 : wc.cell? ⟨w.heap.size, 1, none⟩ = some (.slice ad' T.length cap') := (hBW.cell (p := ⟨w.heap.size, 1, none⟩) (by simp)).trans k1
    have hcap2 := (owns_form hr2)
    have HR1 := hide hr1; have HR2 := hide hr2; have HAP := hide hap; have HB1 := hide hb1; have HB2 := hide hb2; have HBW := hide hBW
    clear hr1 hr2 hap hb1 hb2 k0 k1 hB0 hBW
    go_wp2_with fail
    go_loopw [15] (fun i wr => ∃ (k : Nat) (A R : List Th), i = .int .i64 k ∧ k ≤ T.length ∧ Hid (A.length = k) ∧ (A ++ R).map Th.d = T.map Th.d ∧ wr.ownsRow (w.heap.size + 2) 41 4 (.slice ad2 T.length cap2) T.length (tv (A ++ R)) ∧
      (∀ t ∈ A, wr.ownsRow (w.heap.size + 2) 44 3 t.sv t.st.length (sv t.st)) ∧ (Value.slice ad1 cells.length cap1 :: Value.slice ad2 T.length cap2 :: A.map Th.sv).Pairwise Ap ∧ (∀ t ∈ A, ∀ b, t.sv.ownBlock = some b → b ≠ bx) ∧
      wr.ownsRow (w.heap.size + 2) 2 1 (.slice ad1 cells.length cap1) cells.length (iv cells) ∧ Below w.heap.size w wr ∧ wr.cell? ⟨bx, 0, none⟩ = some (.slice ad1 cells.length cap1) ∧ wr.cell? ⟨bx, 1, none⟩ = some (.slice ad2 T.length cap2) ∧ wr.cell? ⟨w.heap.size, 1, none⟩ = some (.slice ad' T.length cap') ∧ bx < wr.heap.size ∧
      Below (w.heap.size + 2) W0 wr) (fun i _ => T.length - (intOf i).toNat)
    case atStart => exact ⟨0, [], T, rfl, Nat.zero_le _, rfl, rfl, HR2.out, (fun t ht => by cases ht), (by simpa using HAP.out), (fun t ht => by cases ht), HR1.out, hBw, x0, x1, m1, hbxl, HBW.out⟩
    case round =>
      obtain ⟨k, A, R, rfl, hk, HK, hd, hrow, hst, hpw, hne, hcel, hb, c0, c1, c2, hbl, hbW⟩ := hrel
      have hsz := hb.size
      have hszW := hbW.size
      by_cases hlt : k < T.length
      · obtain ⟨r, R', rfl⟩ : ∃ r R', R = r :: R' := by
          cases R with
          | nil => have := congrArg List.length hd; simp [HK.out] at this; omega
          | cons r R' => exact ⟨r, R', rfl⟩
        have hrd : r.d = T[k].d := by
          have h := congrArg (fun l => l[k]?) hd
          simp [← HK.out] at h
          simpa [hlt, HK.out] using h
        have hrst : r.st = T[k].st := congrArg DTh.st hrd
        obtain ⟨_, ad0', cap0', e0, _, _, hrd0⟩ := HR.out.ths.row
        simp only [Value.slice.injEq] at e0
        obtain ⟨rfl, _, rfl⟩ := e0
        obtain ⟨b, o, rfl, hbb, hc⟩ := hrd0 (by simp only; omega)
        obtain ⟨s0, _, _, _⟩ := tv_get T k hlt
        have hrt := (HR.out.ths.st _ (List.getElem_mem hlt)).new hb
        have h20 := H20.out _ (List.getElem_mem hlt)
        rw [← hrst] at hrt h20
        obtain ⟨ads, caps, hsv, _⟩ := hrt.2
        rw [hsv] at s0 hrt
        have src : World.cell? wr ⟨b, o + k * 4, none⟩ = some (.slice ads r.st.length caps) := (by rw [hb.cell (p := ⟨b, o + k * 4, none⟩) hbb]; exact hc _ _ s0)
        obtain ⟨g2, cap2', e1, e2, e3, e4, _, _, e5, e6⟩ := owns_open hrow (by omega)
        simp only [Value.slice.injEq] at e1
        obtain ⟨rfl, _, rfl⟩ := e1
        have hl2 := hrow.1
        obtain ⟨u0, hu0⟩ : ∃ u, wr.cell? ⟨g2, k * 4, none⟩ = some u := ⟨_, e5 _ _ (List.getElem?_eq_getElem (by omega))⟩
        have hfz := e6 (k * 4)
        have hg2x : g2 ≠ bx := HB2.out g2 rfl
        have hg2m : g2 ≠ w.heap.size := by omega
        have hbg2 : b ≠ g2 := by omega
        have hg2x' : bx ≠ g2 := fun e => hg2x e.symm
        have hg2m' : w.heap.size ≠ g2 := fun e => hg2m e.symm
        have hbg2' : g2 ≠ b := fun e => hbg2 e.symm
        have hbl' : b < wr.heap.size := by omega
        have hone := hide (one_sv r.st)
        have HRT := hide hrt; have HD := hide hd; have HROW := hide hrow; have HST := hide hst; have HPW := hide hpw; have HNE := hide hne; have HCEL := hide hcel; have HBWr := hide hbW
        clear hc s0 hrt hsv hd hrow hst hpw hne hcel e5 e6 e2 hrd hrst hbW
        go_wp2_with fail
        go_region_held3 (fun w' => w'.cell? ⟨bx, 1, none⟩ = some (.slice (some ⟨g2, 0, none⟩) T.length cap2) ∧ w'.cell? ⟨w.heap.size, 1, none⟩ = some (.slice (some ⟨b, o, none⟩) T.length cap') ∧ w'.cell? ⟨b, o + k * 4, none⟩ = some (.slice ads r.st.length caps)) (first | go_keep | (simp [*, go_sem]; done) | (go_split_ands; refine ⟨?_, ?_, ?_⟩ <;> simp [*, go_sem]))
          ((refine step_app _ (by rfl) _ _ 39 (by rfl) 44 (.agg #[.int .i64 0, .int .i64 0, .int .i64 0]) 3 24 Try.underlying39 (by kernel_rfl) rfl (by decide) _ _ 0 [] (by rfl) (World.ownsRow_nil _ _ _ _) _ r.st.length (sv r.st) (by rfl) (HRT.out.new ((by repeat' (first | (with_reducible exact Below.refl _ _) | (with_reducible refine Below.drew ?_) | (with_reducible refine bo_drewN _ ?_) | (with_reducible refine bo_alloc ?_ _) | (refine bchain ?_ (by with_reducible assumption)) | (with_reducible refine Below.setCell ?_ ?_ _) | go_size)))) hone.out (by omega) (by decide) (Nat.le_refl _) ?_; intro ad3 cap3 w3 hown3 hgrow3 hat3; clear hat3; have hb3 := below_grown hgrow3; have hs3 := hb3.size; (try simp at hs3); have lc3 := fun o => hb3.cell (p := ⟨w.heap.size, o, none⟩) (by first | (simp; done) | (simp; omega) | omega); obtain ⟨la3, lb3⟩ := bcell hb3; (try simp at la3 lb3); have hl3 : w.heap.size < w3.heap.size := (by omega); have hn3 : w.heap.size ≠ w3.heap.size := (by omega); have hm3 : w3.heap.size ≠ w.heap.size := (by omega); (try (have hq3 : w.heap.size + 2 < w3.heap.size := ?hh; case hh => omega))))
        go_wp2_with fail
        have hbr : Below wr.heap.size wr w3 := (by repeat' (first | (with_reducible exact Below.refl _ _) | (with_reducible refine Below.drew ?_) | (with_reducible refine bo_drewN _ ?_) | (with_reducible refine bo_alloc ?_ _) | (refine bchain ?_ (by with_reducible assumption)) | (with_reducible refine Below.setCell ?_ ?_ _) | go_size))
        have hu3 : ∀ q, (Value.slice ad3 r.st.length cap3).ownBlock = some q → wr.heap.size ≤ q := fun q hq => by have := (hown3.lt q (by simpa using hq)).1; (try simp at this); omega
        have hown3' : w3.ownsRow (w.heap.size + 2) 44 3 (.slice ad3 r.st.length cap3) r.st.length (sv r.st) := by
          have h := hown3
          simp only [Nat.zero_add, List.nil_append] at h
          exact owns_base h fun q hq => by have := hu3 q hq; omega
        have hpwc := List.pairwise_cons.1 HPW.out
        have hpwc2 := List.pairwise_cons.1 hpwc.2
        refine ⟨⟨k + 1, A ++ [Th.mk (.slice ad3 r.st.length cap3) r.st r.pos r.seen r.won], R', ?_, ?_, ?_, sv_d _ HD.out, ?_, ?_, ?_, ?_, ?_, ?_, ?_, ?_, ?_, ?_, ?_⟩, ?_⟩
        · go_num
        · omega
        · show _ = _; rw [List.length_append, HK.out]; rfl
        · have h := owns_set (g := g2) (owns_new HROW.out hbr) rfl (k * 4) (.slice ad3 r.st.length cap3)
          have e := tv_sv A R' r (.slice ad3 r.st.length cap3)
          rw [HK.out] at e
          rw [e] at h
          exact h
        · intro t ht
          rcases List.mem_append.1 ht with h | h
          · exact owns_apart (owns_new (HST.out t h) hbr) _ _ (hpwc2.1 _ (List.mem_map_of_mem h) g2 rfl)
          · simp at h; subst h; exact owns_apart hown3' _ _ (fun e => by have := hu3 _ e; simp at this; omega)
        · have h := List.pairwise_append.2 ⟨HPW.out, List.pairwise_singleton Ap (Value.slice ad3 r.st.length cap3), fun u hu v hv => by
            simp only [List.mem_singleton] at hv
            subst hv
            intro q h1 h2
            have h3 := hu3 q h2
            simp only [List.mem_cons, List.mem_map] at hu
            rcases hu with rfl | rfl | ⟨t, ht, rfl⟩
            · have := (HCEL.out.lt q h1).2; omega
            · have := (HROW.out.lt q h1).2; omega
            · have := ((HST.out t ht).lt q h1).2; omega⟩
          simpa using h
        · intro t ht q hq
          rcases List.mem_append.1 ht with h | h
          · exact HNE.out t h q hq
          · simp at h; subst h; have := hu3 q hq; omega
        · exact owns_apart (owns_new HCEL.out hbr) _ _ (fun e => HAP.out g2 e rfl)
        · exact (by repeat' (first | (with_reducible exact Below.refl _ _) | (with_reducible refine Below.drew ?_) | (with_reducible refine bo_drewN _ ?_) | (with_reducible refine bo_alloc ?_ _) | (refine bchain ?_ (by with_reducible assumption)) | (with_reducible refine Below.setCell ?_ ?_ _) | go_size))
        · simp [*, go_sem]
        · simp [*, go_sem]
        · simp [*, go_sem]
        · simp; omega
        · exact (HBWr.out.trans (hbr.mono (by omega))).setCell (by simp; omega) _
        · simp [intOf]; omega
      · obtain rfl : k = T.length := by omega
        obtain rfl : R = [] := by
          have := congrArg List.length hd
          simp [HK.out] at this
          exact this
        rw [List.append_nil] at hd hrow
        have hpwc := List.pairwise_cons.1 hpw
        have e1 : ∀ q, (Value.slice ad1 cells.length cap1).ownBlock = some q → w.heap.size + 2 ≤ q := fun q hq => (hcel.lt q hq).1
        have e2 : ∀ q, (Value.slice ad2 T.length cap2).ownBlock = some q → w.heap.size + 2 ≤ q := fun q hq => (hrow.lt q hq).1
        have howm : OwnM wr (w.heap.size + 2) wr.heap.size ⟨.slice ad1 cells.length cap1, cells, .slice ad2 T.length cap2, A⟩ := by
          refine ⟨hcel, ⟨by rw [HK.out]; exact hrow, hst, hpwc.2, fun u hu q hq => ?_⟩, hpwc.1, fun q hq => (hcel.lt q hq).2⟩
          simp only [List.mem_cons, List.mem_map] at hu
          rcases hu with rfl | ⟨t, ht, rfl⟩
          · exact (hrow.lt q hq).2
          · exact ((hst t ht).lt q hq).2
        have HM := hide howm; have HD := hide hd
        have b0 := (hbW.cell (p := ⟨w.heap.size + 1, 0, none⟩) (by simp)).trans RR.out.1
        have b1 := (hbW.cell (p := ⟨w.heap.size + 1, 1, none⟩) (by simp)).trans RR.out.2.1
        have f0 := (hbW.frozen (p := ⟨w.heap.size + 1, 0, none⟩) (by simp)).trans RR.out.2.2.1
        have f1 := (hbW.frozen (p := ⟨w.heap.size + 1, 1, none⟩) (by simp)).trans RR.out.2.2.2
        clear hrow hst hpw hne hcel hpwc e1 e2 howm hd hbW
        have hbne : bx ≠ w.heap.size + 1 := by omega
        have hbne' : w.heap.size + 1 ≠ bx := by omega
        go_wp2_with fail
        refine bodyPost_ret (v := .agg #[.slice ad1 cells.length cap1, .slice ad2 T.length cap2]) (by simp [results, Try.results38, go_sem, *]) rfl ?_
        have hT2 : Turn (w.heap.size + 1) (w.heap.size + 2) wr ((wr.setCell ⟨w.heap.size + 1, 0, none⟩ (.slice ad1 cells.length cap1)).setCell ⟨w.heap.size + 1, 1, none⟩ (.slice ad2 T.length cap2)) := ((Turn.refl _ _ _).setCell _ (.inl (by simp))).setCell _ (.inl (by simp))
        exact ⟨⟨.slice ad1 cells.length cap1, cells, .slice ad2 T.length cap2, A⟩, rfl, by simp only [Mm.d, HD.out], ((HM.out.far hT2 (.inr (by omega))).lo (by omega)).hi (by simp), (by repeat' (first | (with_reducible exact Below.refl _ _) | (with_reducible refine Below.drew ?_) | (with_reducible refine bo_drewN _ ?_) | (with_reducible refine bo_alloc ?_ _) | (refine bchain ?_ (by with_reducible assumption)) | (with_reducible refine Below.setCell ?_ ?_ _) | go_size))⟩
end Go.Proofs.Ytdplpkobpoiioaa
