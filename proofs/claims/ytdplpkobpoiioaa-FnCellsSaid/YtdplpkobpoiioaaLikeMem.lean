/- Two Memories of the same data are alike: the law's own comparing. -/
import Derived.Test.YtdplpkobpoiioaaSpecPicked


namespace Go.Proofs.Ytdplpkobpoiioaa
open Go.RowKit
set_option linter.unusedSimpArgs false
set_option linter.unusedVariables false

set_option maxHeartbeats 1000000 in
theorem likeInts (L : List Int) (v v' : Value) (w : World) (hr0 : Reads w v L.length 1 (iv L)) (hr1 : Reads w v' L.length 1 (iv L)) :
    Calls Try.prog 45 #[v, v'] w fun x w' => x = .returned (.bool true) ∧ Below w.heap.size w w' := by
  obtain ⟨hl, ad, cap, rfl, h1, h2, h3⟩ := hr0
  obtain ⟨hl', ad', cap', rfl, h1', h2', h3'⟩ := hr1
  have H3 := hide h3
  have H3' := hide h3'
  clear h3 h3'
  unfold maxLen at h2 h2'
  go_enter Try.func45, Try.ntmps45
  go_wp2_with fail
  go_loopw [5] (fun i wr => ∃ (k : Nat), i = .int .i64 k ∧ k ≤ L.length ∧ Below w.heap.size w wr) (fun i _ => L.length - (intOf i).toNat)
  case atStart => exact ⟨0, rfl, Nat.zero_le _, Below.refl _ _⟩
  case round =>
    obtain ⟨k, rfl, hk, hb⟩ := hrel
    by_cases hlt : k < L.length
    · obtain ⟨b, o, rfl, hbw, hc⟩ := H3.out (by omega)
      obtain ⟨b', o', rfl, hbw', hc'⟩ := H3'.out (by omega)
      have hck : wr.cell? ⟨b, o + k, none⟩ = some (.int .i64 L[k]) := by rw [hb.cell (p := ⟨b, o + k, none⟩) hbw]; exact hc k _ (iv_get L k hlt)
      have hck' : wr.cell? ⟨b', o' + k, none⟩ = some (.int .i64 L[k]) := by rw [hb.cell (p := ⟨b', o' + k, none⟩) hbw']; exact hc' k _ (iv_get L k hlt)
      clear hc hc'
      go_wp2_with fail
      go_quiet (fail)
      go_wp2_with fail
      go_roundw
      case rel => exact ⟨k + 1, by go_num, by omega, bo_drewN _ hb⟩
      case measure => simp [intOf]; omega
    · go_wp2_with fail
      go_ret
      exact ⟨rfl, hb⟩

set_option maxHeartbeats 4000000 in
set_option maxRecDepth 100000 in
theorem likeMem (m m' : Mm) (w : World) (hr : ReadM w m) (hr' : ReadM w m') (hd : m'.d = m.d) :
    Calls Try.prog 17 #[.agg #[m.cv, m.tv], .agg #[m'.cv, m'.tv]] w fun x w' => x = .returned (.bool true) ∧ Below w.heap.size w w' := by
  obtain ⟨cv, C, tvv, T⟩ := m
  obtain ⟨cv', C', tvv', T'⟩ := m'
  obtain ⟨hC, hT⟩ := d_eq hd
  simp only at hC hT
  subst hC
  have hlen := d_len hT
  obtain ⟨ad, cap, hcv, _⟩ := hr.cel.2
  obtain ⟨ad', cap', hcv', _⟩ := hr'.cel.2
  obtain ⟨hl, adt, capt, htv, h1, h2, h3⟩ := hr.ths.row
  obtain ⟨hl', adt', capt', htv', h1', h2', h3'⟩ := hr'.ths.row
  simp only at hcv hcv' htv htv' h1 h2 h3 h1' h2' h3'
  subst hcv hcv' htv htv'
  have HC := hide hr.cel; have HC' := hide hr'.cel
  have HT := hide hr.ths.st; have HT' := hide hr'.ths.st
  have HD := hide hT
  have H3 := hide h3; have H3' := hide h3'
  clear h3 h3' hr hr' hd hT
  unfold maxLen at h2 h2'
  simp only at HC HC' HT HT'
  go_enter Try.func17, Try.ntmps17
  go_wp2_with fail
  refine (likeInts C' _ _ _ ?c1 ?c2).mono ?_
  case c1 => exact (HC.out.alloc _).alloc _
  case c2 => exact (HC'.out.alloc _).alloc _
  rintro x w1 ⟨rfl, hb1⟩; have hz1 := hb1.size; (try simp at hz1); have hc1 := fun o => hb1.cell (p := ⟨w.heap.size, o, none⟩) (by first | (simp; done) | (simp; omega) | omega); have hf1 := fun o => hb1.frozen (p := ⟨w.heap.size, o, none⟩) (by first | (simp; done) | (simp; omega) | omega); have hcn1 := fun o => hb1.cell (p := ⟨w.heap.size + 1, o, none⟩) (by first | (simp; done) | (simp; omega) | omega); have hfn1 := fun o => hb1.frozen (p := ⟨w.heap.size + 1, o, none⟩) (by first | (simp; done) | (simp; omega) | omega)
  have hw1 : Below w.heap.size w w1 := (by repeat' (first | (with_reducible exact Below.refl _ _) | (with_reducible refine Below.drew ?_) | (with_reducible refine bo_drewN _ ?_) | (with_reducible refine bo_alloc ?_ _) | (refine bchain ?_ (by with_reducible assumption)) | (with_reducible refine Below.setCell ?_ ?_ _) | go_size))
  have hsz1 : w.heap.size + 2 ≤ w1.heap.size := by omega
  have k0 : w1.cell? ⟨w.heap.size, 1, none⟩ = some (.slice adt T.length capt) := by rw [hc1 1]; simp [go_sem]
  have k1 : w1.cell? ⟨w.heap.size + 1, 1, none⟩ = some (.slice adt' T.length capt') := by rw [hcn1 1]; simp [go_sem, hlen]
  clear hc1 hf1 hcn1 hfn1 hb1
  go_wp2_with fail
  go_loopw [5] (fun i wr => ∃ (k : Nat), i = .int .i64 k ∧ k ≤ T.length ∧ Below w1.heap.size w1 wr) (fun i _ => T.length - (intOf i).toNat)
  case atStart => exact ⟨0, rfl, Nat.zero_le _, Below.refl _ _⟩
  case round =>
    obtain ⟨k, rfl, hk, hbr⟩ := hrel
    obtain ⟨wo, rfl⟩ : ∃ x : World, x = wr := ⟨_, rfl⟩
    have hszr := hbr.size
    have hb : Below w.heap.size w wo := bchain hw1 hbr
    have j0 := (hbr.cell (p := ⟨w.heap.size, 1, none⟩) (by show w.heap.size < w1.heap.size; omega)).trans k0
    have j1 := (hbr.cell (p := ⟨w.heap.size + 1, 1, none⟩) (by show w.heap.size + 1 < w1.heap.size; omega)).trans k1
    by_cases hlt : k < T.length
    · obtain ⟨b, o, rfl, hbw, hc⟩ := H3.out (by omega)
      obtain ⟨b', o', rfl, hbw', hc'⟩ := H3'.out (by omega)
      obtain ⟨s0, s1, s2, s3⟩ := tv_get T k hlt
      obtain ⟨z0, z1, z2, z3⟩ := tv_get T' k (by omega)
      have hrt := (HT.out _ (List.getElem_mem hlt)).new hb
      have hrt' := (HT'.out _ (List.getElem_mem (show k < T'.length by omega))).new hb
      have hdk := d_get HD.out k hlt (by omega)
      obtain ⟨t, htt⟩ : ∃ t, t = T[k] := ⟨_, rfl⟩
      obtain ⟨t', htt'⟩ : ∃ t, t = T'[k]'(by omega) := ⟨_, rfl⟩
      rw [← htt] at s0 s1 s2 s3 hrt hdk
      rw [← htt'] at z0 z1 z2 z3 hrt' hdk
      obtain ⟨sv1, st1, p1, q1, r1⟩ := t
      obtain ⟨sv2, st2, p2, q2, r2⟩ := t'
      simp only [Th.d, DTh.mk.injEq] at hdk s0 s1 s2 s3 z0 z1 z2 z3 hrt hrt'
      obtain ⟨rfl, rfl, rfl, rfl⟩ := hdk
      obtain ⟨hq1, ad0, cap0, rfl, hq2, hq3, hq4⟩ := hrt
      obtain ⟨hq1', ad0', cap0', rfl, hq2', hq3', hq4'⟩ := hrt'
      have c0 : World.cell? wo ⟨b, o + k * 4, none⟩ = some (.slice ad0 st2.length cap0) := (by rw [hb.cell (p := ⟨b, o + k * 4, none⟩) hbw]; exact hc _ _ s0)
      have c1 : World.cell? wo ⟨b, o + k * 4 + 1, none⟩ = some (.int .i64 p2) := (by rw [hb.cell (p := ⟨b, o + k * 4 + 1, none⟩) hbw]; exact hc _ _ s1)
      have c2 : World.cell? wo ⟨b, o + k * 4 + 2, none⟩ = some (.int .i64 q2) := (by rw [hb.cell (p := ⟨b, o + k * 4 + 2, none⟩) hbw]; exact hc _ _ s2)
      have c3 : World.cell? wo ⟨b, o + k * 4 + 3, none⟩ = some (.int .i64 r2) := (by rw [hb.cell (p := ⟨b, o + k * 4 + 3, none⟩) hbw]; exact hc _ _ s3)
      have d0 : World.cell? wo ⟨b', o' + k * 4, none⟩ = some (.slice ad0' st2.length cap0') := (by rw [hb.cell (p := ⟨b', o' + k * 4, none⟩) hbw']; exact hc' _ _ z0)
      have d1 : World.cell? wo ⟨b', o' + k * 4 + 1, none⟩ = some (.int .i64 p2) := (by rw [hb.cell (p := ⟨b', o' + k * 4 + 1, none⟩) hbw']; exact hc' _ _ z1)
      have d2 : World.cell? wo ⟨b', o' + k * 4 + 2, none⟩ = some (.int .i64 q2) := (by rw [hb.cell (p := ⟨b', o' + k * 4 + 2, none⟩) hbw']; exact hc' _ _ z2)
      have d3 : World.cell? wo ⟨b', o' + k * 4 + 3, none⟩ = some (.int .i64 r2) := (by rw [hb.cell (p := ⟨b', o' + k * 4 + 3, none⟩) hbw']; exact hc' _ _ z3)
      have hsb := hb.size
      have hbl1 : b < wo.heap.size := by omega
      have hbl2 : b' < wo.heap.size := by omega
      have hkT : (k : Int) < T.length := by omega
      have hn1 : w.heap.size + 1 < wo.heap.size := by omega
      have hn2 : w.heap.size < wo.heap.size := by omega
      have hn3 : w.heap.size + 1 ≠ wo.heap.size := by omega
      have hn4 : w.heap.size ≠ wo.heap.size := by omega
      have hn5 : b' ≠ wo.heap.size := by omega
      have hn6 : b ≠ wo.heap.size := by omega
      have HQ := hide hq4; have HQ' := hide hq4'
      unfold maxLen at hq3 hq3'
      clear hc hc' s0 s1 s2 s3 z0 z1 z2 z3 htt htt' hq4 hq4'
      go_wp2_with fail
      have hWX : Below wo.heap.size wo ((wo.alloc (.cells #[.slice ad0 st2.length cap0, .int .i64 p2, .int .i64 q2, .int .i64 r2] 41)).alloc (.cells #[.slice ad0' st2.length cap0', .int .i64 p2, .int .i64 q2, .int .i64 r2] 41)) := ((Below.refl _ _).alloc (Nat.le_refl _) _).alloc (by simp) _
      have x0 : ((wo.alloc (.cells #[.slice ad0 st2.length cap0, .int .i64 p2, .int .i64 q2, .int .i64 r2] 41)).alloc (.cells #[.slice ad0' st2.length cap0', .int .i64 p2, .int .i64 q2, .int .i64 r2] 41)).cell? ⟨wo.heap.size, 0, none⟩ = some (.slice ad0 st2.length cap0) := by simp [go_sem]
      have y0 : ((wo.alloc (.cells #[.slice ad0 st2.length cap0, .int .i64 p2, .int .i64 q2, .int .i64 r2] 41)).alloc (.cells #[.slice ad0' st2.length cap0', .int .i64 p2, .int .i64 q2, .int .i64 r2] 41)).cell? ⟨wo.heap.size + 1, 0, none⟩ = some (.slice ad0' st2.length cap0') := by simp [go_sem]
      have hWs : ((wo.alloc (.cells #[.slice ad0 st2.length cap0, .int .i64 p2, .int .i64 q2, .int .i64 r2] 41)).alloc (.cells #[.slice ad0' st2.length cap0', .int .i64 p2, .int .i64 q2, .int .i64 r2] 41)).heap.size = wo.heap.size + 2 := by simp
      generalize ((wo.alloc (.cells #[.slice ad0 st2.length cap0, .int .i64 p2, .int .i64 q2, .int .i64 r2] 41)).alloc (.cells #[.slice ad0' st2.length cap0', .int .i64 p2, .int .i64 q2, .int .i64 r2] 41)) = Wx at *
      clear c0 c1 c2 c3 d0 d1 d2 d3 j0 j1
      go_loopw [8] (fun i wi => ∃ (j : Nat), i = .int .i64 j ∧ j ≤ st2.length ∧ Below Wx.heap.size Wx wi) (fun i _ => st2.length - (intOf i).toNat)
      case atStart => exact ⟨0, rfl, Nat.zero_le _, Below.refl _ _⟩
      case round =>
        obtain ⟨j, rfl, hj, hbi⟩ := hrel
        have hsi := hbi.size
        have hbo : Below wo.heap.size wo wr := bchain hWX hbi
        have hbA : Below w.heap.size w wr := bchain hb hbo
        have e0 := (hbi.cell (p := ⟨wo.heap.size, 0, none⟩) (by show wo.heap.size < Wx.heap.size; omega)).trans x0
        have e1 := (hbi.cell (p := ⟨wo.heap.size + 1, 0, none⟩) (by show wo.heap.size + 1 < Wx.heap.size; omega)).trans y0
        have hbx1 : wo.heap.size < wr.heap.size := by omega
        have hbx2 : wo.heap.size + 1 < wr.heap.size := by omega
        by_cases hjl : j < st2.length
        · obtain ⟨bb, oo, rfl, hbb, hcc⟩ := HQ.out (by omega)
          obtain ⟨bb', oo', rfl, hbb', hcc'⟩ := HQ'.out (by omega)
          obtain ⟨s0, s1, s2⟩ := sv_get st2 j hjl
          have c0 : World.cell? wr ⟨bb, oo + j * 3, none⟩ = some (.int .i64 st2[j].k) := (by rw [hbo.cell (p := ⟨bb, oo + j * 3, none⟩) hbb]; exact hcc _ _ s0)
          have c1 : World.cell? wr ⟨bb, oo + j * 3 + 1, none⟩ = some (.int .i64 st2[j].c) := (by rw [hbo.cell (p := ⟨bb, oo + j * 3 + 1, none⟩) hbb]; exact hcc _ _ s1)
          have c2 : World.cell? wr ⟨bb, oo + j * 3 + 2, none⟩ = some (.int .i64 st2[j].a) := (by rw [hbo.cell (p := ⟨bb, oo + j * 3 + 2, none⟩) hbb]; exact hcc _ _ s2)
          have d0 : World.cell? wr ⟨bb', oo' + j * 3, none⟩ = some (.int .i64 st2[j].k) := (by rw [hbo.cell (p := ⟨bb', oo' + j * 3, none⟩) hbb']; exact hcc' _ _ s0)
          have d1 : World.cell? wr ⟨bb', oo' + j * 3 + 1, none⟩ = some (.int .i64 st2[j].c) := (by rw [hbo.cell (p := ⟨bb', oo' + j * 3 + 1, none⟩) hbb']; exact hcc' _ _ s1)
          have d2 : World.cell? wr ⟨bb', oo' + j * 3 + 2, none⟩ = some (.int .i64 st2[j].a) := (by rw [hbo.cell (p := ⟨bb', oo' + j * 3 + 2, none⟩) hbb']; exact hcc' _ _ s2)
          have hl1 : bb < wr.heap.size := by omega
          have hl2 : bb' < wr.heap.size := by omega
          have hjI : (j : Int) < st2.length := by omega
          clear hcc hcc' s0 s1 s2
          go_wp2_with fail
          have q0 : ∀ y : Later wr, y.w.cell? ⟨bb, oo + j * 3, none⟩ = some (.int .i64 st2[j].k) := fun y => (y.b.cell (p := ⟨bb, oo + j * 3, none⟩) hl1).trans c0
          have q1 : ∀ y : Later wr, y.w.cell? ⟨bb, oo + j * 3 + 1, none⟩ = some (.int .i64 st2[j].c) := fun y => (y.b.cell (p := ⟨bb, oo + j * 3 + 1, none⟩) hl1).trans c1
          have q2 : ∀ y : Later wr, y.w.cell? ⟨bb, oo + j * 3 + 2, none⟩ = some (.int .i64 st2[j].a) := fun y => (y.b.cell (p := ⟨bb, oo + j * 3 + 2, none⟩) hl1).trans c2
          have r0 : ∀ y : Later wr, y.w.cell? ⟨bb', oo' + j * 3, none⟩ = some (.int .i64 st2[j].k) := fun y => (y.b.cell (p := ⟨bb', oo' + j * 3, none⟩) hl2).trans d0
          have r1 : ∀ y : Later wr, y.w.cell? ⟨bb', oo' + j * 3 + 1, none⟩ = some (.int .i64 st2[j].c) := fun y => (y.b.cell (p := ⟨bb', oo' + j * 3 + 1, none⟩) hl2).trans d1
          have r2 : ∀ y : Later wr, y.w.cell? ⟨bb', oo' + j * 3 + 2, none⟩ = some (.int .i64 st2[j].a) := fun y => (y.b.cell (p := ⟨bb', oo' + j * 3 + 2, none⟩) hl2).trans d2
          have bx1 : ∀ y : Later wr, y.w.cell? ⟨wo.heap.size, 0, none⟩ = some (.slice (some ⟨bb, oo, none⟩) st2.length cap0) := fun y => (y.b.cell (p := ⟨wo.heap.size, 0, none⟩) hbx1).trans e0
          have bx2 : ∀ y : Later wr, y.w.cell? ⟨wo.heap.size + 1, 0, none⟩ = some (.slice (some ⟨bb', oo', none⟩) st2.length cap0') := fun y => (y.b.cell (p := ⟨wo.heap.size + 1, 0, none⟩) hbx2).trans e1
          clear c0 c1 c2 d0 d1 d2 e0 e1
          have hne : Nonempty (Later wr) := ⟨⟨wr, Below.refl _ _⟩⟩; refine region_later (by kernel_rfl) (by kernel_rfl) ?_
          repeat (go_big_quiet_step (fail))
          refine wpQuiet_nil ?_; intro _ hw'; obtain ⟨y, hw''⟩ := hw'; subst hw''; have hby := y.b
          go_wp2_with fail
          go_roundw
          case rel => exact ⟨j + 1, by go_num, by omega, bchain hbi hby⟩
          case measure => simp [intOf]; omega
        · go_wp2_with fail
          go_roundw
          case rel => exact ⟨k + 1, by go_num, by omega, bchain hbr hbo⟩
          case measure => simp [intOf]; omega
    · go_wp2_with fail
      go_ret
      exact ⟨rfl, hb⟩
end Go.Proofs.Ytdplpkobpoiioaa
