/- Picked and Played of the model, at every Memory. -/
import Derived.Test.YtdplpkobpoiioaaImplPicked
import Derived.Test.YtdplpkobpoiioaaSpecCopy


namespace Go.Proofs.Ytdplpkobpoiioaa
open Go.RowKit
set_option linter.unusedSimpArgs false
set_option linter.unusedVariables false

set_option maxHeartbeats 1000000 in
theorem specPicked (cv tv0 : Value) (cells : List Int) (T : List Th) (i : Int) (w : World) (hr : ReadM w ⟨cv, cells, tv0, T⟩) :
    Calls Try.prog 16 #[.agg #[cv, tv0], .int .i64 i] w fun x w' => ∃ m' : Mm, x = .returned (.tuple #[.agg #[m'.cv, m'.tv], .bool (pickedD ⟨cells, T.map Th.d⟩ i).2]) ∧ m'.d = (pickedD ⟨cells, T.map Th.d⟩ i).1 ∧ OwnM w' w.heap.size w'.heap.size m' ∧ Below w.heap.size w w' := by
  obtain ⟨ad, cap, hcv, _⟩ := hr.cel.2; obtain ⟨ad', cap', htv, h2'⟩ := hr.ths.row.2; have HR := hide hr; have H3' := hide hr.ths; clear hr; simp only at hcv htv HR ⊢; subst hcv htv
  cases hok : okM ⟨cells, T.map Th.d⟩
  · have V : Hid (pickedD ⟨cells, T.map Th.d⟩ i = (⟨[], []⟩, false)) := by show _ = _; simp [pickedD, hok]
    go_enter Try.func16, Try.ntmps16
    go_wp2_with fail
    refine (specOkM _ _ cells T _ ((HR.out.cel.alloc _).alloc _) (HR.out.ths.new ((by repeat' (first | (with_reducible exact Below.refl _ _) | (with_reducible refine Below.drew ?_) | (with_reducible refine bo_drewN _ ?_) | (with_reducible refine bo_alloc ?_ _) | (refine bchain ?_ (by with_reducible assumption)) | (with_reducible refine Below.setCell ?_ ?_ _) | go_size))))).mono ?_; rw [hok]; rintro x w1 ⟨rfl, hb1⟩
    have hz1 := hb1.size; (try simp at hz1); have hc1 := fun o => hb1.cell (p := ⟨w.heap.size + 1, o, none⟩) (by first | (simp; done) | (simp; omega) | omega); have hf1 := fun o => hb1.frozen (p := ⟨w.heap.size + 1, o, none⟩) (by first | (simp; done) | (simp; omega) | omega)
    go_wp2_with fail
    refine bodyPost_ret (v := .tuple #[.agg #[.slice none 0 0, .slice none 0 0], .bool false]) (by simp [results, Try.results16, go_sem, *]) rfl ?_
    exact ⟨zM, by rw [V.out]; rfl, by rw [V.out]; rfl, zM_own _ _ _, (by repeat' (first | (with_reducible exact Below.refl _ _) | (with_reducible refine Below.drew ?_) | (with_reducible refine bo_drewN _ ?_) | (with_reducible refine bo_alloc ?_ _) | (refine bchain ?_ (by with_reducible assumption)) | (with_reducible refine Below.setCell ?_ ?_ _) | go_size))⟩
  · have V : Hid (pickedD ⟨cells, T.map Th.d⟩ i = pickR ⟨cells, T.map Th.d⟩ i) := by show _ = _; simp [pickedD, hok]
    have HOK := hide hok
    go_enter Try.func16, Try.ntmps16
    go_wp2_with fail
    refine (specOkM _ _ cells T _ ((HR.out.cel.alloc _).alloc _) (HR.out.ths.new ((by repeat' (first | (with_reducible exact Below.refl _ _) | (with_reducible refine Below.drew ?_) | (with_reducible refine bo_drewN _ ?_) | (with_reducible refine bo_alloc ?_ _) | (refine bchain ?_ (by with_reducible assumption)) | (with_reducible refine Below.setCell ?_ ?_ _) | go_size))))).mono ?_; rw [hok]; rintro x w1 ⟨rfl, hb1⟩
    have hz1 := hb1.size; (try simp at hz1); have hc1 := fun o => hb1.cell (p := ⟨w.heap.size, o, none⟩) (by first | (simp; done) | (simp; omega) | omega); have hf1 := fun o => hb1.frozen (p := ⟨w.heap.size, o, none⟩) (by first | (simp; done) | (simp; omega) | omega); have hcn1 := fun o => hb1.cell (p := ⟨w.heap.size + 1, o, none⟩) (by first | (simp; done) | (simp; omega) | omega); have hfn1 := fun o => hb1.frozen (p := ⟨w.heap.size + 1, o, none⟩) (by first | (simp; done) | (simp; omega) | omega)
    clear hok
    go_wp2_with fail
    refine (specCopy _ _ cells T _ (HR.out.new ((by repeat' (first | (with_reducible exact Below.refl _ _) | (with_reducible refine Below.drew ?_) | (with_reducible refine bo_drewN _ ?_) | (with_reducible refine bo_alloc ?_ _) | (refine bchain ?_ (by with_reducible assumption)) | (with_reducible refine Below.setCell ?_ ?_ _) | go_size)))) HOK.out).mono ?_
    rintro x w2 ⟨⟨cv2, C2, tv2, T2⟩, rfl, hd2, ho2, hb2⟩
    obtain ⟨a2, p2, e2, _⟩ := owns_form ho2.cel; obtain ⟨b2, q2, f2, _⟩ := owns_form ho2.ths.row; simp only at e2 f2; subst e2 f2; have HO2 := hide ho2; have HD2 := hide hd2; clear ho2 hd2; have hz2 := hb2.size; (try simp at hz2); have hc2 := fun o => hb2.cell (p := ⟨w.heap.size + 1, o, none⟩) (by first | (simp; done) | (simp; omega) | omega); have hf2 := fun o => hb2.frozen (p := ⟨w.heap.size + 1, o, none⟩) (by first | (simp; done) | (simp; omega) | omega)
    have hs2 : w.heap.size < w2.heap.size := (by omega)
    go_wp2_with fail
    refine (specPick ⟨_, C2, _, T2⟩ w1.heap.size w2.heap.size i w2.heap.size _ (HO2.out.new ((by repeat' (first | (with_reducible exact Below.refl _ _) | (with_reducible refine Below.drew ?_) | (with_reducible refine bo_drewN _ ?_) | (with_reducible refine bo_alloc ?_ _) | (refine bchain ?_ (by with_reducible assumption)) | (with_reducible refine Below.setCell ?_ ?_ _) | go_size)))) (by simp) (by rw [HD2.out]; exact HOK.out) (by simp) (by simp) (by simp) (.inr (Nat.le_refl _))).mono ?_
    rintro x w3 ⟨⟨cv3, C3, tv3, T3⟩, rfl, hd3, hcv3, htv3, ho3, ht3⟩
    simp only at hcv3 htv3
    subst hcv3 htv3
    rw [HD2.out] at hd3
    have hs3 := ht3.size
    simp at hs3
    have x0 := ht3.cell w2.heap.size 0 (by simp) (.inr (by simp))
    have x1 := ht3.cell w2.heap.size 1 (by simp) (.inr (by simp))
    have y0 := ht3.cell (w.heap.size + 1) 0 (by simp; omega) (.inl (by omega))
    have y1 := ht3.cell (w.heap.size + 1) 1 (by simp; omega) (.inl (by omega))
    have z0 := ht3.frozen (w.heap.size + 1) 0 (by simp; omega) (.inl (by omega))
    have z1 := ht3.frozen (w.heap.size + 1) 1 (by simp; omega) (.inl (by omega))
    have HO3 := hide ho3; have HD3 := hide hd3
    clear ho3 hd3
    generalize hq : (pickR (Mm.d ⟨.slice a2 C2.length p2, C2, .slice b2 T2.length q2, T2⟩) i).2 = flag at *
    have HQ := hide hq
    clear hq
    have hne : w.heap.size + 1 ≠ w2.heap.size := by omega
    have hne' : w2.heap.size ≠ w.heap.size + 1 := by omega
    have hlt12 : w.heap.size + 1 < w2.heap.size := by omega
    go_wp2_with fail
    refine bodyPost_ret (v := .tuple #[.agg #[.slice a2 C2.length p2, .slice b2 T2.length q2], .bool flag]) (by simp [results, Try.results16, go_sem, *]) rfl ?_
    have hT : Turn (w.heap.size + 1) (w.heap.size + 2) w3 ((w3.setCell ⟨w.heap.size + 1, 0, none⟩ (.slice a2 C2.length p2)).setCell ⟨w.heap.size + 1, 1, none⟩ (.slice b2 T2.length q2)) := ((Turn.refl _ _ _).setCell _ (.inl (by simp))).setCell _ (.inl (by simp))
    have hbz : Below w.heap.size w w3 := Below.trans (show Below w.heap.size w (w2.alloc (.cells #[.slice a2 C2.length p2, .slice b2 T2.length q2] 27)) from (by repeat' (first | (with_reducible exact Below.refl _ _) | (with_reducible refine Below.drew ?_) | (with_reducible refine bo_drewN _ ?_) | (with_reducible refine bo_alloc ?_ _) | (refine bchain ?_ (by with_reducible assumption)) | (with_reducible refine Below.setCell ?_ ?_ _) | go_size))) (ht3.below (by omega) (by simp; omega))
    exact ⟨⟨.slice a2 C2.length p2, C3, .slice b2 T2.length q2, T3⟩, by rw [V.out, ← HQ.out, HD2.out], by rw [V.out]; exact HD3.out, ((HO3.out.far hT (.inr (by omega))).lo (by omega)).hi (by simp; omega), (hbz.setCell (by go_size) _).setCell (by go_size) _⟩

set_option maxHeartbeats 2000000 in
theorem specPlayed (cv tv0 : Value) (cells : List Int) (T : List Th) (pv : Value) (L : List Int) (w : World) (hr : ReadM w ⟨cv, cells, tv0, T⟩) (hp : Reads w pv L.length 1 (iv L)) :
    Calls Try.prog 18 #[.agg #[cv, tv0], pv] w fun x w' => ∃ m' : Mm, x = .returned (.agg #[m'.cv, m'.tv]) ∧ m'.d = playedD ⟨cells, T.map Th.d⟩ L ∧ OwnM w' w.heap.size w'.heap.size m' ∧ Below w.heap.size w w' := by
  obtain ⟨ad, cap, hcv, _⟩ := hr.cel.2; obtain ⟨ad', cap', htv, h2'⟩ := hr.ths.row.2; have HR := hide hr; have H3' := hide hr.ths; clear hr; simp only at hcv htv HR ⊢; subst hcv htv
  obtain ⟨hpl, adp, capp, rfl, hp1, hp2, hp3⟩ := hp
  have HPP := hide hp3
  clear hp3
  unfold maxLen at hp2
  cases hok : okM ⟨cells, T.map Th.d⟩
  · have V : Hid (playedD ⟨cells, T.map Th.d⟩ L = ⟨[], []⟩) := by show _ = _; simp [playedD, hok]
    go_enter Try.func18, Try.ntmps18
    go_wp2_with fail
    refine (specOkM _ _ cells T _ ((HR.out.cel.alloc _).alloc _) (HR.out.ths.new ((by repeat' (first | (with_reducible exact Below.refl _ _) | (with_reducible refine Below.drew ?_) | (with_reducible refine bo_drewN _ ?_) | (with_reducible refine bo_alloc ?_ _) | (refine bchain ?_ (by with_reducible assumption)) | (with_reducible refine Below.setCell ?_ ?_ _) | go_size))))).mono ?_; rw [hok]; rintro x w1 ⟨rfl, hb1⟩
    have hz1 := hb1.size; (try simp at hz1); have hc1 := fun o => hb1.cell (p := ⟨w.heap.size + 1, o, none⟩) (by first | (simp; done) | (simp; omega) | omega); have hf1 := fun o => hb1.frozen (p := ⟨w.heap.size + 1, o, none⟩) (by first | (simp; done) | (simp; omega) | omega)
    go_wp2_with fail
    refine bodyPost_ret (v := .agg #[.slice none 0 0, .slice none 0 0]) (by simp [results, Try.results18, go_sem, *]) rfl ?_
    exact ⟨zM, rfl, by rw [V.out]; rfl, zM_own _ _ _, (by repeat' (first | (with_reducible exact Below.refl _ _) | (with_reducible refine Below.drew ?_) | (with_reducible refine bo_drewN _ ?_) | (with_reducible refine bo_alloc ?_ _) | (refine bchain ?_ (by with_reducible assumption)) | (with_reducible refine Below.setCell ?_ ?_ _) | go_size))⟩
  · by_cases h200 : (L.length : Int) ≤ 200
    · have V : Hid (playedD ⟨cells, T.map Th.d⟩ L = foldD ⟨cells, T.map Th.d⟩ L) := by show _ = _; simp only [playedD, hok, decide_eq_true h200, Bool.and_self, if_true]
      have HOK := hide hok
      go_enter Try.func18, Try.ntmps18
      go_wp2_with fail
      refine (specOkM _ _ cells T _ ((HR.out.cel.alloc _).alloc _) (HR.out.ths.new ((by repeat' (first | (with_reducible exact Below.refl _ _) | (with_reducible refine Below.drew ?_) | (with_reducible refine bo_drewN _ ?_) | (with_reducible refine bo_alloc ?_ _) | (refine bchain ?_ (by with_reducible assumption)) | (with_reducible refine Below.setCell ?_ ?_ _) | go_size))))).mono ?_; rw [hok]; rintro x w1 ⟨rfl, hb1⟩
      have hz1 := hb1.size; (try simp at hz1); have hc1 := fun o => hb1.cell (p := ⟨w.heap.size, o, none⟩) (by first | (simp; done) | (simp; omega) | omega); have hf1 := fun o => hb1.frozen (p := ⟨w.heap.size, o, none⟩) (by first | (simp; done) | (simp; omega) | omega); have hcn1 := fun o => hb1.cell (p := ⟨w.heap.size + 1, o, none⟩) (by first | (simp; done) | (simp; omega) | omega); have hfn1 := fun o => hb1.frozen (p := ⟨w.heap.size + 1, o, none⟩) (by first | (simp; done) | (simp; omega) | omega)
      clear hok
      go_wp2_with fail
      refine (specCopy _ _ cells T _ (HR.out.new ((by repeat' (first | (with_reducible exact Below.refl _ _) | (with_reducible refine Below.drew ?_) | (with_reducible refine bo_drewN _ ?_) | (with_reducible refine bo_alloc ?_ _) | (refine bchain ?_ (by with_reducible assumption)) | (with_reducible refine Below.setCell ?_ ?_ _) | go_size)))) HOK.out).mono ?_
      rintro x w2 ⟨⟨cv2, C2, tv2, T2⟩, rfl, hd2, ho2, hb2⟩
      obtain ⟨a2, p2, e2, _⟩ := owns_form ho2.cel; obtain ⟨b2, q2, f2, _⟩ := owns_form ho2.ths.row; simp only at e2 f2; subst e2 f2; have HO2 := hide ho2; have HD2 := hide hd2; clear ho2 hd2; have hz2 := hb2.size; (try simp at hz2); have hc2 := fun o => hb2.cell (p := ⟨w.heap.size + 1, o, none⟩) (by first | (simp; done) | (simp; omega) | omega); have hf2 := fun o => hb2.frozen (p := ⟨w.heap.size + 1, o, none⟩) (by first | (simp; done) | (simp; omega) | omega)
      have hs2 : w.heap.size < w2.heap.size := (by omega)
      have hbW : Below w.heap.size w (w2.alloc (.cells #[.slice a2 C2.length p2, .slice b2 T2.length q2] 27)) := (by repeat' (first | (with_reducible exact Below.refl _ _) | (with_reducible refine Below.drew ?_) | (with_reducible refine bo_drewN _ ?_) | (with_reducible refine bo_alloc ?_ _) | (refine bchain ?_ (by with_reducible assumption)) | (with_reducible refine Below.setCell ?_ ?_ _) | go_size))
      have hne : w.heap.size + 1 ≠ w2.heap.size := by omega
      have hne' : w2.heap.size ≠ w.heap.size + 1 := by omega
      have hlt12 : w.heap.size + 1 < w2.heap.size := by omega
      go_wp2_with fail
      have r0 : (w2.alloc (.cells #[.slice a2 C2.length p2, .slice b2 T2.length q2] 27)).cell? ⟨w.heap.size + 1, 0, none⟩ = some (.slice none 0 0) := by simp [*, go_sem]
      have r1 : (w2.alloc (.cells #[.slice a2 C2.length p2, .slice b2 T2.length q2] 27)).cell? ⟨w.heap.size + 1, 1, none⟩ = some (.slice none 0 0) := by simp [*, go_sem]
      have f0 : (w2.alloc (.cells #[.slice a2 C2.length p2, .slice b2 T2.length q2] 27)).frozen? ⟨w.heap.size + 1, 0, none⟩ = false := by simp [*, go_sem]
      have f1 : (w2.alloc (.cells #[.slice a2 C2.length p2, .slice b2 T2.length q2] 27)).frozen? ⟨w.heap.size + 1, 1, none⟩ = false := by simp [*, go_sem]
      have hoA := HO2.out.new (show Below w2.heap.size w2 (w2.alloc (.cells #[.slice a2 C2.length p2, .slice b2 T2.length q2] 27)) from (by repeat' (first | (with_reducible exact Below.refl _ _) | (with_reducible refine Below.drew ?_) | (with_reducible refine bo_drewN _ ?_) | (with_reducible refine bo_alloc ?_ _) | (refine bchain ?_ (by with_reducible assumption)) | (with_reducible refine Below.setCell ?_ ?_ _) | go_size)))
      have hxA : ∀ o, (w2.alloc (.cells #[.slice a2 C2.length p2, .slice b2 T2.length q2] 27)).cell? ⟨w2.heap.size, o, none⟩ = #[Value.slice a2 C2.length p2, Value.slice b2 T2.length q2][o]? := fun o => by simp
      have hsA : (w2.alloc (.cells #[.slice a2 C2.length p2, .slice b2 T2.length q2] 27)).heap.size = w2.heap.size + 1 := by simp
      have z0 := hxA 0; have z1 := hxA 1
      simp only [List.getElem?_toArray, List.getElem?_cons_zero, List.getElem?_cons_succ] at z0 z1
      generalize hWA : w2.alloc (.cells #[.slice a2 C2.length p2, .slice b2 T2.length q2] 27) = WA at *
      clear hWA hxA
      have HOA := hide hoA
      have hrd := hide hbW
      clear hoA hc1 hf1 hcn1 hfn1 hc2 hf2 hb1 hb2
      go_loopw [6] (fun i wr => ∃ (k : Nat) (C3 : List Int) (T3 : List Th), i = .int .i64 k ∧ k ≤ L.length ∧ Mm.d ⟨.slice a2 C2.length p2, C3, .slice b2 T2.length q2, T3⟩ = foldD ⟨cells, T.map Th.d⟩ (L.take k) ∧ OwnM wr w1.heap.size w2.heap.size ⟨.slice a2 C2.length p2, C3, .slice b2 T2.length q2, T3⟩ ∧ Turn w1.heap.size w2.heap.size WA wr) (fun i _ => L.length - (intOf i).toNat)
      case atStart => exact ⟨0, C2, T2, rfl, Nat.zero_le _, HD2.out, HOA.out, Turn.refl _ _ _⟩
      case round =>
        obtain ⟨k, C3, T3, rfl, hk, hd, ho, ht⟩ := hrel
        have hsr := ht.size
        have y0 := (ht.cell w2.heap.size 0 (by omega) (.inr (by omega))).trans z0
        have y1 := (ht.cell w2.heap.size 1 (by omega) (.inr (by omega))).trans z1
        have HD := hide hd; have HO := hide ho
        clear hd ho
        by_cases hlt : k < L.length
        · obtain ⟨b, o, rfl, hbw', hc⟩ := HPP.out (by omega)
          have c0 : wr.cell? ⟨b, o + k, none⟩ = some (.int .i64 L[k]) := by
            rw [ht.cell b (o + k) (by have := hrd.out.size; omega) (.inl (by omega)), hrd.out.cell (p := ⟨b, o + k, none⟩) hbw']
            exact hc k _ (iv_get L k hlt)
          clear hc
          have HF := hide (foldD_take ⟨cells, T.map Th.d⟩ L k hlt)
          go_wp2_with fail
          refine (specPick ⟨_, C3, _, T3⟩ w1.heap.size w2.heap.size L[k] w2.heap.size _ HO.out (by omega) (by rw [HD.out]; exact foldD_ok HOK.out _) y0 y1 (by omega) (.inr (Nat.le_refl _))).mono ?_
          rintro x w3 ⟨⟨cv3, C4, tv3, T4⟩, rfl, hd3, hcv3, htv3, ho3, ht3⟩
          simp only at hcv3 htv3
          subst hcv3 htv3
          rw [HD.out, ← HF.out] at hd3
          have HD3 := hide hd3; have HO3 := hide ho3
          clear hd3 ho3
          go_wp2_with fail
          go_roundw
          case rel => exact ⟨k + 1, C4, T4, by go_num, by omega, HD3.out, HO3.out, ht.trans ht3⟩
          case measure => simp [intOf]; omega
        · obtain rfl : k = L.length := by omega
          have HD' := HD.out
          rw [List.take_length] at HD'
          have HDD := hide HD'
          clear HD'
          have e0 := (ht.cell (w.heap.size + 1) 0 (by omega) (.inl (by omega))).trans r0
          have e1 := (ht.cell (w.heap.size + 1) 1 (by omega) (.inl (by omega))).trans r1
          have e2 := (ht.frozen (w.heap.size + 1) 0 (by omega) (.inl (by omega))).trans f0
          have e3 := (ht.frozen (w.heap.size + 1) 1 (by omega) (.inl (by omega))).trans f1
          go_wp2_with fail
          refine bodyPost_ret (v := .agg #[.slice a2 C2.length p2, .slice b2 T2.length q2]) (by simp [results, Try.results18, go_sem, *]) rfl ?_
          have hT : Turn (w.heap.size + 1) (w.heap.size + 2) wr ((wr.setCell ⟨w.heap.size + 1, 0, none⟩ (.slice a2 C2.length p2)).setCell ⟨w.heap.size + 1, 1, none⟩ (.slice b2 T2.length q2)) := ((Turn.refl _ _ _).setCell _ (.inl (by simp))).setCell _ (.inl (by simp))
          have hbz : Below w.heap.size w wr := hrd.out.trans (ht.below (by omega) (by omega))
          exact ⟨⟨.slice a2 C2.length p2, C3, .slice b2 T2.length q2, T3⟩, rfl, by rw [V.out]; exact HDD.out, ((HO.out.far hT (.inr (by omega))).lo (by omega)).hi (by simp; omega), (hbz.setCell (by go_size) _).setCell (by go_size) _⟩
    · have V : Hid (playedD ⟨cells, T.map Th.d⟩ L = ⟨[], []⟩) := by show _ = _; simp only [playedD, decide_eq_false h200, Bool.and_false, Bool.false_eq_true, if_false]
      go_enter Try.func18, Try.ntmps18
      go_wp2_with fail
      refine (specOkM _ _ cells T _ ((HR.out.cel.alloc _).alloc _) (HR.out.ths.new ((by repeat' (first | (with_reducible exact Below.refl _ _) | (with_reducible refine Below.drew ?_) | (with_reducible refine bo_drewN _ ?_) | (with_reducible refine bo_alloc ?_ _) | (refine bchain ?_ (by with_reducible assumption)) | (with_reducible refine Below.setCell ?_ ?_ _) | go_size))))).mono ?_; rw [hok]; rintro x w1 ⟨rfl, hb1⟩
      have hz1 := hb1.size; (try simp at hz1); have hc1 := fun o => hb1.cell (p := ⟨w.heap.size + 1, o, none⟩) (by first | (simp; done) | (simp; omega) | omega); have hf1 := fun o => hb1.frozen (p := ⟨w.heap.size + 1, o, none⟩) (by first | (simp; done) | (simp; omega) | omega)
      go_wp2_with fail
      refine bodyPost_ret (v := .agg #[.slice none 0 0, .slice none 0 0]) (by simp [results, Try.results18, go_sem, *]) rfl ?_
      exact ⟨zM, rfl, by rw [V.out]; rfl, zM_own _ _ _, (by repeat' (first | (with_reducible exact Below.refl _ _) | (with_reducible refine Below.drew ?_) | (with_reducible refine bo_drewN _ ?_) | (with_reducible refine bo_alloc ?_ _) | (refine bchain ?_ (by with_reducible assumption)) | (with_reducible refine Below.setCell ?_ ?_ _) | go_size))⟩
end Go.Proofs.Ytdplpkobpoiioaa
