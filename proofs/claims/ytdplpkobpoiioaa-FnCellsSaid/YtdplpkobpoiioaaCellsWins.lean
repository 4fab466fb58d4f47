/- What was Won in all: the program's words and the model's. -/
import Derived.Test.YtdplpkobpoiioaaCells3


namespace Go.Proofs.Ytdplpkobpoiioaa
open Go.RowKit
set_option linter.unusedSimpArgs false
set_option linter.unusedVariables false

theorem winsM_no {D : DMem} (h : okM D = false) : winsM D = -1 := by simp [winsM, h]
theorem winsM_yes {D : DMem} (h : okM D = true) : winsM D = sumW D.ths := by simp [winsM, h]

set_option maxHeartbeats 1000000 in
theorem implWins (cv tv0 : Value) (cells : List Int) (T : List Th) (w : World) (hr : ReadM w ⟨cv, cells, tv0, T⟩) :
    Calls Try.prog 19 #[.agg #[cv, tv0]] w fun x w' => x = .returned (.int .i64 (winsM ⟨cells, T.map Th.d⟩)) ∧ Below w.heap.size w w' := by
  obtain ⟨ad, cap, hcv, _⟩ := hr.cel.2; obtain ⟨ad', cap', htv, h2'⟩ := hr.ths.row.2; have HR := hide hr; have H3' := hide hr.ths; clear hr; simp only at hcv htv HR ⊢; subst hcv htv
  have hT : T.length ≤ cap' ∧ cap' ≤ maxLen := ⟨h2'.1, h2'.2.1⟩
  unfold maxLen at hT
  clear h2'
  cases hok : okM ⟨cells, T.map Th.d⟩
  · have V := hide (winsM_no hok)
    go_enter Try.func19, Try.ntmps19
    go_wp2_with fail
    refine (implRight _ _ cells T _ (HR.out.cel.alloc _) (HR.out.ths.new ((by repeat' (first | (with_reducible exact Below.refl _ _) | (with_reducible refine Below.drew ?_) | (with_reducible refine bo_drewN _ ?_) | (with_reducible refine bo_alloc ?_ _) | (refine bchain ?_ (by with_reducible assumption)) | (with_reducible refine Below.setCell ?_ ?_ _) | go_size))))).mono ?_; rw [hok]; rintro x w1 ⟨rfl, hb1⟩
    go_wp2_with fail
    go_ret
    exact ⟨by rw [V.out]; rfl, (by repeat' (first | (with_reducible exact Below.refl _ _) | (with_reducible refine Below.drew ?_) | (with_reducible refine bo_drewN _ ?_) | (with_reducible refine bo_alloc ?_ _) | (refine bchain ?_ (by with_reducible assumption)) | (with_reducible refine Below.setCell ?_ ?_ _) | go_size))⟩
  · go_enter Try.func19, Try.ntmps19
    go_wp2_with fail
    refine (implRight _ _ cells T _ (HR.out.cel.alloc _) (HR.out.ths.new ((by repeat' (first | (with_reducible exact Below.refl _ _) | (with_reducible refine Below.drew ?_) | (with_reducible refine bo_drewN _ ?_) | (with_reducible refine bo_alloc ?_ _) | (refine bchain ?_ (by with_reducible assumption)) | (with_reducible refine Below.setCell ?_ ?_ _) | go_size))))).mono ?_; rw [hok]; rintro x w1 ⟨rfl, hb1⟩
    obtain ⟨hx, hy, hz⟩ := box2 hb1
    have x1 := hx 1
    simp at x1
    have HOK := hide hok
    have hbw : Below w.heap.size w w1 := (by repeat' (first | (with_reducible exact Below.refl _ _) | (with_reducible refine Below.drew ?_) | (with_reducible refine bo_drewN _ ?_) | (with_reducible refine bo_alloc ?_ _) | (refine bchain ?_ (by with_reducible assumption)) | (with_reducible refine Below.setCell ?_ ?_ _) | go_size))
    clear hx hok
    go_wp2_with fail
    go_loopw [3, 12] (fun n i wr => ∃ (k : Nat), i = .int .i64 k ∧ n = .int .i64 (sumW ((T.map Th.d).take k)) ∧ k ≤ T.length ∧ Below w.heap.size w wr) (fun _ i _ => T.length - (intOf i).toNat)
    case atStart => exact ⟨0, rfl, by simp [sumW], Nat.zero_le _, hbw⟩
    case round =>
      obtain ⟨k, rfl, rfl, hk, hb⟩ := hrel
      have hsz := hb.size
      by_cases hlt : k < T.length
      · have hsn := sumW_take T k hlt
        have hbd := sumW_ok HOK.out k
        have hwn := okTh_rng (okM_th HOK.out k hlt)
        obtain ⟨sz0, ad1, cap1, et1, g1, g2, hrd⟩ := H3'.out.row; simp only [Value.slice.injEq] at et1; obtain ⟨rfl, _, rfl⟩ := et1; obtain ⟨b, o, rfl, hbw', hc⟩ := hrd (by omega); obtain ⟨s0, s1, s2, s3⟩ := tv_get T k hlt; have hrt := (H3'.out.st _ (List.getElem_mem hlt)).new hb; obtain ⟨t, htt⟩ : ∃ t, t = T[k] := ⟨_, rfl⟩; rw [← htt] at s0 s1 s2 s3 hrt; obtain ⟨ad0, cap0, hsv0, _⟩ := hrt.2; rw [hsv0] at s0 hrt; have c0 : World.cell? wr ⟨b, o + k * 4, none⟩ = some (.slice ad0 t.st.length cap0) := (by rw [hb.cell (p := ⟨b, o + k * 4, none⟩) hbw']; exact hc _ _ s0); have c1 : World.cell? wr ⟨b, o + k * 4 + 1, none⟩ = some (.int .i64 t.pos) := (by rw [hb.cell (p := ⟨b, o + k * 4 + 1, none⟩) hbw']; exact hc _ _ s1); have c2 : World.cell? wr ⟨b, o + k * 4 + 2, none⟩ = some (.int .i64 t.seen) := (by rw [hb.cell (p := ⟨b, o + k * 4 + 2, none⟩) hbw']; exact hc _ _ s2); have c3 : World.cell? wr ⟨b, o + k * 4 + 3, none⟩ = some (.int .i64 t.won) := (by rw [hb.cell (p := ⟨b, o + k * 4 + 3, none⟩) hbw']; exact hc _ _ s3); have HRT := hide hrt; have HTT := hide htt; clear hc s0 s1 s2 s3 hrt hsv0 hrd htt
        rw [← HTT.out] at hsn hwn
        have hw0 : 0 ≤ t.won := hwn.1
        have hw1 : t.won ≤ 1000000 := hwn.2.1
        have HSN := hide hsn
        clear hsn hwn
        have hbne : b < wr.heap.size := by omega
        generalize sumW (List.take k (List.map Th.d T)) = q at *
        go_wp2_with fail
        go_roundw
        case rel => exact ⟨k + 1, by go_num, by rw [HSN.out], by omega, (by repeat' (first | (with_reducible exact Below.refl _ _) | (with_reducible refine Below.drew ?_) | (with_reducible refine bo_drewN _ ?_) | (with_reducible refine bo_alloc ?_ _) | (refine bchain ?_ (by with_reducible assumption)) | (with_reducible refine Below.setCell ?_ ?_ _) | go_size))⟩
        case measure => simp [intOf]; omega
      · obtain rfl : k = T.length := by omega
        have V := hide (winsM_yes HOK.out)
        rw [List.take_of_length_le (by simp)] at *
        go_wp2_with fail
        go_ret
        exact ⟨by rw [V.out]; rfl, hb⟩

set_option maxHeartbeats 1000000 in
theorem specWins (cv tv0 : Value) (cells : List Int) (T : List Th) (w : World) (hr : ReadM w ⟨cv, cells, tv0, T⟩) :
    Calls Try.prog 20 #[.agg #[cv, tv0]] w fun x w' => x = .returned (.int .i64 (winsM ⟨cells, T.map Th.d⟩)) ∧ Below w.heap.size w w' := by
  obtain ⟨ad, cap, hcv, _⟩ := hr.cel.2; obtain ⟨ad', cap', htv, h2'⟩ := hr.ths.row.2; have HR := hide hr; have H3' := hide hr.ths; clear hr; simp only at hcv htv HR ⊢; subst hcv htv
  have hT : T.length ≤ cap' ∧ cap' ≤ maxLen := ⟨h2'.1, h2'.2.1⟩
  unfold maxLen at hT
  clear h2'
  cases hok : okM ⟨cells, T.map Th.d⟩
  · have V := hide (winsM_no hok)
    go_enter Try.func20, Try.ntmps20
    go_wp2_with fail
    refine (specOkM _ _ cells T _ (HR.out.cel.alloc _) (HR.out.ths.new ((by repeat' (first | (with_reducible exact Below.refl _ _) | (with_reducible refine Below.drew ?_) | (with_reducible refine bo_drewN _ ?_) | (with_reducible refine bo_alloc ?_ _) | (refine bchain ?_ (by with_reducible assumption)) | (with_reducible refine Below.setCell ?_ ?_ _) | go_size))))).mono ?_; rw [hok]; rintro x w1 ⟨rfl, hb1⟩
    go_wp2_with fail
    go_ret
    exact ⟨by rw [V.out]; rfl, (by repeat' (first | (with_reducible exact Below.refl _ _) | (with_reducible refine Below.drew ?_) | (with_reducible refine bo_drewN _ ?_) | (with_reducible refine bo_alloc ?_ _) | (refine bchain ?_ (by with_reducible assumption)) | (with_reducible refine Below.setCell ?_ ?_ _) | go_size))⟩
  · go_enter Try.func20, Try.ntmps20
    go_wp2_with fail
    refine (specOkM _ _ cells T _ (HR.out.cel.alloc _) (HR.out.ths.new ((by repeat' (first | (with_reducible exact Below.refl _ _) | (with_reducible refine Below.drew ?_) | (with_reducible refine bo_drewN _ ?_) | (with_reducible refine bo_alloc ?_ _) | (refine bchain ?_ (by with_reducible assumption)) | (with_reducible refine Below.setCell ?_ ?_ _) | go_size))))).mono ?_; rw [hok]; rintro x w1 ⟨rfl, hb1⟩
    obtain ⟨hx, hy, hz⟩ := box2 hb1
    have x1 := hx 1
    simp at x1
    have HOK := hide hok
    have hbw : Below w.heap.size w w1 := (by repeat' (first | (with_reducible exact Below.refl _ _) | (with_reducible refine Below.drew ?_) | (with_reducible refine bo_drewN _ ?_) | (with_reducible refine bo_alloc ?_ _) | (refine bchain ?_ (by with_reducible assumption)) | (with_reducible refine Below.setCell ?_ ?_ _) | go_size))
    clear hx hok
    go_wp2_with fail
    go_loop [3, 4] (fun n i => ∃ (k : Nat), i = .int .i64 k ∧ n = .int .i64 (sumW ((T.map Th.d).take k)) ∧ k ≤ T.length) (fun _ i => T.length - (intOf i).toNat)
    case atStart => exact ⟨0, rfl, by simp [sumW], Nat.zero_le _⟩
    case round =>
      obtain ⟨k, rfl, rfl, hk⟩ := hrel
      have hsz := hbw.size
      by_cases hlt : k < T.length
      · have hsn := sumW_take T k hlt
        have hbd := sumW_ok HOK.out k
        have hwn := okTh_rng (okM_th HOK.out k hlt)
        obtain ⟨sz0, ad1, cap1, et1, g1, g2, hrd⟩ := H3'.out.row; simp only [Value.slice.injEq] at et1; obtain ⟨rfl, _, rfl⟩ := et1; obtain ⟨b, o, rfl, hbw', hc⟩ := hrd (by omega); obtain ⟨s0, s1, s2, s3⟩ := tv_get T k hlt; have hrt := (H3'.out.st _ (List.getElem_mem hlt)).new hbw; obtain ⟨t, htt⟩ : ∃ t, t = T[k] := ⟨_, rfl⟩; rw [← htt] at s0 s1 s2 s3 hrt; obtain ⟨ad0, cap0, hsv0, _⟩ := hrt.2; rw [hsv0] at s0 hrt; have c0 : World.cell? w1 ⟨b, o + k * 4, none⟩ = some (.slice ad0 t.st.length cap0) := (by rw [hbw.cell (p := ⟨b, o + k * 4, none⟩) hbw']; exact hc _ _ s0); have c1 : World.cell? w1 ⟨b, o + k * 4 + 1, none⟩ = some (.int .i64 t.pos) := (by rw [hbw.cell (p := ⟨b, o + k * 4 + 1, none⟩) hbw']; exact hc _ _ s1); have c2 : World.cell? w1 ⟨b, o + k * 4 + 2, none⟩ = some (.int .i64 t.seen) := (by rw [hbw.cell (p := ⟨b, o + k * 4 + 2, none⟩) hbw']; exact hc _ _ s2); have c3 : World.cell? w1 ⟨b, o + k * 4 + 3, none⟩ = some (.int .i64 t.won) := (by rw [hbw.cell (p := ⟨b, o + k * 4 + 3, none⟩) hbw']; exact hc _ _ s3); have HRT := hide hrt; have HTT := hide htt; clear hc s0 s1 s2 s3 hrt hsv0 hrd htt
        rw [← HTT.out] at hsn hwn
        have hw0 : 0 ≤ t.won := hwn.1
        have hw1 : t.won ≤ 1000000 := hwn.2.1
        have HSN := hide hsn
        clear hsn hwn
        have hbne : b < w1.heap.size := by omega
        generalize sumW (List.take k (List.map Th.d T)) = q at *
        go_wp2_with fail
        go_round
        case rel => exact ⟨k + 1, by go_num, by rw [HSN.out], by omega⟩
        case measure => simp [intOf]; omega
      · obtain rfl : k = T.length := by omega
        have V := hide (winsM_yes HOK.out)
        rw [List.take_of_length_le (by simp)] at *
        go_wp2_with fail
        go_ret
        exact ⟨by rw [V.out]; rfl, hbw⟩
end Go.Proofs.Ytdplpkobpoiioaa
