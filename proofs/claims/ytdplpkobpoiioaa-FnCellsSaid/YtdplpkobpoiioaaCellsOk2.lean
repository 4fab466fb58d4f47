/- Is a Memory right, in the model's words. -/
import Derived.Test.YtdplpkobpoiioaaCellsOk

namespace Go.Proofs.Ytdplpkobpoiioaa
open Go.RowKit
set_option linter.unusedSimpArgs false
set_option linter.unusedVariables false

set_option maxHeartbeats 4000000 in
theorem specOkM (cv tv0 : Value) (cells : List Int) (T : List Th) (w : World) (hrc : Reads w cv cells.length 1 (iv cells)) (hrt : ReadTs w tv0 T) :
    Calls Try.prog 24 #[.agg #[cv, tv0]] w fun x w' => x = .returned (.bool (okM ⟨cells, T.map Th.d⟩)) ∧ Below w.heap.size w w' := by
  have HT := hide hrt.st
  obtain ⟨hl, ad, cap, rfl, h1, h2, h3⟩ := hrc
  obtain ⟨hl', ad', cap', rfl, h1', h2', h3'⟩ := hrt.row
  have H3 := hide h3; have H3' := hide h3'
  clear h3 h3' hrt
  unfold maxLen at h2 h2'
  by_cases h4 : (cells.length : Int) = 4
  · have h4a : 4 ≤ cells.length := by omega
    have h4b : cells.length ≤ 4 := by omega
    have h4c : ((cells.length : Int) != 4) = false := by rw [h4]; rfl
    have D4 := hide h4
    clear h4
    by_cases h6 : (T.length : Int) ≤ 6
    · go_enter Try.func24, Try.ntmps24
      go_wp2_with fail
      go_loop [3] (fun i => ∃ (k : Nat), i = .int .i64 k ∧ k ≤ cells.length ∧ (∀ j (hj : j < cells.length), j < k → rng 0 cells[j] 1000000 = true)) (fun i => cells.length - (intOf i).toNat)
      case atStart => exact ⟨0, rfl, Nat.zero_le _, fun j _ hj => absurd hj (Nat.not_lt_zero _)⟩
      case round =>
        obtain ⟨k, rfl, hk, hall⟩ := hrel
        have HA := hide hall
        clear hall
        by_cases hlt : k < cells.length
        · obtain ⟨b, o, rfl, hbw', hc⟩ := H3.out (by omega)
          have c0 := hc k _ (iv_get cells k (by omega))
          clear hc
          have hbne : b ≠ w.heap.size := by omega
          have hlt4 : (k : Int) < 4 := by omega
          cases hok : rng 0 (cells[k]'(by omega)) 1000000
          · have V := hide (okM_cells (T := T.map Th.d) (all_no (p := fun c => rng 0 c 1000000) k (by omega) hok))
            go_wp2_with (go_at_call 47; refine (in1 _ _ _ _).mono ?_; rw [hok]; rintro x w' ⟨rfl, rfl⟩)
            go_ret
            exact ⟨by rw [V.out]; rfl, (by repeat' (first | (with_reducible exact Below.refl _ _) | (with_reducible refine Below.drew ?_) | (with_reducible refine bo_drewN _ ?_) | (with_reducible refine bo_alloc ?_ _) | (refine bchain ?_ (by with_reducible assumption)) | (with_reducible refine Below.setCell ?_ ?_ _) | go_size))⟩
          · have HK := hide hok
            go_wp2_with (go_at_call 47; refine (in1 _ _ _ _).mono ?_; rw [hok]; rintro x w' ⟨rfl, rfl⟩)
            go_round
            case rel => exact ⟨k + 1, by go_num, by omega, fun j hj hjk => by
              by_cases hje : j = k
              · subst hje; exact HK.out
              · exact HA.out j hj (by omega)⟩
            case measure => simp [intOf]; omega
        · have HY := hide (all_yes (p := fun c => rng 0 c 1000000) fun j hj => HA.out j hj (by omega))
          have hlt4 : ¬ (k : Int) < 4 := by omega
          go_wp2_with fail
          go_loopw [4] (fun i wr => ∃ (k : Nat), i = .int .i64 k ∧ k ≤ T.length ∧ (∀ j (hj : j < T.length), j < k → okTh T[j].d = true) ∧ Below (w.heap.size + 1) (w.alloc (.cells #[.slice ad cells.length cap, .slice ad' T.length cap'] 27)) wr) (fun i _ => T.length - (intOf i).toNat)
          case atStart => exact ⟨0, rfl, Nat.zero_le _, fun j _ hj => absurd hj (Nat.not_lt_zero _), Below.refl _ _⟩
          case round =>
            obtain ⟨k, rfl, hk, hall, hb⟩ := hrel
            have HAT := hide hall
            obtain ⟨hbw, hcell, hfr, hsz⟩ := box1 hb
            have b1 := hcell 1
            simp at b1
            have HB := hide hb
            clear hall hcell hb
            by_cases hlt : k < T.length
            · obtain ⟨b, o, rfl, hbb, hc⟩ := H3'.out (by omega)
              obtain ⟨s0, s1, s2, s3⟩ := tv_get T k hlt
              have hrt := (HT.out _ (List.getElem_mem hlt)).new hbw
              obtain ⟨t, htt⟩ : ∃ t, t = T[k] := ⟨_, rfl⟩
              rw [← htt] at s0 s1 s2 s3 hrt
              obtain ⟨sv0, st, p, s, n⟩ := t
              simp only at s0 s1 s2 s3 hrt
              obtain ⟨hlt', ad0, cap0, rfl, g1, g2, g3⟩ := hrt
              unfold maxLen at g2
              have c0 : World.cell? wr ⟨b, o + k * 4, none⟩ = some (.slice ad0 st.length cap0) := (by rw [hbw.cell (p := ⟨b, o + k * 4, none⟩) hbb]; exact hc _ _ s0)
              have c1 : World.cell? wr ⟨b, o + k * 4 + 1, none⟩ = some (.int .i64 p) := (by rw [hbw.cell (p := ⟨b, o + k * 4 + 1, none⟩) hbb]; exact hc _ _ s1)
              have c2 : World.cell? wr ⟨b, o + k * 4 + 2, none⟩ = some (.int .i64 s) := (by rw [hbw.cell (p := ⟨b, o + k * 4 + 2, none⟩) hbb]; exact hc _ _ s2)
              have c3 : World.cell? wr ⟨b, o + k * 4 + 3, none⟩ = some (.int .i64 n) := (by rw [hbw.cell (p := ⟨b, o + k * 4 + 3, none⟩) hbb]; exact hc _ _ s3)
              have HR := hide g3; have HTT := hide htt
              have hbne : b < wr.heap.size := by omega
              clear hc s0 s1 s2 s3 g3 htt
              have VF : okTh ⟨st, p, s, n⟩ = false → Hid (okM ⟨cells, T.map Th.d⟩ = false) := fun h => okM_ths (C := cells) (all_noD k hlt (by rw [← HTT.out]; exact h))
              by_cases h20 : (st.length : Int) ≤ 20
              · cases hp : rng 0 p st.length
                · have V := VF (okTh_pos hp)
                  clear VF
                  go_wp2_with (go_at_call 47; refine (in1 _ _ _ _).mono ?_; rw [hp]; rintro x w' ⟨rfl, rfl⟩)
                  go_ret
                  exact ⟨by rw [V.out]; rfl, (by repeat' (first | (with_reducible exact Below.refl _ _) | (with_reducible refine Below.drew ?_) | (with_reducible refine bo_drewN _ ?_) | (with_reducible refine bo_alloc ?_ _) | (refine bchain ?_ (by with_reducible assumption)) | (with_reducible refine Below.setCell ?_ ?_ _) | go_size))⟩
                · cases hs : rng 0 s 1000000
                  · have V := VF (okTh_seen hs)
                    clear VF
                    go_wp2_with (go_at_call 47; refine (in1 _ _ _ _).mono ?_; simp only [hp, hs]; rintro x w' ⟨rfl, rfl⟩)
                    go_ret
                    exact ⟨by rw [V.out]; rfl, (by repeat' (first | (with_reducible exact Below.refl _ _) | (with_reducible refine Below.drew ?_) | (with_reducible refine bo_drewN _ ?_) | (with_reducible refine bo_alloc ?_ _) | (refine bchain ?_ (by with_reducible assumption)) | (with_reducible refine Below.setCell ?_ ?_ _) | go_size))⟩
                  · cases hn : rng 0 n 1000000
                    · have V := VF (okTh_won hn)
                      clear VF
                      go_wp2_with (go_at_call 47; refine (in1 _ _ _ _).mono ?_; simp only [hp, hs, hn]; rintro x w' ⟨rfl, rfl⟩)
                      go_ret
                      exact ⟨by rw [V.out]; rfl, (by repeat' (first | (with_reducible exact Below.refl _ _) | (with_reducible refine Below.drew ?_) | (with_reducible refine bo_drewN _ ?_) | (with_reducible refine bo_alloc ?_ _) | (refine bchain ?_ (by with_reducible assumption)) | (with_reducible refine Below.setCell ?_ ?_ _) | go_size))⟩
                    · have HVF := hide VF
                      clear VF
                      go_wp2_with (go_at_call 47; refine (in1 _ _ _ _).mono ?_; simp only [hp, hs, hn]; rintro x w' ⟨rfl, rfl⟩)
                      go_loopw [6] (fun i wi => ∃ (q : Nat), i = .int .i64 q ∧ q ≤ st.length ∧ (∀ j (hj : j < st.length), j < q → okSt st[j] = true) ∧ Below (wr.heap.size + 1) (wr.alloc (.cells #[.slice ad0 st.length cap0, .int .i64 p, .int .i64 s, .int .i64 n] 41)) wi) (fun i _ => st.length - (intOf i).toNat)
                      case atStart => exact ⟨0, rfl, Nat.zero_le _, fun j _ hj => absurd hj (Nat.not_lt_zero _), Below.refl _ _⟩
                      case round =>
                        obtain ⟨q, rfl, hq, hall, hbi⟩ := hrel
                        have HAS := hide hall
                        obtain ⟨hbwi, hcelli, hfri, hszi⟩ := box1 hbi
                        have d0 := hcelli 0
                        simp at d0
                        have HBI := hide hbi
                        clear hall hcelli hbi
                        have b1' : _ = _ := (hbwi.cell (p := ⟨w.heap.size, 1, none⟩) hsz).trans b1
                        by_cases hqt : q < st.length
                        · obtain ⟨b', o', rfl, hbb', hc⟩ := HR.out (by omega)
                          obtain ⟨s0, s1, s2⟩ := sv_get st q hqt
                          have e0 : World.cell? wr ⟨b', o' + q * 3, none⟩ = some (.int .i64 st[q].k) := (by rw [hbwi.cell (p := ⟨b', o' + q * 3, none⟩) hbb']; exact hc _ _ s0)
                          have e1 : World.cell? wr ⟨b', o' + q * 3 + 1, none⟩ = some (.int .i64 st[q].c) := (by rw [hbwi.cell (p := ⟨b', o' + q * 3 + 1, none⟩) hbb']; exact hc _ _ s1)
                          have e2 : World.cell? wr ⟨b', o' + q * 3 + 2, none⟩ = some (.int .i64 st[q].a) := (by rw [hbwi.cell (p := ⟨b', o' + q * 3 + 2, none⟩) hbb']; exact hc _ _ s2)
                          clear hc s0 s1 s2
                          cases hok : okSt st[q]
                          · have V := HVF.out (okTh_st (all_no q hqt hok))
                            go_wp2_with fail
                            refine (specStep st[q] _).mono ?_; rw [hok]; rintro x w1 ⟨rfl, hb1⟩
                            go_wp2_with fail
                            go_ret
                            exact ⟨by rw [V.out]; rfl, bchain (bchain hbw hbwi) hb1⟩
                          · have HK := hide hok
                            go_wp2_with fail
                            refine (specStep st[q] _).mono ?_; rw [hok]; rintro x w1 ⟨rfl, hb1⟩
                            have HBI2 := hide (HBI.out.trans (hb1.mono (by omega)))
                            clear hok
                            go_wp2_with fail
                            go_roundw
                            case rel => exact ⟨q + 1, by go_num, by omega, fun j hj hjk => by
                              by_cases hje : j = q
                              · subst hje; exact HK.out
                              · exact HAS.out j hj (by omega), HBI2.out⟩
                            case measure => simp [intOf]; omega
                        · have hyes : okTh ⟨st, p, s, n⟩ = true := okTh_end h20 hp hs hn (all_yes fun j hj => HAS.out j hj (by omega))
                          have HY2 := hide hyes
                          clear hyes
                          go_wp2_with fail
                          go_roundw
                          case rel => exact ⟨k + 1, by go_num, by omega, fun j hj hjk => by
                            by_cases hje : j = k
                            · subst hje; rw [← HTT.out]; exact HY2.out
                            · exact HAT.out j hj (by omega), HB.out.trans (hbwi.mono (by omega))⟩
                          case measure => simp [intOf]; omega
              · have V := VF (okTh_len h20)
                clear VF
                go_wp2_with fail
                go_ret
                exact ⟨by rw [V.out]; rfl, (by repeat' (first | (with_reducible exact Below.refl _ _) | (with_reducible refine Below.drew ?_) | (with_reducible refine bo_drewN _ ?_) | (with_reducible refine bo_alloc ?_ _) | (refine bchain ?_ (by with_reducible assumption)) | (with_reducible refine Below.setCell ?_ ?_ _) | go_size))⟩
            · have V := hide (okM_end D4.out (by simpa using h6) HY.out (all_yesD fun j hj => HAT.out j hj (by omega)))
              go_wp2_with fail
              go_ret
              exact ⟨by rw [V.out]; rfl, hbw⟩
    · have V := hide (okM_six (C := cells) (T := T.map Th.d) (by simpa using h6))
      go_enter Try.func24, Try.ntmps24
      go_wp2_with fail
      go_ret
      exact ⟨by rw [V.out]; rfl, (by repeat' (first | (with_reducible exact Below.refl _ _) | (with_reducible refine Below.drew ?_) | (with_reducible refine bo_drewN _ ?_) | (with_reducible refine bo_alloc ?_ _) | (refine bchain ?_ (by with_reducible assumption)) | (with_reducible refine Below.setCell ?_ ?_ _) | go_size))⟩
  · have V := hide (okM_four (T := T.map Th.d) h4)
    have h4' : ((cells.length : Int) != 4) = true := by simpa using h4
    go_enter Try.func24, Try.ntmps24
    go_wp2_with fail
    go_ret
    exact ⟨by rw [V.out]; rfl, (by repeat' (first | (with_reducible exact Below.refl _ _) | (with_reducible refine Below.drew ?_) | (with_reducible refine bo_drewN _ ?_) | (with_reducible refine bo_alloc ?_ _) | (refine bchain ?_ (by with_reducible assumption)) | (with_reducible refine Below.setCell ?_ ?_ _) | go_size))⟩
end Go.Proofs.Ytdplpkobpoiioaa
