/- Chapter 11's program: when a Line and a Round are right, what waits. -/
import Derived.Test.YteojibdnphaooaaTurnSpec1

namespace Go.Proofs.Yteojibdnphaooaa
open Go.RowKit
set_option maxRecDepth 100000
set_option linter.unusedSimpArgs false
set_option linter.unusedVariables false
set_option maxHeartbeats 1000000 in
theorem lright (x : LineD) (v : Value) (w : World) (hr : RdR intS w v x.sz) : Calls Try.prog 49 #[.agg #[.int .i64 x.wt, .int .i64 x.left, v]] w fun z w' => z = .returned (.bool (okLn x)) ∧ Below w.heap.size w w' := by
  obtain ⟨az, pz, rfl, hs1, hs2⟩ := hr.form
  obtain ⟨A, hA⟩ : ∃ A, okLn x = A := ⟨_, rfl⟩
  rw [hA]
  have HA := hide hA
  clear hA
  have hbx : Below w.heap.size w (w.alloc (.cells #[.int .i64 x.wt, .int .i64 x.left, .slice az x.sz.length pz] 35)) := (Below.refl _ _).alloc (Nat.le_refl _) _
  have HSZ := hide (hr.new hbx)
  clear hr
  cases i1 : inB x.wt 1 10
  · have HF : Hid (A = false) := by show _ = _; rw [← HA.out]; exact lnn_false fun c => inB_false i1 c.1
    go_enter Try.func49, Try.ntmps49; go_wp2_with fail
    refine (implWithin _ _ _ _).mono ?_; rw [i1]; rintro e w1 ⟨rfl, hsame⟩; obtain rfl := hsame.symm; clear hsame; go_wp2_with fail
    go_ret
    exact ⟨by rw [HF.out]; rfl, hbx⟩
  cases i2 : inB x.left 0 2000
  · have HF : Hid (A = false) := by show _ = _; rw [← HA.out]; exact lnn_false fun c => inB_false i2 c.2.1
    go_enter Try.func49, Try.ntmps49; go_wp2_with fail
    refine (implWithin _ _ _ _).mono ?_; rw [i1]; rintro e w1 ⟨rfl, hsame⟩; obtain rfl := hsame.symm; clear hsame; go_wp2_with fail
    refine (implWithin _ _ _ _).mono ?_; rw [i2]; rintro e w1 ⟨rfl, hsame⟩; obtain rfl := hsame.symm; clear hsame; go_wp2_with fail
    go_ret
    exact ⟨by rw [HF.out]; rfl, hbx⟩
  by_cases i3 : 30 < x.sz.length
  · have i3' : (30 : Int) < x.sz.length := by omega
    have HF : Hid (A = false) := by show _ = _; rw [← HA.out]; exact lnn_false fun c => by omega
    go_enter Try.func49, Try.ntmps49; go_wp2_with fail
    refine (implWithin _ _ _ _).mono ?_; rw [i1]; rintro e w1 ⟨rfl, hsame⟩; obtain rfl := hsame.symm; clear hsame; go_wp2_with fail
    refine (implWithin _ _ _ _).mono ?_; rw [i2]; rintro e w1 ⟨rfl, hsame⟩; obtain rfl := hsame.symm; clear hsame; go_wp2_with fail
    go_ret
    exact ⟨by rw [HF.out]; rfl, hbx⟩
  have i3' : ¬ (30 : Int) < x.sz.length := by omega
  go_enter Try.func49, Try.ntmps49; go_wp2_with fail
  refine (implWithin _ _ _ _).mono ?_; rw [i1]; rintro e w1 ⟨rfl, hsame⟩; obtain rfl := hsame.symm; clear hsame; go_wp2_with fail
  refine (implWithin _ _ _ _).mono ?_; rw [i2]; rintro e w1 ⟨rfl, hsame⟩; obtain rfl := hsame.symm; clear hsame; go_wp2_with fail
  generalize w.alloc (.cells #[.int .i64 x.wt, .int .i64 x.left, .slice az x.sz.length pz] 35) = W at *
  go_loop [24, 4] (fun i _ => ∃ k : Nat, i = .int .i64 k ∧ k ≤ x.sz.length ∧ Hid (∀ q (hq : q < x.sz.length), q < k → 1 ≤ x.sz[q] ∧ x.sz[q] ≤ 100)) (fun i _ => x.sz.length - (intOf i).toNat)
  case atStart => exact ⟨0, rfl, Nat.zero_le _, fun q _ h => absurd h (Nat.not_lt_zero _)⟩
  case round =>
    obtain ⟨k, rfl, hk, HK⟩ := hrel
    by_cases hks : k < x.sz.length
    · have hksI : (k : Int) < x.sz.length := by omega
      obtain ⟨b', o', rfl, hb', ck⟩ := ints_at HSZ.out hks
      obtain ⟨e, he⟩ : ∃ e, x.sz[k] = e := ⟨_, rfl⟩
      rw [he] at ck
      cases i4 : inB e 1 100
      · have HF : Hid (A = false) := by show _ = _; rw [← HA.out]; exact lnn_false fun c => inB_false i4 (by rw [← he]; exact c.2.2.2 _ (List.getElem_mem hks))
        clear he
        go_wp2_with fail
        refine (implWithin _ _ _ _).mono ?_; rw [i4]; rintro e w1 ⟨rfl, hsame⟩; obtain rfl := hsame.symm; clear hsame; go_wp2_with fail
        go_ret
        exact ⟨by rw [HF.out]; rfl, hbx⟩
      · have HK2 : Hid (∀ q (hq : q < x.sz.length), q < k + 1 → 1 ≤ x.sz[q] ∧ x.sz[q] ≤ 100) := fun q hq hqk => by
          by_cases e1 : q = k
          · subst e1; rw [he]; exact inB_true i4
          · exact HK.out q hq (by omega)
        clear he
        go_wp2_with fail
        refine (implWithin _ _ _ _).mono ?_; rw [i4]; rintro e w1 ⟨rfl, hsame⟩; obtain rfl := hsame.symm; clear hsame; go_wp2_with fail
        go_round
        case rel => first | exact ⟨k + 1, by go_num, by omega, HK2⟩ | exact ⟨k + 1, by omega, by omega, HK2⟩
        case measure => simp [intOf]; omega
    · have hksI : ¬ (k : Int) < x.sz.length := by omega
      have HT : Hid (A = true) := by
        show _ = _; rw [← HA.out]
        exact okLn_iff.2 ⟨inB_true i1, inB_true i2, by omega, fun z hz => by
          obtain ⟨q, hq, rfl⟩ := List.getElem_of_mem hz
          exact HK.out q hq (by omega)⟩
      go_wp2_with fail
      go_ret
      exact ⟨by rw [HT.out]; rfl, hbx⟩
set_option maxHeartbeats 2000000 in
theorem rright (d : RoundD) (v : Value) (w : World) (hr : RdR lineS w v d.ls) : Calls Try.prog 30 #[.agg #[.int .i64 d.turn, .bool d.given, v]] w fun x w' => x = .returned (.bool (okRn d)) ∧ Below w.heap.size w w' := by
  obtain ⟨ad, cap, rfl, h1, h2⟩ := hr.form
  obtain ⟨A, hA⟩ : ∃ A, okRn d = A := ⟨_, rfl⟩
  rw [hA]
  have HA := hide hA
  clear hA
  have hbx : Below w.heap.size w (w.alloc (.cells #[.int .i64 d.turn, .bool d.given, .slice ad d.ls.length cap] 26)) := (Below.refl _ _).alloc (Nat.le_refl _) _
  cases g1 : inB (d.ls.length : Int) 1 6
  · have HF : Hid (A = false) := by
      show _ = _; rw [← HA.out]
      have := inB_false g1
      exact rn_false fun c => by omega
    go_enter Try.func30, Try.ntmps30; go_wp2_with fail
    refine (implWithin _ _ _ _).mono ?_; rw [g1]; rintro e w1 ⟨rfl, hsame⟩; obtain rfl := hsame.symm; clear hsame; go_wp2_with fail
    go_ret
    exact ⟨by rw [HF.out]; rfl, hbx⟩
  have g1' := inB_true g1
  cases g3 : inB d.turn 0 ((d.ls.length : Int) - 1)
  · have HF : Hid (A = false) := by
      show _ = _; rw [← HA.out]
      have := inB_false g3
      exact rn_false fun c => by omega
    go_enter Try.func30, Try.ntmps30; go_wp2_with fail
    refine (implWithin _ _ _ _).mono ?_; rw [g1]; rintro e w1 ⟨rfl, hsame⟩; obtain rfl := hsame.symm; clear hsame; go_wp2_with fail
    refine (implWithin _ _ _ _).mono ?_; rw [g3]; rintro e w1 ⟨rfl, hsame⟩; obtain rfl := hsame.symm; clear hsame; go_wp2_with fail
    go_ret
    exact ⟨by rw [HF.out]; rfl, hbx⟩
  have g3' := inB_true g3
  have HR := hide (hr.new hbx)
  have RB := hide (rowIs_new w 26 [.int .i64 d.turn, .bool d.given, .slice ad d.ls.length cap])
  clear hr
  go_enter Try.func30, Try.ntmps30; go_wp2_with fail
  refine (implWithin _ _ _ _).mono ?_; rw [g1]; rintro e w1 ⟨rfl, hsame⟩; obtain rfl := hsame.symm; clear hsame; go_wp2_with fail
  refine (implWithin _ _ _ _).mono ?_; rw [g3]; rintro e w1 ⟨rfl, hsame⟩; obtain rfl := hsame.symm; clear hsame; go_wp2_with fail
  generalize w.alloc (.cells #[.int .i64 d.turn, .bool d.given, .slice ad d.ls.length cap] 26) = W at *
  go_loopw [23, 5] (fun i _ wr => ∃ (j : Nat), i = .int .i64 j ∧ j ≤ d.ls.length ∧ Hid (∀ q (hq : q < d.ls.length), q < j → okLn d.ls[q] = true) ∧ Hid (Below W.heap.size W wr)) (fun i _ _ => d.ls.length - (intOf i).toNat)
  case atStart => exact ⟨0, rfl, Nat.zero_le _, fun q _ h => absurd h (Nat.not_lt_zero _), hide (Below.refl _ _)⟩
  case round =>
    obtain ⟨j, rfl, hj, HJ, HB⟩ := hrel
    by_cases hlt : j < d.ls.length
    rotate_left
    · have hltI : ¬ (j : Int) < d.ls.length := by omega
      have HT : Hid (A = true) := by
        show _ = _; rw [← HA.out]
        refine okRn_iff.2 ⟨by omega, by omega, fun x hx => ?_⟩
        obtain ⟨q, hq, rfl⟩ := List.getElem_of_mem hx
        exact HJ.out q hq (by omega)
      go_wp2_with fail
      go_ret
      exact ⟨by rw [HT.out]; rfl, bchain hbx HB.out⟩
    have hltI : (j : Int) < d.ls.length := by omega
    have hrk := (HR.out.new HB.out).at j hlt
    have HLF : Hid (okLn d.ls[j] = false → A = false) := fun h => by rw [← HA.out]; exact ln_false hlt h
    have HLT : Hid (okLn d.ls[j] = true → ∀ q (hq : q < d.ls.length), q < j + 1 → okLn d.ls[q] = true) := fun h q hq hqj => by
      by_cases e : q = j
      · subst e; exact h
      · exact HJ.out q hq (by omega)
    obtain ⟨x, hx⟩ : ∃ x, x = d.ls[j] := ⟨_, rfl⟩
    rw [← hx] at hrk HLF HLT
    clear hx
    obtain ⟨b, o, cs, rfl, hb1, hrd, hc⟩ := hrk
    obtain ⟨vsz, rfl, hsz⟩ := hrd
    obtain ⟨az, pz, rfl, hs1, hs2⟩ := hsz.form
    have c0 : wr.cell? ⟨b, o + j * 3, none⟩ = some (.int .i64 x.wt) := hc 0 _ rfl
    have c1 : wr.cell? ⟨b, o + j * 3 + 1, none⟩ = some (.int .i64 x.left) := hc 1 _ rfl
    have c2 : wr.cell? ⟨b, o + j * 3 + 2, none⟩ = some (.slice az x.sz.length pz) := hc 2 _ rfl
    have hX : Below wr.heap.size wr (wr.alloc (.cells #[.int .i64 x.wt, .int .i64 x.left, .slice az x.sz.length pz] 35)) := (Below.refl _ _).alloc (Nat.le_refl _) _
    have hcl := lright x _ _ (hsz.new hX)
    have HBX := hide (bchain HB.out hX)
    clear hc hsz
    go_wp2_with fail
    generalize wr.alloc (.cells #[.int .i64 x.wt, .int .i64 x.left, .slice az x.sz.length pz] 35) = WX at *
    clear hX
    cases hk : okLn x
    · have HF : Hid (A = false) := HLF.out hk
      rw [hk] at hcl
      refine hcl.mono ?_
      rintro z w2 ⟨rfl, hb2⟩
      go_wp2_with fail
      go_ret
      exact ⟨by rw [HF.out]; rfl, bchain hbx (bchain HBX.out hb2)⟩
    · have HJ2 := hide (HLT.out hk)
      rw [hk] at hcl
      refine hcl.mono ?_
      rintro z w2 ⟨rfl, hb2⟩
      have HB2 := hide (bchain HBX.out hb2)
      clear hb2 hcl hk
      go_wp2_with fail
      go_roundw
      case rel => first | exact ⟨j + 1, by go_num, by omega, HJ2, HB2⟩ | exact ⟨j + 1, by omega, by omega, HJ2, HB2⟩
      case measure => simp [intOf]; omega
set_option maxHeartbeats 1000000 in
theorem rwaiting (d : RoundD) (v : Value) (w : World) (hr : RdR lineS w v d.ls) (hok : okRn d = true) : Calls Try.prog 32 #[.agg #[.int .i64 d.turn, .bool d.given, v]] w fun x w' => x = .returned (.int .i64 (waitLs d.ls)) ∧ Below w.heap.size w w' := by
  obtain ⟨ad, cap, rfl, h1, h2⟩ := hr.form
  obtain ⟨⟨n1, n6⟩, _, hall⟩ := okRn_iff.1 hok
  have HALL := hide hall
  clear hall hok
  obtain ⟨A, hA⟩ : ∃ A, waitLs d.ls = A := ⟨_, rfl⟩
  rw [hA]
  have HA := hide hA
  clear hA
  have hbx : Below w.heap.size w (w.alloc (.cells #[.int .i64 d.turn, .bool d.given, .slice ad d.ls.length cap] 26)) := (Below.refl _ _).alloc (Nat.le_refl _) _
  have HR := hide (hr.new hbx)
  have RB := rowIs_new w 26 [.int .i64 d.turn, .bool d.given, .slice ad d.ls.length cap]
  clear hr
  go_enter Try.func32, Try.ntmps32
  go_wp2_with fail
  generalize w.alloc (.cells #[.int .i64 d.turn, .bool d.given, .slice ad d.ls.length cap] 26) = W at *
  clear RB
  go_loopw [3, 11, 5, 7] (fun s i _ _ wr => ∃ (j : Nat) (z : Int), i = .int .i64 j ∧ s = .int .i64 z ∧ j ≤ d.ls.length ∧ 0 ≤ z ∧ z ≤ 3000 * j ∧ Hid (z = waitLs (d.ls.take j)) ∧ Hid (Below W.heap.size W wr)) (fun _ i _ _ _ => d.ls.length - (intOf i).toNat)
  case atStart => exact ⟨0, 0, rfl, rfl, Nat.zero_le _, by omega, by omega, hide rfl, hide (Below.refl _ _)⟩
  case round =>
    obtain ⟨j, z, rfl, rfl, hj, z0, z1, HZ, HB⟩ := hrel
    by_cases hlt : j < d.ls.length
    · have hltI : (j : Int) < d.ls.length := by omega
      have hrk := (HR.out.new HB.out).at j hlt
      have hxo := HALL.out _ (List.getElem_mem hlt)
      have HT2 := hide (wait_take hlt)
      obtain ⟨x, hx⟩ : ∃ x, x = d.ls[j] := ⟨_, rfl⟩
      rw [← hx] at hrk hxo HT2
      clear hx
      obtain ⟨b, o, cs, rfl, hb1, hrd, hc⟩ := hrk
      obtain ⟨vsz, rfl, hsz⟩ := hrd
      obtain ⟨az, pz, rfl, hs1, hs2⟩ := hsz.form
      have c0 : wr.cell? ⟨b, o + j * 3, none⟩ = some (.int .i64 x.wt) := hc 0 _ rfl
      have c1 : wr.cell? ⟨b, o + j * 3 + 1, none⟩ = some (.int .i64 x.left) := hc 1 _ rfl
      have c2 : wr.cell? ⟨b, o + j * 3 + 2, none⟩ = some (.slice az x.sz.length pz) := hc 2 _ rfl
      have hX : Below wr.heap.size wr (wr.alloc (.cells #[.int .i64 x.wt, .int .i64 x.left, .slice az x.sz.length pz] 35)) := (Below.refl _ _).alloc (Nat.le_refl _) _
      have HSZ := hide (hsz.new hX)
      have HBX := hide (bchain HB.out hX)
      clear hc hsz
      obtain ⟨_, _, l30, hzz⟩ := okLn_iff.1 hxo
      have HZZ := hide hzz
      clear hzz hxo
      go_wp2_with fail
      generalize wr.alloc (.cells #[.int .i64 x.wt, .int .i64 x.left, .slice az x.sz.length pz] 35) = WX at *
      clear hX
      go_loop [3, 18, 7] (fun s i _ => ∃ (k : Nat) (y : Int), i = .int .i64 k ∧ s = .int .i64 y ∧ k ≤ x.sz.length ∧ 0 ≤ y ∧ y ≤ 3000 * j + 100 * k ∧ Hid (y = z + sumZ (x.sz.take k))) (fun _ i _ => x.sz.length - (intOf i).toNat)
      case atStart => exact ⟨0, z, rfl, rfl, Nat.zero_le _, by omega, by omega, hide (by simp [sumZ])⟩
      case round =>
        obtain ⟨k, y, rfl, rfl, hk, y0, y1, HY⟩ := hrel
        by_cases hks : k < x.sz.length
        · have hksI : (k : Int) < x.sz.length := by omega
          obtain ⟨b', o', rfl, hb', ck⟩ := ints_at HSZ.out hks
          have hbd := HZZ.out _ (List.getElem_mem hks)
          have HS2 := hide (sumZ_take hks)
          obtain ⟨e, he⟩ : ∃ e, x.sz[k] = e := ⟨_, rfl⟩
          rw [he] at ck hbd HS2
          clear he
          obtain ⟨e0, e1⟩ := hbd
          go_wp2_with fail
          go_round
          case rel => exact ⟨k + 1, y + e, by go_num, rfl, by omega, by omega, by omega, hide (by have := HY.out; have := HS2.out; omega)⟩
          case measure => simp [intOf]; omega
        · have hksI : ¬ (k : Int) < x.sz.length := by omega
          have HY2 : Hid (y = waitLs (d.ls.take (j + 1))) := by
            show _ = _
            rw [HY.out, HT2.out, ← HZ.out, List.take_of_length_le (by omega)]
          go_wp2_with fail
          go_roundw
          case rel => first | exact ⟨j + 1, y, by go_num, rfl, by omega, y0, by omega, HY2, HBX⟩ | exact ⟨j + 1, y, by omega, rfl, by omega, y0, by omega, HY2, HBX⟩
          case measure => simp [intOf]; omega
    · have hltI : ¬ (j : Int) < d.ls.length := by omega
      have HE : Hid (z = A) := by show _ = _; rw [HZ.out, ← HA.out, List.take_of_length_le (by omega)]
      go_wp2_with fail
      go_ret
      exact ⟨by rw [← HE.out]; rfl, bchain hbx HB.out⟩
set_option maxHeartbeats 1000000 in
theorem implRoundOk (d : RoundD) (v : Value) (w : World) (hr : RdR lineS w v d.ls) : Calls Try.prog 14 #[.agg #[.int .i64 d.turn, .bool d.given, v]] w fun x w' => x = .returned (.bool (okRn d)) ∧ Below w.heap.size w w' := by
  obtain ⟨ad, cap, rfl, h1, h2⟩ := hr.form
  have hbx : Below w.heap.size w (w.alloc (.cells #[.int .i64 d.turn, .bool d.given, .slice ad d.ls.length cap] 26)) := (Below.refl _ _).alloc (Nat.le_refl _) _
  have hcl := rright d _ _ (hr.new hbx)
  clear hr
  generalize okRn d = A at *
  go_enter Try.func14, Try.ntmps14
  go_wp2_with fail
  refine hcl.mono ?_
  rintro z w1 ⟨rfl, hb1⟩
  go_wp2_with fail
  go_ret
  exact ⟨rfl, bchain hbx hb1⟩
set_option maxHeartbeats 1000000 in
theorem implWaiting (d : RoundD) (v : Value) (w : World) (hr : RdR lineS w v d.ls) : Calls Try.prog 21 #[.agg #[.int .i64 d.turn, .bool d.given, v]] w fun x w' => x = .returned (.int .i64 (waitingD d)) ∧ Below w.heap.size w w' := by
  obtain ⟨ad, cap, rfl, h1, h2⟩ := hr.form
  have hbx : Below w.heap.size w (w.alloc (.cells #[.int .i64 d.turn, .bool d.given, .slice ad d.ls.length cap] 26)) := (Below.refl _ _).alloc (Nat.le_refl _) _
  have RB := rowIs_new w 26 [.int .i64 d.turn, .bool d.given, .slice ad d.ls.length cap]
  have hcl := rright d _ _ (hr.new hbx)
  have HR := hide (hr.new hbx)
  have HBX := hide hbx
  clear hr hbx
  cases hok : okRn d
  · have hv : waitingD d = -1 := by unfold waitingD; rw [if_neg (by rw [hok]; decide)]
    rw [hv]
    rw [hok] at hcl
    clear hv hok
    go_enter Try.func21, Try.ntmps21
    go_wp2_with fail
    refine hcl.mono ?_
    rintro z w1 ⟨rfl, hb1⟩
    go_wp2_with fail
    go_ret
    exact ⟨rfl, bchain HBX.out hb1⟩
  · have hv : waitingD d = waitLs d.ls := by unfold waitingD; rw [if_pos hok]
    rw [hv]
    rw [hok] at hcl
    have HOK := hide hok
    clear hv hok
    have hcw := fun w h => rwaiting d (.slice ad d.ls.length cap) w h HOK.out
    generalize waitLs d.ls = A at *
    go_enter Try.func21, Try.ntmps21
    go_wp2_with fail
    generalize w.alloc (.cells #[.int .i64 d.turn, .bool d.given, .slice ad d.ls.length cap] 26) = W at *
    refine hcl.mono ?_
    rintro z w1 ⟨rfl, hb1⟩
    have RB1 := RB.new hb1
    have k0 := RB1.cell (j := 0) rfl
    have k1 := RB1.cell (j := 1) rfl
    have k2 := RB1.cell (j := 2) rfl
    have kl := RB1.lt
    have hcw1 := hcw w1 (HR.out.new hb1)
    clear hcl RB RB1 hcw
    go_wp2_with fail
    refine hcw1.mono ?_
    rintro z w2 ⟨rfl, hb2⟩
    go_wp2_with fail
    go_ret
    exact ⟨rfl, bchain (bchain HBX.out hb1) hb2⟩
end Go.Proofs.Yteojibdnphaooaa
