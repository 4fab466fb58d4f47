/- Chapter 11's model: what waits, and when a round is right. -/
import Derived.Test.YteojibdnphaooaaTurnMath
import Derived.Test.YteojibdnphaooaaRowIs
import Derived.Test.YteojibdnphaooaaLater
import Derived.Deep.Cut
import Derived.Deep.DeepCutAuto

namespace Go.Proofs.Yteojibdnphaooaa
open Go.RowKit
set_option maxRecDepth 100000
set_option linter.unusedSimpArgs false
set_option linter.unusedVariables false
theorem sumZ_take {l : List Int} {k : Nat} (h : k < l.length) : sumZ (l.take (k + 1)) = sumZ (l.take k) + l[k] := by
  induction l generalizing k with
  | nil => simp at h
  | cons x l ih =>
    cases k with
    | zero => simp [sumZ]
    | succ k =>
      have := ih (k := k) (by simpa using h)
      simp only [List.take_succ_cons, sumZ, List.getElem_cons_succ]
      omega
theorem wait_take {L : List LineD} {j : Nat} (h : j < L.length) : waitLs (L.take (j + 1)) = waitLs (L.take j) + sumZ L[j].sz := by
  induction L generalizing j with
  | nil => simp at h
  | cons x L ih =>
    cases j with
    | zero => simp [waitLs]
    | succ j =>
      have := ih (j := j) (by simpa using h)
      simp only [List.take_succ_cons, waitLs, List.getElem_cons_succ]
      omega
theorem ints_at {w : World} {ad : Option Addr} {n cap k : Nat} {L : List Int} (h : RdR intS w (.slice ad n cap) L) (hk : k < L.length) : ∃ b o, ad = some ⟨b, o, none⟩ ∧ b < w.heap.size ∧ w.cell? ⟨b, o + k, none⟩ = some (.int .i64 L[k]) := by
  obtain ⟨b, o, cs, e, hb, hrd, hc⟩ := h.at k hk
  have hrd' : cs = [.int .i64 L[k]] := hrd
  subst hrd'
  have h0 := hc 0 _ rfl
  have e1 : o + k * intS.size + 0 = o + k := by show o + k * 1 + 0 = o + k; omega
  rw [e1] at h0
  exact ⟨b, o, e, hb, h0⟩
set_option maxHeartbeats 1000000 in
theorem waiting1 (d : RoundD) (v : Value) (w : World) (hr : RdR lineS w v d.ls) (hok : okRn d = true) : Calls Try.prog 43 #[.agg #[.int .i64 d.turn, .bool d.given, v]] w fun x w' => x = .returned (.int .i64 (waitLs d.ls)) ∧ Below w.heap.size w w' := by
  obtain ⟨ad, cap, rfl, h1, h2⟩ := hr.form
  obtain ⟨⟨n1, n6⟩, _, hall⟩ := okRn_iff.1 hok
  have HALL := hide hall
  clear hall hok
  obtain ⟨A, hA⟩ : ∃ A, waitLs d.ls = A := ⟨_, rfl⟩
  rw [hA]
  have HA := hide hA
  clear hA
  have hbx : Below w.heap.size w (w.alloc (.cells #[.int .i64 d.turn, .bool d.given, .slice ad d.ls.length cap] 26)) := (Below.refl _ _).alloc (Nat.le_refl _) _
  have HR := hide (hr.new hbx)
  have RB := rowIs_new w 26 [.int .i64 d.turn, .bool d.given, .slice ad d.ls.length cap]
  clear hr
  go_enter Try.func43, Try.ntmps43
  go_wp2_with fail
  generalize w.alloc (.cells #[.int .i64 d.turn, .bool d.given, .slice ad d.ls.length cap] 26) = W at *
  have k2 := RowIs.cell (j := 2) RB rfl
  have kl := RB.lt
  go_loop [3, 4, 5] (fun s i _ => ∃ (j : Nat) (z : Int), i = .int .i64 j ∧ s = .int .i64 z ∧ j ≤ d.ls.length ∧ 0 ≤ z ∧ z ≤ 3000 * j ∧ Hid (z = waitLs (d.ls.take j))) (fun _ i _ => d.ls.length - (intOf i).toNat)
  case atStart => exact ⟨0, 0, rfl, rfl, Nat.zero_le _, by omega, by omega, hide rfl⟩
  case round =>
    obtain ⟨j, z, rfl, rfl, hj, z0, z1, HZ⟩ := hrel
    by_cases hlt : j < d.ls.length
    · have hltI : (j : Int) < d.ls.length := by omega
      have hrk := HR.out.at j hlt
      have hxo := HALL.out _ (List.getElem_mem hlt)
      have HT2 := hide (wait_take hlt)
      obtain ⟨x, hx⟩ : ∃ x, x = d.ls[j] := ⟨_, rfl⟩
      rw [← hx] at hrk hxo HT2
      clear hx
      obtain ⟨b, o, cs, rfl, hb1, hrd, hc⟩ := hrk
      obtain ⟨vsz, rfl, hsz⟩ := hrd
      obtain ⟨az, pz, rfl, hs1, hs2⟩ := hsz.form
      have c2 : W.cell? ⟨b, o + j * 3 + 2, none⟩ = some (.slice az x.sz.length pz) := hc 2 _ rfl
      have HSZ := hide hsz
      clear hc hsz
      obtain ⟨_, _, l30, hzz⟩ := okLn_iff.1 hxo
      have HZZ := hide hzz
      clear hzz hxo
      go_wp2_with fail
      go_loop [3, 5] (fun s i => ∃ (k : Nat) (y : Int), i = .int .i64 k ∧ s = .int .i64 y ∧ k ≤ x.sz.length ∧ 0 ≤ y ∧ y ≤ 3000 * j + 100 * k ∧ Hid (y = z + sumZ (x.sz.take k))) (fun _ i => x.sz.length - (intOf i).toNat)
      case atStart => exact ⟨0, z, rfl, rfl, Nat.zero_le _, by omega, by omega, hide (by simp [sumZ])⟩
      case round =>
        obtain ⟨k, y, rfl, rfl, hk, y0, y1, HY⟩ := hrel
        by_cases hks : k < x.sz.length
        · have hksI : (k : Int) < x.sz.length := by omega
          obtain ⟨b', o', rfl, hb', ck⟩ := ints_at HSZ.out hks
          have hbd := HZZ.out _ (List.getElem_mem hks)
          have HS2 := hide (sumZ_take hks)
          obtain ⟨e, he⟩ : ∃ e, x.sz[k] = e := ⟨_, rfl⟩
          rw [he] at ck hbd HS2
          clear he
          obtain ⟨e0, e1⟩ := hbd
          go_wp2_with fail
          go_round
          case rel => exact ⟨k + 1, y + e, by go_num, rfl, by omega, by omega, by omega, hide (by have := HY.out; have := HS2.out; omega)⟩
          case measure => simp [intOf]; omega
        · have hksI : ¬ (k : Int) < x.sz.length := by omega
          have HY2 : Hid (y = waitLs (d.ls.take (j + 1))) := by
            show _ = _
            rw [HY.out, HT2.out, ← HZ.out, List.take_of_length_le (by omega)]
          go_wp2_with fail
          go_round
          case rel => first | exact ⟨j + 1, y, by go_num, rfl, by omega, y0, by omega, HY2⟩ | exact ⟨j + 1, y, by omega, rfl, by omega, y0, by omega, HY2⟩
          case measure => simp [intOf]; omega
    · have hltI : ¬ (j : Int) < d.ls.length := by omega
      have HE : Hid (z = A) := by show _ = _; rw [HZ.out, ← HA.out, List.take_of_length_le (by omega)]
      go_wp2_with fail
      go_ret
      exact ⟨by rw [← HE.out]; rfl, hbx⟩
theorem rn_false {d : RoundD} (h : ¬ ((1 ≤ d.ls.length ∧ d.ls.length ≤ 6) ∧ (0 ≤ d.turn ∧ d.turn < d.ls.length) ∧ ∀ x ∈ d.ls, okLn x = true)) : okRn d = false := by
  cases e : okRn d
  · rfl
  · exact absurd (okRn_iff.1 e) h
theorem ln_false {d : RoundD} {j : Nat} (hj : j < d.ls.length) (h : okLn d.ls[j] = false) : okRn d = false := rn_false fun c => by
  have := c.2.2 _ (List.getElem_mem hj)
  rw [h] at this
  cases this
theorem lnn_false {x : LineD} (h : ¬ ((1 ≤ x.wt ∧ x.wt ≤ 10) ∧ (0 ≤ x.left ∧ x.left ≤ 2000) ∧ x.sz.length ≤ 30 ∧ ∀ z ∈ x.sz, 1 ≤ z ∧ z ≤ 100)) : okLn x = false := by
  cases e : okLn x
  · rfl
  · exact absurd (okLn_iff.1 e) h
set_option maxHeartbeats 2000000 in
theorem specRoundOk (d : RoundD) (v : Value) (w : World) (hr : RdR lineS w v d.ls) : Calls Try.prog 15 #[.agg #[.int .i64 d.turn, .bool d.given, v]] w fun x w' => x = .returned (.bool (okRn d)) ∧ Below w.heap.size w w' := by
  obtain ⟨ad, cap, rfl, h1, h2⟩ := hr.form
  obtain ⟨A, hA⟩ : ∃ A, okRn d = A := ⟨_, rfl⟩
  rw [hA]
  have HA := hide hA
  clear hA
  have hbx : Below w.heap.size w (w.alloc (.cells #[.int .i64 d.turn, .bool d.given, .slice ad d.ls.length cap] 26)) := (Below.refl _ _).alloc (Nat.le_refl _) _
  by_cases g1 : d.ls.length < 1
  · have g1' : (d.ls.length : Int) < 1 := by omega
    have HF : Hid (A = false) := by show _ = _; rw [← HA.out]; exact rn_false fun c => by omega
    go_enter Try.func15, Try.ntmps15; go_wp2_with fail
    go_ret
    exact ⟨by rw [HF.out]; rfl, hbx⟩
  have g1' : ¬ (d.ls.length : Int) < 1 := by omega
  have g1d : decide ((d.ls.length : Int) < 1) = false := decide_eq_false g1'
  by_cases g2 : 6 < d.ls.length
  · have g2' : (6 : Int) < d.ls.length := by omega
    have HF : Hid (A = false) := by show _ = _; rw [← HA.out]; exact rn_false fun c => by omega
    go_enter Try.func15, Try.ntmps15; go_wp2_with fail
    go_ret
    exact ⟨by rw [HF.out]; rfl, hbx⟩
  have g2' : ¬ (6 : Int) < d.ls.length := by omega
  cases g3 : inB d.turn 0 ((d.ls.length : Int) - 1)
  · have HF : Hid (A = false) := by
      show _ = _; rw [← HA.out]
      have := inB_false g3
      exact rn_false fun c => by omega
    go_enter Try.func15, Try.ntmps15; go_wp2_with fail
    refine (specIn _ _ _ _).mono ?_; rw [g3]; rintro e w1 ⟨rfl, hsame⟩; obtain rfl := hsame.symm; clear hsame
    go_wp2_with fail
    go_ret
    exact ⟨by rw [HF.out]; rfl, hbx⟩
  have g3' := inB_true g3
  have HR := hide (hr.new hbx)
  have RB := hide (rowIs_new w 26 [.int .i64 d.turn, .bool d.given, .slice ad d.ls.length cap])
  clear hr
  go_enter Try.func15, Try.ntmps15; go_wp2_with fail
  refine (specIn _ _ _ _).mono ?_; rw [g3]; rintro e w1 ⟨rfl, hsame⟩; obtain rfl := hsame.symm; clear hsame
  go_wp2_with fail
  generalize w.alloc (.cells #[.int .i64 d.turn, .bool d.given, .slice ad d.ls.length cap] 26) = W at *
  go_loopw [3, 4, 5] (fun i _ _ wr => ∃ (j : Nat), i = .int .i64 j ∧ j ≤ d.ls.length ∧ Hid (∀ q (hq : q < d.ls.length), q < j → okLn d.ls[q] = true) ∧ Hid (Below W.heap.size W wr)) (fun i _ _ _ => d.ls.length - (intOf i).toNat)
  case atStart => exact ⟨0, rfl, Nat.zero_le _, fun q _ h => absurd h (Nat.not_lt_zero _), hide (Below.refl _ _)⟩
  case round =>
    obtain ⟨j, rfl, hj, HJ, HB⟩ := hrel
    have k2 := RowIs.cell (j := 2) (RB.out.new HB.out) rfl
    have kl := (RB.out.new HB.out).lt
    by_cases hlt : j < d.ls.length
    rotate_left
    · have hltI : ¬ (j : Int) < d.ls.length := by omega
      have HT : Hid (A = true) := by
        show _ = _; rw [← HA.out]
        refine okRn_iff.2 ⟨by omega, by omega, fun x hx => ?_⟩
        obtain ⟨q, hq, rfl⟩ := List.getElem_of_mem hx
        exact HJ.out q hq (by omega)
      go_wp2_with fail
      go_ret
      exact ⟨by rw [HT.out]; rfl, bchain hbx HB.out⟩
    have hltI : (j : Int) < d.ls.length := by omega
    have hrk := (HR.out.new HB.out).at j hlt
    have HLF : Hid (okLn d.ls[j] = false → A = false) := fun h => by rw [← HA.out]; exact ln_false hlt h
    have HLT : Hid (okLn d.ls[j] = true → ∀ q (hq : q < d.ls.length), q < j + 1 → okLn d.ls[q] = true) := fun h q hq hqj => by
      by_cases e : q = j
      · subst e; exact h
      · exact HJ.out q hq (by omega)
    obtain ⟨x, hx⟩ : ∃ x, x = d.ls[j] := ⟨_, rfl⟩
    rw [← hx] at hrk HLF HLT
    clear hx
    obtain ⟨b, o, cs, rfl, hb1, hrd, hc⟩ := hrk
    obtain ⟨vsz, rfl, hsz⟩ := hrd
    obtain ⟨az, pz, rfl, hs1, hs2⟩ := hsz.form
    have c0 : wr.cell? ⟨b, o + j * 3, none⟩ = some (.int .i64 x.wt) := hc 0 _ rfl
    have c1 : wr.cell? ⟨b, o + j * 3 + 1, none⟩ = some (.int .i64 x.left) := hc 1 _ rfl
    have c2 : wr.cell? ⟨b, o + j * 3 + 2, none⟩ = some (.slice az x.sz.length pz) := hc 2 _ rfl
    have hX : Below wr.heap.size wr (wr.alloc (.cells #[.int .i64 x.wt, .int .i64 x.left, .slice az x.sz.length pz] 35)) := (Below.refl _ _).alloc (Nat.le_refl _) _
    have HSZ := hide (hsz.new hX)
    have RX := hide (rowIs_new wr 35 [.int .i64 x.wt, .int .i64 x.left, .slice az x.sz.length pz])
    have HBX := hide (bchain HB.out hX)
    clear hc hsz hX
    go_upto_region 7 with fail
    generalize wr.alloc (.cells #[.int .i64 x.wt, .int .i64 x.left, .slice az x.sz.length pz] 35) = WX at *
    have x0 := RowIs.cell (j := 0) RX.out rfl
    have x1 := RowIs.cell (j := 1) RX.out rfl
    have x2 := RowIs.cell (j := 2) RX.out rfl
    have xl := RX.out.lt
    clear c0 c1 c2 k2 kl
    cases i1 : inB x.wt 1 10
    · have HF : Hid (A = false) := HLF.out (lnn_false fun c => inB_false i1 c.1)
      go_wp2_with fail
      refine (specIn _ _ _ _).mono ?_; rw [i1]; rintro e w1 ⟨rfl, hsame⟩; obtain rfl := hsame.symm; clear hsame
      go_wp2_with fail
      go_ret
      exact ⟨by rw [HF.out]; rfl, bchain hbx HBX.out⟩
    cases i2 : inB x.left 0 2000
    · have HF : Hid (A = false) := HLF.out (lnn_false fun c => inB_false i2 c.2.1)
      go_wp2_with fail
      refine (specIn _ _ _ _).mono ?_; rw [i1]; rintro e w1 ⟨rfl, hsame⟩; obtain rfl := hsame.symm; clear hsame
      go_wp2_with fail
      refine (specIn _ _ _ _).mono ?_; rw [i2]; rintro e w1 ⟨rfl, hsame⟩; obtain rfl := hsame.symm; clear hsame
      go_wp2_with fail
      go_ret
      exact ⟨by rw [HF.out]; rfl, bchain hbx HBX.out⟩
    by_cases i3 : 30 < x.sz.length
    · have i3' : (30 : Int) < x.sz.length := by omega
      have HF : Hid (A = false) := HLF.out (lnn_false fun c => by omega)
      go_wp2_with fail
      refine (specIn _ _ _ _).mono ?_; rw [i1]; rintro e w1 ⟨rfl, hsame⟩; obtain rfl := hsame.symm; clear hsame
      go_wp2_with fail
      refine (specIn _ _ _ _).mono ?_; rw [i2]; rintro e w1 ⟨rfl, hsame⟩; obtain rfl := hsame.symm; clear hsame
      go_wp2_with fail
      go_ret
      exact ⟨by rw [HF.out]; rfl, bchain hbx HBX.out⟩
    have i3' : ¬ (30 : Int) < x.sz.length := by omega
    go_wp2_with fail
    refine (specIn _ _ _ _).mono ?_; rw [i1]; rintro e w1 ⟨rfl, hsame⟩; obtain rfl := hsame.symm; clear hsame
    go_wp2_with fail
    refine (specIn _ _ _ _).mono ?_; rw [i2]; rintro e w1 ⟨rfl, hsame⟩; obtain rfl := hsame.symm; clear hsame
    go_wp2_with fail
    go_loop [5] (fun i => ∃ k : Nat, i = .int .i64 k ∧ k ≤ x.sz.length ∧ Hid (∀ q (hq : q < x.sz.length), q < k → 1 ≤ x.sz[q] ∧ x.sz[q] ≤ 100)) (fun i => x.sz.length - (intOf i).toNat)
    case atStart => exact ⟨0, rfl, Nat.zero_le _, fun q _ h => absurd h (Nat.not_lt_zero _)⟩
    case round =>
      obtain ⟨k, rfl, hk, HK⟩ := hrel
      by_cases hks : k < x.sz.length
      · have hksI : (k : Int) < x.sz.length := by omega
        obtain ⟨b', o', rfl, hb', ck⟩ := ints_at HSZ.out hks
        obtain ⟨e, he⟩ : ∃ e, x.sz[k] = e := ⟨_, rfl⟩
        rw [he] at ck
        cases i4 : inB e 1 100
        · have HF : Hid (A = false) := HLF.out (lnn_false fun c => inB_false i4 (by rw [← he]; exact c.2.2.2 _ (List.getElem_mem hks)))
          clear he
          go_wp2_with fail
          refine (specIn _ _ _ _).mono ?_; rw [i4]; rintro e w1 ⟨rfl, hsame⟩; obtain rfl := hsame.symm; clear hsame
          go_wp2_with fail
          go_ret
          exact ⟨by rw [HF.out]; rfl, bchain hbx HBX.out⟩
        · have HK2 : Hid (∀ q (hq : q < x.sz.length), q < k + 1 → 1 ≤ x.sz[q] ∧ x.sz[q] ≤ 100) := fun q hq hqk => by
            by_cases e1 : q = k
            · subst e1; rw [he]; exact inB_true i4
            · exact HK.out q hq (by omega)
          clear he
          go_wp2_with fail
          refine (specIn _ _ _ _).mono ?_; rw [i4]; rintro e w1 ⟨rfl, hsame⟩; obtain rfl := hsame.symm; clear hsame
          go_wp2_with fail
          go_round
          case rel => first | exact ⟨k + 1, by go_num, by omega, HK2⟩ | exact ⟨k + 1, by omega, by omega, HK2⟩
          case measure => simp [intOf]; omega
      · have hksI : ¬ (k : Int) < x.sz.length := by omega
        have HJ2 := hide (HLT.out (okLn_iff.2 ⟨inB_true i1, inB_true i2, by omega, fun z hz => by
          obtain ⟨q, hq, rfl⟩ := List.getElem_of_mem hz
          exact HK.out q hq (by omega)⟩))
        go_wp2_with fail
        go_roundw
        case rel => first | exact ⟨j + 1, by go_num, by omega, HJ2, HBX⟩ | exact ⟨j + 1, by omega, by omega, HJ2, HBX⟩ | exact ⟨j + 1, by omega, by omega, HJ2⟩
        case measure => simp [intOf]; omega
end Go.Proofs.Yteojibdnphaooaa
