/- Several small texts of one level, one behind the other. -/
import Derived.Test.YtkhclhnejnpkeaaGreatQWtShGate
import Derived.Test.YtkhclhnejnpkeaaGreatQWtG18
import Derived.Test.YtkhclhnejnpkeaaGreatQWtG9
import Derived.Test.YtkhclhnejnpkeaaGreatQWtG4
import Derived.WalkMore
import Derived.Test.YtkhclhnejnpkeaaGreatQWtG19
import Derived.Deep.LoopGhost
/- The model's gate: which is right (by gen_gatespec.py). -/
namespace Go.Proofs.YtkhclhnejnpkeaaGreat
open Go.RowKit
set_option maxRecDepth 100000
set_option linter.unusedSimpArgs false
set_option linter.unusedVariables false
theorem specSame (a b c e : Int) (w : World) : Calls Tryz.prog 29 #[.int .i64 a, .int .i64 b, .int .i64 c, .int .i64 e] w fun x w' => x = .returned (.bool (decide (a = c ∧ b = e))) ∧ w' = w := by
  by_cases h1 : a = c
  · by_cases h2 : b = e
    · have q1 : (a == c) = true := by simp [h1]
      have q2 : (b == e) = true := by simp [h2]
      rw [decide_eq_true ⟨h1, h2⟩]
      clear h1 h2
      go_enter Tryz.func29, Tryz.ntmps29
      go_wp2_with fail
      go_ret
      exact ⟨rfl, rfl⟩
    · have q1 : (a == c) = true := by simp [h1]
      have q2 : (b == e) = false := by simp [h2]
      rw [decide_eq_false (fun h => h2 h.2)]
      clear h1 h2
      go_enter Tryz.func29, Tryz.ntmps29
      go_wp2_with fail
      go_ret
      exact ⟨rfl, rfl⟩
  · have q1 : (a == c) = false := by simp [h1]
    rw [decide_eq_false (fun h => h1 h.1)]
    clear h1
    go_enter Tryz.func29, Tryz.ntmps29
    go_wp2_with fail
    go_ret
    exact ⟨rfl, rfl⟩
set_option maxHeartbeats 16000000 in
theorem specGateOk (d : GtD) (vt vs vd vf : Value) (w : World) (hv : GtRd w d vt vs vd vf) (hz : szTenantS d.tens ≤ 1048576) : Calls Tryz.prog 7 #[gtv d vt vs vd vf] w fun x w' => x = .returned (.bool (okGt d)) ∧ Below w.heap.size w w' := by
  dsimp only [gtv] at *
  have HV := hide hv
  obtain ⟨at_, pt, rfl, _, _⟩ := hv.te.form
  obtain ⟨as_, ps, rfl, _, _⟩ := hv.se.form
  obtain ⟨ad, pd, rfl, _, _⟩ := hv.di.form
  obtain ⟨af, pf, rfl, _, _⟩ := hv.fl.form
  clear hv
  have HRX : Hid (RowIs (w.alloc (.cells #[.int .i64 d.now, .slice at_ d.tens.length pt, .slice as_ d.seats.length ps, .slice ad d.dials.length pd, .slice af d.flights.length pf, .bool d.drained] 35)) w.heap.size 35 [.int .i64 d.now, .slice at_ d.tens.length pt, .slice as_ d.seats.length ps, .slice ad d.dials.length pd, .slice af d.flights.length pf, .bool d.drained]) := rowIs_new w 35 [.int .i64 d.now, .slice at_ d.tens.length pt, .slice as_ d.seats.length ps, .slice ad d.dials.length pd, .slice af d.flights.length pf, .bool d.drained]
  have HB : Hid (Below w.heap.size w (w.alloc (.cells #[.int .i64 d.now, .slice at_ d.tens.length pt, .slice as_ d.seats.length ps, .slice ad d.dials.length pd, .slice af d.flights.length pf, .bool d.drained] 35))) := (Below.refl _ _).alloc (Nat.le_refl _) _

  obtain ⟨A, hA⟩ : ∃ A, okGt d = A := ⟨_, rfl⟩
  rw [hA]
  have HN : Hid (¬ GtOk d → A = false) := fun h => by rw [← hA]; exact gt_false h
  have HY : Hid (GtOk d → A = true) := fun h => by rw [← hA]; exact gt_true.2 h
  clear hA
  have hlt8 : Hid (szTenantS d.tens ≤ 1048576) := hz
  have htl : d.tens.length ≤ 1048576 := by have := szTenantS_len d.tens; omega
  clear hz
  go_enter Tryz.func7, Tryz.ntmps7
  go_upto_region 1 with fail
  generalize w.alloc (.cells #[.int .i64 d.now, .slice at_ d.tens.length pt, .slice as_ d.seats.length ps, .slice ad d.dials.length pd, .slice af d.flights.length pf, .bool d.drained] 35) = W1 at *
  have x0 := RowIs.cell (j := 0) HRX.out rfl
  have x2 := RowIs.cell (j := 2) HRX.out rfl
  go_wp2_with fail
  refine (specTime14 d.now _).mono ?_; rintro e wq ⟨rfl, hsame⟩; obtain rfl := hsame.symm; clear hsame
  clear x0 x2
  cases t0 : timeB d.now
  · have HE : Hid (A = false) := HN.out (fun h => by have := h.now; rw [t0] at this; cases this)
    go_wp2_with fail
    go_ret
    exact ⟨by rw [HE.out] <;> rfl, HB.out⟩
  have x1 := RowIs.cell (j := 1) HRX.out rfl
  go_wp2_with fail
  clear x1
  refine (specTenantsOk d.tens _ _ (HV.out.te.new HB.out)).mono ?_; rintro e wq ⟨rfl, hb⟩
  replace HRX := hide (HRX.out.new hb)
  replace HB := hide (bchain HB.out hb)
  clear hb
  cases t1 : okTs d.tens
  · have HE : Hid (A = false) := HN.out (fun h => by have := h.tens; rw [t1] at this; cases this)
    go_wp2_with fail
    go_ret
    exact ⟨by rw [HE.out] <;> rfl, HB.out⟩
  have x3 := RowIs.cell (j := 3) HRX.out rfl
  have x4 := RowIs.cell (j := 4) HRX.out rfl
  by_cases n1 : (d.seats.length : Int) < 1
  · have HE : Hid (A = false) := HN.out (fun h => by have := h.n1; omega)
    go_wp2_with fail
    go_ret
    exact ⟨by rw [HE.out] <;> rfl, HB.out⟩
  by_cases n4 : 4 < (d.seats.length : Int)
  · have HE : Hid (A = false) := HN.out (fun h => by have := h.n4; omega)
    go_wp2_with fail
    go_ret
    exact ⟨by rw [HE.out] <;> rfl, HB.out⟩
  by_cases nd : 100 < (d.dials.length : Int)
  · have HE : Hid (A = false) := HN.out (fun h => by have := h.nd; omega)
    go_wp2_with fail
    go_ret
    exact ⟨by rw [HE.out] <;> rfl, HB.out⟩
  by_cases nf : 100 < (d.flights.length : Int)
  · have HE : Hid (A = false) := HN.out (fun h => by have := h.nf; omega)
    go_wp2_with fail
    go_ret
    exact ⟨by rw [HE.out] <;> rfl, HB.out⟩
  have hn4 : d.seats.length ≤ 4 := by omega
  have hnd : d.dials.length ≤ 100 := by omega
  have hnf : d.flights.length ≤ 100 := by omega
  have HT0 := hide t0; have HT1 := hide t1; have HN1 : Hid (1 ≤ d.seats.length) := (by omega : 1 ≤ d.seats.length)
  go_wp2_with fail
  clear x3 x4 t0 t1 n1 n4 nd nf
  go_loopw [4] (fun i wr => ∃ k : Nat, i = .int .i64 k ∧ k ≤ d.seats.length ∧ Hid (∀ j, j < k → okSt (st d.seats j) = true) ∧ Hid (RowIs wr w.heap.size 35 [.int .i64 d.now, .slice at_ d.tens.length pt, .slice as_ d.seats.length ps, .slice ad d.dials.length pd, .slice af d.flights.length pf, .bool d.drained]) ∧ Hid (Below w.heap.size w wr)) (fun i _ => d.seats.length - (intOf i).toNat)
  case atStart => exact ⟨0, rfl, Nat.zero_le _, fun j hj => absurd hj (Nat.not_lt_zero _), HRX, HB⟩
  case round =>
    clear HRX HB
    obtain ⟨k, rfl, hk, HS, HRX, HB⟩ := hrel
    have x2 := RowIs.cell (j := 2) HRX.out rfl
    by_cases hlt : k < d.seats.length
    · have hltI : (k : Int) < d.seats.length := by omega
      obtain ⟨b, o, cs, hab, hbw, hrd, hc⟩ := (HV.out.se.new HB.out).at k hlt
      obtain ⟨v9, hy⟩ : ∃ v, st d.seats k = v := ⟨_, rfl⟩
      rw [← st_get hlt, hy] at hrd
      subst hab
      obtain ⟨ve, vi, vo, vf, rfl, f0, f1, hcn⟩ := hrd
      obtain ⟨ae, pe, rfl, _⟩ := hcn.e.form
      obtain ⟨ai, pi, rfl, _⟩ := hcn.i.form
      obtain ⟨ao, po, rfl, _⟩ := hcn.o.form
      obtain ⟨aw, pw, rfl, _⟩ := hcn.f.form
      have HCN := hide hcn
      clear hcn
      have c0 : wr.cell? ⟨b, o + k * 16, none⟩ = some (.int .i64 v9.cn.reg.lim) := hc 0 _ rfl
      have c1 : wr.cell? ⟨b, o + k * 16 + 1, none⟩ = some (.int .i64 v9.cn.reg.top) := hc 1 _ rfl
      have c2 : wr.cell? ⟨b, o + k * 16 + 2, none⟩ = some (.slice ae v9.cn.reg.es.length pe) := hc 2 _ rfl
      have c3 : wr.cell? ⟨b, o + k * 16 + 3, none⟩ = some (.int .i64 v9.cn.inr) := hc 3 _ rfl
      have c4 : wr.cell? ⟨b, o + k * 16 + 4, none⟩ = some (.slice ai v9.cn.inT.length pi) := hc 4 _ rfl
      have c5 : wr.cell? ⟨b, o + k * 16 + 5, none⟩ = some (.int .i64 v9.cn.outr) := hc 5 _ rfl
      have c6 : wr.cell? ⟨b, o + k * 16 + 6, none⟩ = some (.slice ao v9.cn.outT.length po) := hc 6 _ rfl
      have c7 : wr.cell? ⟨b, o + k * 16 + 7, none⟩ = some (.int .i64 v9.cn.get) := hc 7 _ rfl
      have c8 : wr.cell? ⟨b, o + k * 16 + 8, none⟩ = some (.int .i64 v9.cn.give) := hc 8 _ rfl
      have c9 : wr.cell? ⟨b, o + k * 16 + 9, none⟩ = some (.int .i64 v9.cn.first) := hc 9 _ rfl
      have c10 : wr.cell? ⟨b, o + k * 16 + 10, none⟩ = some (.slice aw v9.cn.flows.length pw) := hc 10 _ rfl
      have c11 : wr.cell? ⟨b, o + k * 16 + 11, none⟩ = some (.bool v9.cn.away) := hc 11 _ rfl
      have c12 : wr.cell? ⟨b, o + k * 16 + 12, none⟩ = some (.bool v9.cn.dead) := hc 12 _ rfl
      have c13 : wr.cell? ⟨b, o + k * 16 + 13, none⟩ = some (.string v9.rest) := hc 13 _ rfl
      have c14 : wr.cell? ⟨b, o + k * 16 + 14, none⟩ = some (.string v9.out) := hc 14 _ rfl
      have c15 : wr.cell? ⟨b, o + k * 16 + 15, none⟩ = some (.bool v9.bad) := hc 15 _ rfl
      clear hc
      go_upto_region 8 with fail
      clear c0 c1 c2 c3 c4 c5 c6 c7 c8 c9 c10 c11 c12 c13 c14 c15 x2
      have hX : Below wr.heap.size wr (wr.alloc (.cells #[.int .i64 v9.cn.reg.lim, .int .i64 v9.cn.reg.top, .slice ae v9.cn.reg.es.length pe, .int .i64 v9.cn.inr, .slice ai v9.cn.inT.length pi, .int .i64 v9.cn.outr, .slice ao v9.cn.outT.length po, .int .i64 v9.cn.get, .int .i64 v9.cn.give, .int .i64 v9.cn.first, .slice aw v9.cn.flows.length pw, .bool v9.cn.away, .bool v9.cn.dead, .string v9.rest, .string v9.out, .bool v9.bad] 65)) := (Below.refl _ _).alloc (Nat.le_refl _) _
      have HRS := hide (rowIs_new wr 65 [.int .i64 v9.cn.reg.lim, .int .i64 v9.cn.reg.top, .slice ae v9.cn.reg.es.length pe, .int .i64 v9.cn.inr, .slice ai v9.cn.inT.length pi, .int .i64 v9.cn.outr, .slice ao v9.cn.outT.length po, .int .i64 v9.cn.get, .int .i64 v9.cn.give, .int .i64 v9.cn.first, .slice aw v9.cn.flows.length pw, .bool v9.cn.away, .bool v9.cn.dead, .string v9.rest, .string v9.out, .bool v9.bad])
      replace HRX := hide (HRX.out.new hX)
      replace HB := hide (bchain HB.out hX)
      replace HCN := hide (HCN.out.new hX)
      clear hX hbw
      generalize wr.heap.size = gs at *
      generalize wr.alloc (.cells #[.int .i64 v9.cn.reg.lim, .int .i64 v9.cn.reg.top, .slice ae v9.cn.reg.es.length pe, .int .i64 v9.cn.inr, .slice ai v9.cn.inT.length pi, .int .i64 v9.cn.outr, .slice ao v9.cn.outT.length po, .int .i64 v9.cn.get, .int .i64 v9.cn.give, .int .i64 v9.cn.first, .slice aw v9.cn.flows.length pw, .bool v9.cn.away, .bool v9.cn.dead, .string v9.rest, .string v9.out, .bool v9.bad] 65) = W2 at *
      have z0 := RowIs.cell (j := 0) HRS.out rfl
      have z1 := RowIs.cell (j := 1) HRS.out rfl
      have z2 := RowIs.cell (j := 2) HRS.out rfl
      have z3 := RowIs.cell (j := 3) HRS.out rfl
      have z4 := RowIs.cell (j := 4) HRS.out rfl
      have z5 := RowIs.cell (j := 5) HRS.out rfl
      have z6 := RowIs.cell (j := 6) HRS.out rfl
      have z7 := RowIs.cell (j := 7) HRS.out rfl
      have z8 := RowIs.cell (j := 8) HRS.out rfl
      have z9 := RowIs.cell (j := 9) HRS.out rfl
      have z10 := RowIs.cell (j := 10) HRS.out rfl
      have z11 := RowIs.cell (j := 11) HRS.out rfl
      have z12 := RowIs.cell (j := 12) HRS.out rfl
      go_wp2_with fail
      refine (specConnOk v9.cn _ _ _ _ _ HCN.out).mono ?_; rintro e w3 ⟨rfl, hb⟩
      replace HRS := hide (HRS.out.new hb)
      replace HRX := hide (HRX.out.new hb)
      replace HB := hide (bchain HB.out hb)
      clear hb HCN z0 z1 z2 z3 z4 z5 z6 z7 z8 z9 z10 z11 z12
      have z13 := RowIs.cell (j := 13) HRS.out rfl
      have z14 := RowIs.cell (j := 14) HRS.out rfl
      have hno : okSt v9 = false → A = false := fun hq => HN.out (fun h => by have := h.seats k hlt; rw [hy, hq] at this; cases this)
      have HNO := hide hno
      clear hno
      cases m0 : okCn v9.cn
      · have HE : Hid (A = false) := HNO.out (by unfold okSt; rw [m0]; rfl)
        go_wp2_with fail
        go_ret
        exact ⟨by rw [HE.out] <;> rfl, HB.out⟩
      by_cases m1 : 2000 < (v9.rest.size : Int)
      · have HE : Hid (A = false) := HNO.out (by unfold okSt; rw [decide_eq_false (show ¬ v9.rest.size ≤ 2000 by omega), Bool.false_and, Bool.and_false])
        go_wp2_with fail
        go_ret
        exact ⟨by rw [HE.out] <;> rfl, HB.out⟩
      by_cases m2 : 400000 < (v9.out.size : Int)
      · have HE : Hid (A = false) := HNO.out (by unfold okSt; rw [decide_eq_false (show ¬ v9.out.size ≤ 400000 by omega), Bool.and_false, Bool.and_false])
        go_wp2_with fail
        go_ret
        exact ⟨by rw [HE.out] <;> rfl, HB.out⟩
      have hS2 : Hid (∀ j, j < k + 1 → okSt (st d.seats j) = true) := by
        intro j hj
        rcases Nat.lt_or_ge j k with h | h
        · exact HS.out j h
        · obtain rfl : j = k := by omega
          rw [hy]
          unfold okSt
          rw [m0, decide_eq_true (show v9.rest.size ≤ 2000 by omega), decide_eq_true (show v9.out.size ≤ 400000 by omega)]
          rfl
      clear hy
      go_wp2_with fail
      go_roundw
      case rel => exact ⟨k + 1, by go_num, by omega, hS2, HRX, HB⟩
      case measure => simp [intOf]; omega
    obtain rfl : k = d.seats.length := by omega
    have hltI : ¬ (d.seats.length : Int) < d.seats.length := by omega
    have HSS := HS
    clear HS hlt hk
    clear x2
    have x2 := RowIs.cell (j := 2) HRX.out rfl
    go_wp2_with fail
    clear x2
    go_loopw [6] (fun i wr => ∃ k : Nat, i = .int .i64 k ∧ k ≤ d.dials.length ∧ Hid (∀ j, j < k → DlOk d j) ∧ Hid (RowIs wr w.heap.size 35 [.int .i64 d.now, .slice at_ d.tens.length pt, .slice as_ d.seats.length ps, .slice ad d.dials.length pd, .slice af d.flights.length pf, .bool d.drained]) ∧ Hid (Below w.heap.size w wr)) (fun i _ => d.dials.length - (intOf i).toNat)
    case atStart => exact ⟨0, rfl, Nat.zero_le _, fun j hj => absurd hj (Nat.not_lt_zero _), HRX, HB⟩
    case round =>
      clear HRX HB
      obtain ⟨k, rfl, hk, HS, HRX, HB⟩ := hrel
      have x3 := RowIs.cell (j := 3) HRX.out rfl
      by_cases hlt : k < d.dials.length
      · have hltI : (k : Int) < d.dials.length := by omega
        obtain ⟨b, o, cs, hab, hbw, hrd, hc⟩ := (HV.out.di.new HB.out).at k hlt
        obtain ⟨v9, hy⟩ : ∃ v, dl d.dials k = v := ⟨_, rfl⟩
        rw [← dl_get hlt, hy] at hrd
        subst hab
        obtain ⟨rfl, f0⟩ := hrd
        have c0 : wr.cell? ⟨b, o + k * 3, none⟩ = some (.int .i64 v9.seat) := hc 0 _ rfl
        have c1 : wr.cell? ⟨b, o + k * 3 + 1, none⟩ = some (.int .i64 v9.id) := hc 1 _ rfl
        have c2 : wr.cell? ⟨b, o + k * 3 + 2, none⟩ = some (.string v9.nm) := hc 2 _ rfl
        clear hc
        go_upto_region 14 with fail
        clear c0 c1 c2 x3
        have hgs : w.heap.size < wr.heap.size := HRX.out.lt
        have hX : Below wr.heap.size wr (wr.alloc (.cells #[.int .i64 v9.seat, .int .i64 v9.id, .string v9.nm] 68)) := (Below.refl _ _).alloc (Nat.le_refl _) _
        have HRS := hide (rowIs_new wr 68 [.int .i64 v9.seat, .int .i64 v9.id, .string v9.nm])
        replace HRX := hide (HRX.out.new hX)
        replace HB := hide (bchain HB.out hX)
        clear hX hbw
        generalize wr.heap.size = gs at *
        generalize wr.alloc (.cells #[.int .i64 v9.seat, .int .i64 v9.id, .string v9.nm] 68) = W2 at *
        have hno : okCall d.seats.length d.tens v9.seat v9.id v9.nm = false → A = false := fun hq => HN.out (fun h => by have := (h.dials k hlt).1; rw [hy, hq] at this; cases this)
        have HNO := hide hno
        clear hno
        have z0 := RowIs.cell (j := 0) HRS.out rfl
        have z1 := RowIs.cell (j := 1) HRS.out rfl
        have z2 := RowIs.cell (j := 2) HRS.out rfl
        have x1 := RowIs.cell (j := 1) HRX.out rfl
        go_wp2_with fail
        refine (specIn v9.seat 0 ((d.seats.length : Int) - 1) _).mono ?_; rintro e wq ⟨rfl, hsame⟩; obtain rfl := hsame.symm; clear hsame
        cases m0 : inB v9.seat 0 ((d.seats.length : Int) - 1)
        · have HE : Hid (A = false) := HNO.out (by unfold okCall; rw [m0]; rfl)
          go_wp2_with fail
          go_ret
          exact ⟨by rw [HE.out] <;> rfl, HB.out⟩
        by_cases m1 : v9.id < 1
        · have HE : Hid (A = false) := HNO.out (by unfold okCall; rw [decide_eq_true m1]; simp)
          go_wp2_with fail
          go_ret
          exact ⟨by rw [HE.out] <;> rfl, HB.out⟩
        go_wp2_with fail
        refine (specAtT d.tens v9.nm _ _ (HV.out.te.new HB.out) htl).mono ?_; rintro e w3 ⟨rfl, hb⟩
        replace HRS := hide (HRS.out.new hb)
        replace HRX := hide (HRX.out.new hb)
        replace HB := hide (bchain HB.out hb)
        clear hb z0 z1 z2 x1
        by_cases m2 : atV d.tens v9.nm < 0
        · have HE : Hid (A = false) := HNO.out (by unfold okCall; rw [decide_eq_false (show ¬ 0 ≤ atV d.tens v9.nm by omega), Bool.and_false, Bool.and_false])
          go_wp2_with fail
          go_ret
          exact ⟨by rw [HE.out] <;> rfl, HB.out⟩
        have HOK : Hid (okCall d.seats.length d.tens v9.seat v9.id v9.nm = true) := by
          show _ = _
          unfold okCall
          rw [m0, decide_eq_false (show ¬ v9.id < 1 by omega), decide_eq_true (show 0 ≤ atV d.tens v9.nm by omega)]
          rfl
        go_wp2_with fail
        clear m1 m2 m0
        go_loopw [8] (fun i wr => ∃ m : Nat, i = .int .i64 m ∧ m ≤ k ∧ Hid (∀ j, j < m → brD v9 ≠ brD (dl d.dials j)) ∧ Hid (RowIs wr gs 68 [.int .i64 v9.seat, .int .i64 v9.id, .string v9.nm]) ∧ Hid (RowIs wr w.heap.size 35 [.int .i64 d.now, .slice at_ d.tens.length pt, .slice as_ d.seats.length ps, .slice (some ⟨b, o, none⟩) d.dials.length pd, .slice af d.flights.length pf, .bool d.drained]) ∧ Hid (Below w.heap.size w wr)) (fun i _ => k - (intOf i).toNat)
        case atStart => exact ⟨0, rfl, Nat.zero_le _, fun j hj => absurd hj (Nat.not_lt_zero _), HRS, HRX, HB⟩
        case round =>
          clear HRS HRX HB
          obtain ⟨m, rfl, hm, HD1, HRS, HRX, HB⟩ := hrel
          have x3 := RowIs.cell (j := 3) HRX.out rfl
          by_cases hml : m < k
          · have hmI : (m : Int) < (k : Int) := by omega
            have hml2 : m < d.dials.length := by omega
            have hmI2 : (m : Int) < d.dials.length := by omega
            obtain ⟨b2, o2, cs, hab, hbw, hrd, hc⟩ := (HV.out.di.new HB.out).at m hml2
            obtain ⟨u, hu⟩ : ∃ u, dl d.dials m = u := ⟨_, rfl⟩
            rw [← dl_get hml2, hu] at hrd
            obtain ⟨rfl, rfl⟩ : b = b2 ∧ o = o2 := by cases hab; exact ⟨rfl, rfl⟩
            obtain ⟨rfl, f2⟩ := hrd
            have c0 : wr.cell? ⟨b, o + m * 3, none⟩ = some (.int .i64 u.seat) := hc 0 _ rfl
            have c1 : wr.cell? ⟨b, o + m * 3 + 1, none⟩ = some (.int .i64 u.id) := hc 1 _ rfl
            clear hc
            have z0 := RowIs.cell (j := 0) HRS.out rfl
            have z1 := RowIs.cell (j := 1) HRS.out rfl
            go_upto_region 19 with fail
            have xl := HRX.out.lt
            have zl := HRS.out.lt
            have qa0 : ∀ y : Later wr, y.w.cell? ⟨b, o + m * 3, none⟩ = some (.int .i64 u.seat) := fun y => (y.b.cell (p := ⟨b, o + m * 3, none⟩) hbw).trans c0
            have qa1 : ∀ y : Later wr, y.w.cell? ⟨b, o + m * 3 + 1, none⟩ = some (.int .i64 u.id) := fun y => (y.b.cell (p := ⟨b, o + m * 3 + 1, none⟩) hbw).trans c1
            have qz0 : ∀ y : Later wr, y.w.cell? ⟨gs, 0, none⟩ = some (.int .i64 v9.seat) := fun y => (y.b.cell (p := ⟨gs, 0, none⟩) zl).trans z0
            have qz1 : ∀ y : Later wr, y.w.cell? ⟨gs, 1, none⟩ = some (.int .i64 v9.id) := fun y => (y.b.cell (p := ⟨gs, 1, none⟩) zl).trans z1
            have qx : ∀ y : Later wr, y.w.cell? ⟨w.heap.size, 3, none⟩ = some (.slice (some ⟨b, o, none⟩) d.dials.length pd) := fun y => (y.b.cell (p := ⟨w.heap.size, 3, none⟩) xl).trans x3
            clear c0 c1 z0 z1 x3 xl zl
            obtain ⟨c9, hc9⟩ : ∃ c, decide (v9.seat = u.seat ∧ v9.id = u.id) = c := ⟨_, rfl⟩
            have hsm := fun w => specSame v9.seat v9.id u.seat u.id w
            simp only [hc9] at hsm
            have HC9 := hide hc9
            clear hc9
            have hne : Nonempty (Later wr) := ⟨⟨wr, Below.refl _ _⟩⟩; refine region_later (by kernel_rfl) (by kernel_rfl) ?_
            iterate 16 (go_big_quiet_step (fail))
            go_big_quiet_want; go_big_quiet_op
            refine ⟨.bool c9, fun y9 => later_same (x := y9) (hsm y9.w), ?_⟩
            go_big_quiet_on
            refine wpQuiet_nil ?_; intro _ hw'; obtain ⟨y, hw''⟩ := hw'; subst hw''; have hby := y.b
            clear qa0 qa1 qz0 qz1 qx hne hsm
            replace HRS := hide (HRS.out.new hby)
            replace HRX := hide (HRX.out.new hby)
            replace HB := hide (bchain HB.out hby)
            clear hby
            generalize y.w = W5 at *
            cases c9
            rotate_left
            · have hs := of_decide_eq_true HC9.out
              have HE : Hid (A = false) := HN.out (fun h => by have := (h.dials k hlt).2 m hml; rw [hy, hu] at this; exact this (by unfold brD ; rw [hs.1, hs.2]))
              clear hs hu
              go_wp2_with fail
              go_ret
              exact ⟨by rw [HE.out] <;> rfl, HB.out⟩
            · have hs := of_decide_eq_false HC9.out
              have HD2 : Hid (∀ j, j < m + 1 → brD v9 ≠ brD (dl d.dials j)) := by
                intro j hj
                rcases Nat.lt_or_ge j m with h | h
                · exact HD1.out j h
                · obtain rfl : j = m := by omega
                  rw [hu]
                  intro e
                  unfold brD  at e
                  exact hs ⟨congrArg Prod.fst e, congrArg Prod.snd e⟩
              clear hs hu
              go_wp2_with fail
              go_roundw
              case rel => exact ⟨m + 1, by go_num, by omega, HD2, HRS, HRX, HB⟩
              case measure => simp [intOf]; omega
          obtain rfl : k = m := by omega
          have hmI : ¬ ((k : Nat) : Int) < (k : Int) := by omega
          clear hml hm
          have HS2 : Hid (∀ j, j < k + 1 → DlOk d j) := by
            intro j hj
            rcases Nat.lt_or_ge j k with h | h
            · exact HS.out j h
            · obtain rfl : j = k := by omega
              refine ⟨by rw [hy]; exact HOK.out, by rw [hy]; exact HD1.out⟩
          clear hy
          go_wp2_with fail
          go_roundw
          case rel => exact ⟨k + 1, by go_num, by omega, HS2, HRX, HB⟩
          case measure => simp [intOf]; omega
      obtain rfl : k = d.dials.length := by omega
      have hltI : ¬ (d.dials.length : Int) < d.dials.length := by omega
      have HSD := HS
      clear HS hlt hk
      clear x3
      have x3 := RowIs.cell (j := 3) HRX.out rfl
      go_wp2_with fail
      go_loopw [9] (fun i wr => ∃ k : Nat, i = .int .i64 k ∧ k ≤ d.flights.length ∧ Hid (∀ j, j < k → FgOk d j) ∧ Hid (RowIs wr w.heap.size 35 [.int .i64 d.now, .slice at_ d.tens.length pt, .slice as_ d.seats.length ps, .slice ad d.dials.length pd, .slice af d.flights.length pf, .bool d.drained]) ∧ Hid (Below w.heap.size w wr)) (fun i _ => d.flights.length - (intOf i).toNat)
      case atStart => exact ⟨0, rfl, Nat.zero_le _, fun j hj => absurd hj (Nat.not_lt_zero _), HRX, HB⟩
      case round =>
        clear HRX HB
        obtain ⟨k, rfl, hk, HS, HRX, HB⟩ := hrel
        have x4 := RowIs.cell (j := 4) HRX.out rfl
        by_cases hlt : k < d.flights.length
        · have hltI : (k : Int) < d.flights.length := by omega
          obtain ⟨b, o, cs, hab, hbw, hrd, hc⟩ := (HV.out.fl.new HB.out).at k hlt
          obtain ⟨v9, hy⟩ : ∃ v, fg d.flights k = v := ⟨_, rfl⟩
          rw [← fg_get hlt, hy] at hrd
          subst hab
          obtain ⟨rfl, f0, f1⟩ := hrd
          have c0 : wr.cell? ⟨b, o + k * 4, none⟩ = some (.int .i64 v9.seat) := hc 0 _ rfl
          have c1 : wr.cell? ⟨b, o + k * 4 + 1, none⟩ = some (.int .i64 v9.id) := hc 1 _ rfl
          have c2 : wr.cell? ⟨b, o + k * 4 + 2, none⟩ = some (.string v9.nm) := hc 2 _ rfl
          have c3 : wr.cell? ⟨b, o + k * 4 + 3, none⟩ = some (.string v9.tx) := hc 3 _ rfl
          clear hc
          go_upto_region 25 with fail
          clear c0 c1 c2 c3 x4
          have hgs : w.heap.size < wr.heap.size := HRX.out.lt
          have hX : Below wr.heap.size wr (wr.alloc (.cells #[.int .i64 v9.seat, .int .i64 v9.id, .string v9.nm, .string v9.tx] 73)) := (Below.refl _ _).alloc (Nat.le_refl _) _
          have HRS := hide (rowIs_new wr 73 [.int .i64 v9.seat, .int .i64 v9.id, .string v9.nm, .string v9.tx])
          replace HRX := hide (HRX.out.new hX)
          replace HB := hide (bchain HB.out hX)
          clear hX hbw
          generalize wr.heap.size = gs at *
          generalize wr.alloc (.cells #[.int .i64 v9.seat, .int .i64 v9.id, .string v9.nm, .string v9.tx] 73) = W2 at *
          have hno : okCall d.seats.length d.tens v9.seat v9.id v9.nm = false → A = false := fun hq => HN.out (fun h => by have := (h.flights k hlt).1.1; rw [hy, hq] at this; cases this)
          have HNO := hide hno
          clear hno
          have z0 := RowIs.cell (j := 0) HRS.out rfl
          have z1 := RowIs.cell (j := 1) HRS.out rfl
          have z2 := RowIs.cell (j := 2) HRS.out rfl
          have z3 := RowIs.cell (j := 3) HRS.out rfl
          have x1 := RowIs.cell (j := 1) HRX.out rfl
          go_wp2_with fail
          refine (specIn v9.seat 0 ((d.seats.length : Int) - 1) _).mono ?_; rintro e wq ⟨rfl, hsame⟩; obtain rfl := hsame.symm; clear hsame
          cases m0 : inB v9.seat 0 ((d.seats.length : Int) - 1)
          · have HE : Hid (A = false) := HNO.out (by unfold okCall; rw [m0]; rfl)
            go_wp2_with fail
            go_ret
            exact ⟨by rw [HE.out] <;> rfl, HB.out⟩
          by_cases m1 : v9.id < 1
          · have HE : Hid (A = false) := HNO.out (by unfold okCall; rw [decide_eq_true m1]; simp)
            go_wp2_with fail
            go_ret
            exact ⟨by rw [HE.out] <;> rfl, HB.out⟩
          go_wp2_with fail
          refine (specAtT d.tens v9.nm _ _ (HV.out.te.new HB.out) htl).mono ?_; rintro e w3 ⟨rfl, hb⟩
          replace HRS := hide (HRS.out.new hb)
          replace HRX := hide (HRX.out.new hb)
          replace HB := hide (bchain HB.out hb)
          clear hb z0 z1 z2 z3 x1
          by_cases m2 : atV d.tens v9.nm < 0
          · have HE : Hid (A = false) := HNO.out (by unfold okCall; rw [decide_eq_false (show ¬ 0 ≤ atV d.tens v9.nm by omega), Bool.and_false, Bool.and_false])
            go_wp2_with fail
            go_ret
            exact ⟨by rw [HE.out] <;> rfl, HB.out⟩
          have z3 := RowIs.cell (j := 3) HRS.out rfl
          by_cases m3 : 1000000 < (v9.tx.size : Int)
          · have HE : Hid (A = false) := HN.out (fun h => by have := (h.flights k hlt).1.2; rw [hy] at this; omega)
            go_wp2_with fail
            go_ret
            exact ⟨by rw [HE.out] <;> rfl, HB.out⟩
          have HOK : Hid (okCall d.seats.length d.tens v9.seat v9.id v9.nm = true) := by
            show _ = _
            unfold okCall
            rw [m0, decide_eq_false (show ¬ v9.id < 1 by omega), decide_eq_true (show 0 ≤ atV d.tens v9.nm by omega)]
            rfl
          have HTX : Hid (v9.tx.size ≤ 1000000) := (by omega : v9.tx.size ≤ 1000000)
          go_wp2_with fail
          clear m1 m2 m3 z3 m0
          go_loopw [11] (fun i wr => ∃ m : Nat, i = .int .i64 m ∧ m ≤ k ∧ Hid (∀ j, j < m → brF v9 ≠ brF (fg d.flights j)) ∧ Hid (RowIs wr gs 73 [.int .i64 v9.seat, .int .i64 v9.id, .string v9.nm, .string v9.tx]) ∧ Hid (RowIs wr w.heap.size 35 [.int .i64 d.now, .slice at_ d.tens.length pt, .slice as_ d.seats.length ps, .slice ad d.dials.length pd, .slice (some ⟨b, o, none⟩) d.flights.length pf, .bool d.drained]) ∧ Hid (Below w.heap.size w wr)) (fun i _ => k - (intOf i).toNat)
          case atStart => exact ⟨0, rfl, Nat.zero_le _, fun j hj => absurd hj (Nat.not_lt_zero _), HRS, HRX, HB⟩
          case round =>
            clear HRS HRX HB
            obtain ⟨m, rfl, hm, HD1, HRS, HRX, HB⟩ := hrel
            have x4 := RowIs.cell (j := 4) HRX.out rfl
            by_cases hml : m < k
            · have hmI : (m : Int) < (k : Int) := by omega
              have hml2 : m < d.flights.length := by omega
              have hmI2 : (m : Int) < d.flights.length := by omega
              obtain ⟨b2, o2, cs, hab, hbw, hrd, hc⟩ := (HV.out.fl.new HB.out).at m hml2
              obtain ⟨u, hu⟩ : ∃ u, fg d.flights m = u := ⟨_, rfl⟩
              rw [← fg_get hml2, hu] at hrd
              obtain ⟨rfl, rfl⟩ : b = b2 ∧ o = o2 := by cases hab; exact ⟨rfl, rfl⟩
              obtain ⟨rfl, f2, f3⟩ := hrd
              have c0 : wr.cell? ⟨b, o + m * 4, none⟩ = some (.int .i64 u.seat) := hc 0 _ rfl
              have c1 : wr.cell? ⟨b, o + m * 4 + 1, none⟩ = some (.int .i64 u.id) := hc 1 _ rfl
              clear hc
              have z0 := RowIs.cell (j := 0) HRS.out rfl
              have z1 := RowIs.cell (j := 1) HRS.out rfl
              go_upto_region 30 with fail
              have xl := HRX.out.lt
              have zl := HRS.out.lt
              have qa0 : ∀ y : Later wr, y.w.cell? ⟨b, o + m * 4, none⟩ = some (.int .i64 u.seat) := fun y => (y.b.cell (p := ⟨b, o + m * 4, none⟩) hbw).trans c0
              have qa1 : ∀ y : Later wr, y.w.cell? ⟨b, o + m * 4 + 1, none⟩ = some (.int .i64 u.id) := fun y => (y.b.cell (p := ⟨b, o + m * 4 + 1, none⟩) hbw).trans c1
              have qz0 : ∀ y : Later wr, y.w.cell? ⟨gs, 0, none⟩ = some (.int .i64 v9.seat) := fun y => (y.b.cell (p := ⟨gs, 0, none⟩) zl).trans z0
              have qz1 : ∀ y : Later wr, y.w.cell? ⟨gs, 1, none⟩ = some (.int .i64 v9.id) := fun y => (y.b.cell (p := ⟨gs, 1, none⟩) zl).trans z1
              have qx : ∀ y : Later wr, y.w.cell? ⟨w.heap.size, 4, none⟩ = some (.slice (some ⟨b, o, none⟩) d.flights.length pf) := fun y => (y.b.cell (p := ⟨w.heap.size, 4, none⟩) xl).trans x4
              clear c0 c1 z0 z1 x4 xl zl
              obtain ⟨c9, hc9⟩ : ∃ c, decide (v9.seat = u.seat ∧ v9.id = u.id) = c := ⟨_, rfl⟩
              have hsm := fun w => specSame v9.seat v9.id u.seat u.id w
              simp only [hc9] at hsm
              have HC9 := hide hc9
              clear hc9
              have hne : Nonempty (Later wr) := ⟨⟨wr, Below.refl _ _⟩⟩; refine region_later (by kernel_rfl) (by kernel_rfl) ?_
              iterate 16 (go_big_quiet_step (fail))
              go_big_quiet_want; go_big_quiet_op
              refine ⟨.bool c9, fun y9 => later_same (x := y9) (hsm y9.w), ?_⟩
              go_big_quiet_on
              refine wpQuiet_nil ?_; intro _ hw'; obtain ⟨y, hw''⟩ := hw'; subst hw''; have hby := y.b
              clear qa0 qa1 qz0 qz1 qx hne hsm
              replace HRS := hide (HRS.out.new hby)
              replace HRX := hide (HRX.out.new hby)
              replace HB := hide (bchain HB.out hby)
              clear hby
              generalize y.w = W5 at *
              cases c9
              rotate_left
              · have hs := of_decide_eq_true HC9.out
                have HE : Hid (A = false) := HN.out (fun h => by have := (h.flights k hlt).2.1 m hml; rw [hy, hu] at this; exact this (by unfold brF ; rw [hs.1, hs.2]))
                clear hs hu
                go_wp2_with fail
                go_ret
                exact ⟨by rw [HE.out] <;> rfl, HB.out⟩
              · have hs := of_decide_eq_false HC9.out
                have HD2 : Hid (∀ j, j < m + 1 → brF v9 ≠ brF (fg d.flights j)) := by
                  intro j hj
                  rcases Nat.lt_or_ge j m with h | h
                  · exact HD1.out j h
                  · obtain rfl : j = m := by omega
                    rw [hu]
                    intro e
                    unfold brF  at e
                    exact hs ⟨congrArg Prod.fst e, congrArg Prod.snd e⟩
                clear hs hu
                go_wp2_with fail
                go_roundw
                case rel => exact ⟨m + 1, by go_num, by omega, HD2, HRS, HRX, HB⟩
                case measure => simp [intOf]; omega
            obtain rfl : k = m := by omega
            have hmI : ¬ ((k : Nat) : Int) < (k : Int) := by omega
            clear hml hm
            clear x4
            have x3 := RowIs.cell (j := 3) HRX.out rfl
            go_wp2_with fail
            clear x3
            go_loopw [12] (fun i wr => ∃ m : Nat, i = .int .i64 m ∧ m ≤ d.dials.length ∧ Hid (∀ j, j < m → brF v9 ≠ brD (dl d.dials j)) ∧ Hid (RowIs wr gs 73 [.int .i64 v9.seat, .int .i64 v9.id, .string v9.nm, .string v9.tx]) ∧ Hid (RowIs wr w.heap.size 35 [.int .i64 d.now, .slice at_ d.tens.length pt, .slice as_ d.seats.length ps, .slice ad d.dials.length pd, .slice (some ⟨b, o, none⟩) d.flights.length pf, .bool d.drained]) ∧ Hid (Below w.heap.size w wr)) (fun i _ => d.dials.length - (intOf i).toNat)
            case atStart => exact ⟨0, rfl, Nat.zero_le _, fun j hj => absurd hj (Nat.not_lt_zero _), HRS, HRX, HB⟩
            case round =>
              clear HRS HRX HB
              obtain ⟨m, rfl, hm, HD2, HRS, HRX, HB⟩ := hrel
              have x3 := RowIs.cell (j := 3) HRX.out rfl
              by_cases hml : m < d.dials.length
              · have hmI : (m : Int) < (d.dials.length : Int) := by omega
                have hml2 : m < d.dials.length := by omega
                have hmI2 : (m : Int) < d.dials.length := by omega
                obtain ⟨b2, o2, cs, hab, hbw, hrd, hc⟩ := (HV.out.di.new HB.out).at m hml2
                obtain ⟨u, hu⟩ : ∃ u, dl d.dials m = u := ⟨_, rfl⟩
                rw [← dl_get hml2, hu] at hrd
                subst hab
                obtain ⟨rfl, f2⟩ := hrd
                have c0 : wr.cell? ⟨b2, o2 + m * 3, none⟩ = some (.int .i64 u.seat) := hc 0 _ rfl
                have c1 : wr.cell? ⟨b2, o2 + m * 3 + 1, none⟩ = some (.int .i64 u.id) := hc 1 _ rfl
                clear hc
                have z0 := RowIs.cell (j := 0) HRS.out rfl
                have z1 := RowIs.cell (j := 1) HRS.out rfl
                go_upto_region 35 with fail
                have xl := HRX.out.lt
                have zl := HRS.out.lt
                have qa0 : ∀ y : Later wr, y.w.cell? ⟨b2, o2 + m * 3, none⟩ = some (.int .i64 u.seat) := fun y => (y.b.cell (p := ⟨b2, o2 + m * 3, none⟩) hbw).trans c0
                have qa1 : ∀ y : Later wr, y.w.cell? ⟨b2, o2 + m * 3 + 1, none⟩ = some (.int .i64 u.id) := fun y => (y.b.cell (p := ⟨b2, o2 + m * 3 + 1, none⟩) hbw).trans c1
                have qz0 : ∀ y : Later wr, y.w.cell? ⟨gs, 0, none⟩ = some (.int .i64 v9.seat) := fun y => (y.b.cell (p := ⟨gs, 0, none⟩) zl).trans z0
                have qz1 : ∀ y : Later wr, y.w.cell? ⟨gs, 1, none⟩ = some (.int .i64 v9.id) := fun y => (y.b.cell (p := ⟨gs, 1, none⟩) zl).trans z1
                have qx : ∀ y : Later wr, y.w.cell? ⟨w.heap.size, 3, none⟩ = some (.slice (some ⟨b2, o2, none⟩) d.dials.length pd) := fun y => (y.b.cell (p := ⟨w.heap.size, 3, none⟩) xl).trans x3
                clear c0 c1 z0 z1 x3 xl zl
                obtain ⟨c9, hc9⟩ : ∃ c, decide (v9.seat = u.seat ∧ v9.id = u.id) = c := ⟨_, rfl⟩
                have hsm := fun w => specSame v9.seat v9.id u.seat u.id w
                simp only [hc9] at hsm
                have HC9 := hide hc9
                clear hc9
                have hne : Nonempty (Later wr) := ⟨⟨wr, Below.refl _ _⟩⟩; refine region_later (by kernel_rfl) (by kernel_rfl) ?_
                iterate 16 (go_big_quiet_step (fail))
                go_big_quiet_want; go_big_quiet_op
                refine ⟨.bool c9, fun y9 => later_same (x := y9) (hsm y9.w), ?_⟩
                go_big_quiet_on
                refine wpQuiet_nil ?_; intro _ hw'; obtain ⟨y, hw''⟩ := hw'; subst hw''; have hby := y.b
                clear qa0 qa1 qz0 qz1 qx hne hsm
                replace HRS := hide (HRS.out.new hby)
                replace HRX := hide (HRX.out.new hby)
                replace HB := hide (bchain HB.out hby)
                clear hby
                generalize y.w = W5 at *
                cases c9
                rotate_left
                · have hs := of_decide_eq_true HC9.out
                  have HE : Hid (A = false) := HN.out (fun h => by have := (h.flights k hlt).2.2 m hml; rw [hy, hu] at this; exact this (by unfold brF brD; rw [hs.1, hs.2]))
                  clear hs hu
                  go_wp2_with fail
                  go_ret
                  exact ⟨by rw [HE.out] <;> rfl, HB.out⟩
                · have hs := of_decide_eq_false HC9.out
                  have HD2 : Hid (∀ j, j < m + 1 → brF v9 ≠ brD (dl d.dials j)) := by
                    intro j hj
                    rcases Nat.lt_or_ge j m with h | h
                    · exact HD2.out j h
                    · obtain rfl : j = m := by omega
                      rw [hu]
                      intro e
                      unfold brF brD at e
                      exact hs ⟨congrArg Prod.fst e, congrArg Prod.snd e⟩
                  clear hs hu
                  go_wp2_with fail
                  go_roundw
                  case rel => exact ⟨m + 1, by go_num, by omega, HD2, HRS, HRX, HB⟩
                  case measure => simp [intOf]; omega
              obtain rfl : m = d.dials.length := by omega
              have hmI : ¬ ((d.dials.length : Nat) : Int) < (d.dials.length : Int) := by omega
              clear hml hm
              have HS2 : Hid (∀ j, j < k + 1 → FgOk d j) := by
                intro j hj
                rcases Nat.lt_or_ge j k with h | h
                · exact HS.out j h
                · obtain rfl : j = k := by omega
                  refine ⟨⟨by rw [hy]; exact HOK.out, by rw [hy]; exact HTX.out⟩, by rw [hy]; exact HD1.out, by rw [hy]; exact HD2.out⟩
              clear hy
              go_wp2_with fail
              go_roundw
              case rel => exact ⟨k + 1, by go_num, by omega, HS2, HRX, HB⟩
              case measure => simp [intOf]; omega
        obtain rfl : k = d.flights.length := by omega
        have hltI : ¬ (d.flights.length : Int) < d.flights.length := by omega
        have HE : Hid (A = true) := HY.out ⟨HT0.out, HT1.out, HN1.out, hn4, hnd, hnf, HSS.out, HSD.out, HS.out⟩
        go_wp2_with fail
        go_ret
        exact ⟨by rw [HE.out] <;> rfl, HB.out⟩
end Go.Proofs.YtkhclhnejnpkeaaGreat
/- The program's gate, all its calls (by gen_gateimpl.py). -/
namespace Go.Proofs.YtkhclhnejnpkeaaGreat
open Go.RowKit
set_option maxRecDepth 100000
set_option linter.unusedSimpArgs false
set_option linter.unusedVariables false
theorem implCallDial (y : DlD) (w : World) : Calls Tryz.prog 122 #[.agg #[.int .i64 y.seat, .int .i64 y.id, .string y.nm]] w fun x w' => x = .returned (.agg #[.int .i64 y.seat, .int .i64 y.id, .string y.nm]) ∧ Below w.heap.size w w' := by
  go_enter Tryz.func122, Tryz.ntmps122
  go_wp2_with fail
  refine bodyPost_ret (v := .agg #[.int .i64 y.seat, .int .i64 y.id, .string y.nm]) (by simp [results, Tryz.results122, go_sem, *]) rfl ?_
  exact ⟨rfl, (by repeat' (first | (with_reducible exact Below.refl _ _) | (with_reducible refine Below.drew ?_) | (with_reducible refine bo_drewN _ ?_) | (with_reducible refine bo_alloc ?_ _) | (refine bchain ?_ (by with_reducible assumption)) | (with_reducible refine Below.setCell ?_ ?_ _) | go_size))⟩
theorem implCallFlight (y : FgD) (w : World) : Calls Tryz.prog 123 #[.agg #[.int .i64 y.seat, .int .i64 y.id, .string y.nm, .string y.tx]] w fun x w' => x = .returned (.agg #[.int .i64 y.seat, .int .i64 y.id, .string y.nm]) ∧ Below w.heap.size w w' := by
  go_enter Tryz.func123, Tryz.ntmps123
  go_wp2_with fail
  refine bodyPost_ret (v := .agg #[.int .i64 y.seat, .int .i64 y.id, .string y.nm]) (by simp [results, Tryz.results123, go_sem, *]) rfl ?_
  exact ⟨rfl, (by repeat' (first | (with_reducible exact Below.refl _ _) | (with_reducible refine Below.drew ?_) | (with_reducible refine bo_drewN _ ?_) | (with_reducible refine bo_alloc ?_ _) | (refine bchain ?_ (by with_reducible assumption)) | (with_reducible refine Below.setCell ?_ ?_ _) | go_size))⟩
def fcl (L : List FgD) : List DlD := L.map (fun f => ⟨f.seat, f.id, f.nm⟩)
theorem fcl_snoc (L : List FgD) (y : FgD) : fcl (L ++ [y]) = fcl L ++ [⟨y.seat, y.id, y.nm⟩] := by unfold fcl; rw [List.map_append]; rfl
def clv (L : List DlD) : List Value := L.flatMap (fun y => [.int .i64 y.seat, .int .i64 y.id, .string y.nm])
theorem clv_snoc (L : List DlD) (y : DlD) : clv (L ++ [y]) = clv L ++ [.int .i64 y.seat, .int .i64 y.id, .string y.nm] := by unfold clv; rw [List.flatMap_append]; simp
theorem clv_len (L : List DlD) : (clv L).length = L.length * 3 := by unfold clv; exact flat_len _ 3 L (fun _ _ => rfl)
set_option maxHeartbeats 8000000 in
theorem implCalls (d : GtD) (vt vs vd vf : Value) (w : World) (hv : GtRd w d vt vs vd vf) (hnd : d.dials.length ≤ 100) (hnf : d.flights.length ≤ 100) :
    Calls Tryz.prog 105 #[gtv d vt vs vd vf] w fun x w' => ∃ v', x = .returned v' ∧ w'.ownsRow w.heap.size 155 3 v' (callsG d).length (clv (callsG d)) ∧ Below w.heap.size w w' := by
  dsimp only [gtv] at *
  have HV := hide hv
  obtain ⟨at_, pt, rfl, _, _⟩ := hv.te.form
  obtain ⟨as_, ps, rfl, _, _⟩ := hv.se.form
  obtain ⟨ad, pd, rfl, _, _⟩ := hv.di.form
  obtain ⟨af, pf, rfl, _, _⟩ := hv.fl.form
  clear hv
  have HRX : Hid (RowIs (w.alloc (.cells #[.int .i64 d.now, .slice at_ d.tens.length pt, .slice as_ d.seats.length ps, .slice ad d.dials.length pd, .slice af d.flights.length pf, .bool d.drained] 35)) w.heap.size 35 [.int .i64 d.now, .slice at_ d.tens.length pt, .slice as_ d.seats.length ps, .slice ad d.dials.length pd, .slice af d.flights.length pf, .bool d.drained]) := rowIs_new w 35 [.int .i64 d.now, .slice at_ d.tens.length pt, .slice as_ d.seats.length ps, .slice ad d.dials.length pd, .slice af d.flights.length pf, .bool d.drained]
  have HB : Hid (Below w.heap.size w (w.alloc (.cells #[.int .i64 d.now, .slice at_ d.tens.length pt, .slice as_ d.seats.length ps, .slice ad d.dials.length pd, .slice af d.flights.length pf, .bool d.drained] 35))) := (Below.refl _ _).alloc (Nat.le_refl _) _
  go_enter Tryz.func105, Tryz.ntmps105
  go_upto_region 1 with fail
  generalize w.alloc (.cells #[.int .i64 d.now, .slice at_ d.tens.length pt, .slice as_ d.seats.length ps, .slice ad d.dials.length pd, .slice af d.flights.length pf, .bool d.drained] 35) = W1 at *
  have HO : Hid (W1.ownsRow (w.heap.size + 1) 155 3 (.slice none 0 0) 0 []) := World.ownsRow_nil W1 (w.heap.size + 1) 155 3
  have x3 := RowIs.cell (j := 3) HRX.out rfl
  go_wp2_with fail
  clear x3
  go_loopw [3, 11] (fun s i wr => ∃ (k : Nat) (a : Option Addr) (p : Nat), i = .int .i64 k ∧ k ≤ d.dials.length ∧ s = .slice a (k) p ∧ Hid (wr.ownsRow (w.heap.size + 1) 155 3 (.slice a (k) p) (k) (clv (d.dials.take k))) ∧ Hid (RowIs wr w.heap.size 35 [.int .i64 d.now, .slice at_ d.tens.length pt, .slice as_ d.seats.length ps, .slice ad d.dials.length pd, .slice af d.flights.length pf, .bool d.drained]) ∧ Hid (Below w.heap.size w wr)) (fun _ i _ => d.dials.length - (intOf i).toNat)
  case atStart => exact ⟨0, none, 0, rfl, Nat.zero_le _, rfl, HO, HRX, HB⟩
  case round =>
    clear HO HRX HB
    obtain ⟨k, a, p, rfl, hk, rfl, HO, HRX, HB⟩ := hrel
    by_cases hlt : k < d.dials.length
    · have hltI : (k : Int) < d.dials.length := by omega
      obtain ⟨b, o, cs, hab, hbw, hrd, hc⟩ := (HV.out.di.new HB.out).at k hlt
      have HT := hide (List.take_succ_eq_append_getElem hlt)
      obtain ⟨y, hy⟩ : ∃ y, d.dials[k] = y := ⟨_, rfl⟩
      rw [hy] at hrd HT
      subst hab
      obtain ⟨rfl, f0⟩ := hrd
      have c0 : wr.cell? ⟨b, o + k * 3, none⟩ = some (.int .i64 y.seat) := hc 0 _ rfl
      have c1 : wr.cell? ⟨b, o + k * 3 + 1, none⟩ = some (.int .i64 y.id) := hc 1 _ rfl
      have c2 : wr.cell? ⟨b, o + k * 3 + 2, none⟩ = some (.string y.nm) := hc 2 _ rfl
      clear hc hy
      go_upto_region 5 with fail
      have hX : Below wr.heap.size wr (wr.alloc (.cells #[.int .i64 y.seat, .int .i64 y.id, .string y.nm] 68)) := (Below.refl _ _).alloc (Nat.le_refl _) _
      have RS := rowIs_new wr 68 [.int .i64 y.seat, .int .i64 y.id, .string y.nm]
      replace HO := hide (owns_new HO.out hX)
      replace HRX := hide (HRX.out.new hX)
      replace HB := hide (bchain HB.out hX)
      clear hX c0 c1 c2 hbw
      generalize wr.heap.size = gs at *
      generalize wr.alloc (.cells #[.int .i64 y.seat, .int .i64 y.id, .string y.nm] 68) = W2 at *
      have z0 := RowIs.cell (j := 0) RS rfl
      have z1 := RowIs.cell (j := 1) RS rfl
      have z2 := RowIs.cell (j := 2) RS rfl
      go_wp2_with fail
      refine (implCallDial y _).mono ?_; rintro e w3 ⟨rfl, hb⟩
      replace HO := hide (owns_new HO.out hb)
      replace HRX := hide (HRX.out.new hb)
      replace HB := hide (bchain HB.out hb)
      clear hb RS z0 z1 z2
      have hX : Below w3.heap.size w3 (w3.alloc (.cells #[.int .i64 y.seat, .int .i64 y.id, .string y.nm] 155)) := (Below.refl _ _).alloc (Nat.le_refl _) _
      have hownX := owns_new HO.out hX
      have hRd : Reads (w3.alloc (.cells #[.int .i64 y.seat, .int .i64 y.id, .string y.nm] 155)) (.slice (some ⟨w3.heap.size, 0, none⟩) 1 1) 1 3 [.int .i64 y.seat, .int .i64 y.id, .string y.nm] := reads_of_owns (owns_lit w3 155 3 1 #[.int .i64 y.seat, .int .i64 y.id, .string y.nm] rfl (by omega))
      have hone : ∀ y9 ∈ ([.int .i64 y.seat, .int .i64 y.id, .string y.nm] : List Value), y9.oneCell' = true := by intro y9 hy9; simp at hy9; rcases hy9 with rfl | rfl | rfl <;> rfl
      have HBX := hide (bchain HB.out hX)
      have HRXX := hide (HRX.out.new hX)
      have hbs2 : w.heap.size + 1 ≤ _ := HRXX.out.lt
      have hmb : k ≤ 200 := by omega
      go_wp2_with (at_builtin; refine wpList_app _ (by rfl) _ _ 169 (by rfl) 155 (.agg #[.int .i64 0, .int .i64 0, .string ⟨#[]⟩]) 3 32 Tryz.underlying169 (by kernel_rfl) rfl (by decide) (w.heap.size + 1) _ (k) (clv (d.dials.take k)) (by rfl) hownX _ 1 [.int .i64 y.seat, .int .i64 y.id, .string y.nm] (by rfl) hRd hone (by omega) (by decide) hbs2 ?_)
      intro ad7 cap7 w7 hown7 hg7 hat7
      have HB7 : Hid (Below w.heap.size w w7) := by
        have hb := HBX.out
        exact ⟨hg7.os.trans hb.os, hg7.tape.trans hb.tape, hg7.output.trans hb.output, Nat.le_trans hb.size hg7.size, fun k hk => (hg7.block k (by have := hb.size; omega) (fun e => by have := (hownX.lt k e.symm).1; omega)).trans (hb.block k hk)⟩
      have HR7 := hide (HRXX.out.kept (hg7.block _ HRXX.out.lt (fun e => by have := (hownX.lt _ e.symm).1; omega)))
      have HO7 : Hid (w7.ownsRow (w.heap.size + 1) 155 3 (.slice ad7 (k + 1) cap7) (k + 1) (clv (d.dials.take (k + 1)))) := by
        show World.ownsRow _ _ _ _ _ _ _
        rw [HT.out, clv_snoc]
        exact hown7
      clear hown7 hg7 hat7 hownX hRd hX hbs2 hone HRXX HBX HO HRX HB
      go_wp2_with fail
      go_roundw
      case rel => exact ⟨k + 1, ad7, cap7, by go_num, by omega, rfl, HO7, HR7, HB7⟩
      case measure => simp [intOf]; omega
    · obtain rfl : k = d.dials.length := by omega
      have hltI : ¬ (d.dials.length : Int) < d.dials.length := by omega
      have HO2 : Hid (wr.ownsRow (w.heap.size + 1) 155 3 (.slice a (d.dials.length + 0) p) (d.dials.length + 0) (clv (d.dials ++ fcl (d.flights.take 0)))) := by
        have := HO.out
        rw [List.take_length] at this
        show World.ownsRow _ _ _ _ _ _ _
        simpa [fcl] using this
      clear HO hlt hk
      have x4 := RowIs.cell (j := 4) HRX.out rfl
      go_wp2_with fail
      clear x4
      go_loopw [3, 24] (fun s i wr => ∃ (k : Nat) (a : Option Addr) (p : Nat), i = .int .i64 k ∧ k ≤ d.flights.length ∧ s = .slice a (d.dials.length + k) p ∧ Hid (wr.ownsRow (w.heap.size + 1) 155 3 (.slice a (d.dials.length + k) p) (d.dials.length + k) (clv (d.dials ++ fcl (d.flights.take k)))) ∧ Hid (RowIs wr w.heap.size 35 [.int .i64 d.now, .slice at_ d.tens.length pt, .slice as_ d.seats.length ps, .slice ad d.dials.length pd, .slice af d.flights.length pf, .bool d.drained]) ∧ Hid (Below w.heap.size w wr)) (fun _ i _ => d.flights.length - (intOf i).toNat)
      case atStart => exact ⟨0, a, p, rfl, Nat.zero_le _, rfl, HO2, HRX, HB⟩
      case round =>
        clear HO2 HRX HB
        obtain ⟨k, a, p, rfl, hk, rfl, HO, HRX, HB⟩ := hrel
        by_cases hlt : k < d.flights.length
        · have hltI : (k : Int) < d.flights.length := by omega
          obtain ⟨b, o, cs, hab, hbw, hrd, hc⟩ := (HV.out.fl.new HB.out).at k hlt
          have HT := hide (List.take_succ_eq_append_getElem hlt)
          obtain ⟨y, hy⟩ : ∃ y, d.flights[k] = y := ⟨_, rfl⟩
          rw [hy] at hrd HT
          subst hab
          obtain ⟨rfl, f0, f1⟩ := hrd
          have c0 : wr.cell? ⟨b, o + k * 4, none⟩ = some (.int .i64 y.seat) := hc 0 _ rfl
          have c1 : wr.cell? ⟨b, o + k * 4 + 1, none⟩ = some (.int .i64 y.id) := hc 1 _ rfl
          have c2 : wr.cell? ⟨b, o + k * 4 + 2, none⟩ = some (.string y.nm) := hc 2 _ rfl
          have c3 : wr.cell? ⟨b, o + k * 4 + 3, none⟩ = some (.string y.tx) := hc 3 _ rfl
          clear hc hy
          go_upto_region 10 with fail
          have hX : Below wr.heap.size wr (wr.alloc (.cells #[.int .i64 y.seat, .int .i64 y.id, .string y.nm, .string y.tx] 73)) := (Below.refl _ _).alloc (Nat.le_refl _) _
          have RS := rowIs_new wr 73 [.int .i64 y.seat, .int .i64 y.id, .string y.nm, .string y.tx]
          replace HO := hide (owns_new HO.out hX)
          replace HRX := hide (HRX.out.new hX)
          replace HB := hide (bchain HB.out hX)
          clear hX c0 c1 c2 c3 hbw
          generalize wr.heap.size = gs at *
          generalize wr.alloc (.cells #[.int .i64 y.seat, .int .i64 y.id, .string y.nm, .string y.tx] 73) = W2 at *
          have z0 := RowIs.cell (j := 0) RS rfl
          have z1 := RowIs.cell (j := 1) RS rfl
          have z2 := RowIs.cell (j := 2) RS rfl
          have z3 := RowIs.cell (j := 3) RS rfl
          go_wp2_with fail
          refine (implCallFlight y _).mono ?_; rintro e w3 ⟨rfl, hb⟩
          replace HO := hide (owns_new HO.out hb)
          replace HRX := hide (HRX.out.new hb)
          replace HB := hide (bchain HB.out hb)
          clear hb RS z0 z1 z2 z3
          have hX : Below w3.heap.size w3 (w3.alloc (.cells #[.int .i64 y.seat, .int .i64 y.id, .string y.nm] 155)) := (Below.refl _ _).alloc (Nat.le_refl _) _
          have hownX := owns_new HO.out hX
          have hRd : Reads (w3.alloc (.cells #[.int .i64 y.seat, .int .i64 y.id, .string y.nm] 155)) (.slice (some ⟨w3.heap.size, 0, none⟩) 1 1) 1 3 [.int .i64 y.seat, .int .i64 y.id, .string y.nm] := reads_of_owns (owns_lit w3 155 3 1 #[.int .i64 y.seat, .int .i64 y.id, .string y.nm] rfl (by omega))
          have hone : ∀ y9 ∈ ([.int .i64 y.seat, .int .i64 y.id, .string y.nm] : List Value), y9.oneCell' = true := by intro y9 hy9; simp at hy9; rcases hy9 with rfl | rfl | rfl <;> rfl
          have HBX := hide (bchain HB.out hX)
          have HRXX := hide (HRX.out.new hX)
          have hbs2 : w.heap.size + 1 ≤ _ := HRXX.out.lt
          have hmb : d.dials.length + k ≤ 200 := by omega
          go_wp2_with (at_builtin; refine wpList_app _ (by rfl) _ _ 169 (by rfl) 155 (.agg #[.int .i64 0, .int .i64 0, .string ⟨#[]⟩]) 3 32 Tryz.underlying169 (by kernel_rfl) rfl (by decide) (w.heap.size + 1) _ (d.dials.length + k) (clv (d.dials ++ fcl (d.flights.take k))) (by rfl) hownX _ 1 [.int .i64 y.seat, .int .i64 y.id, .string y.nm] (by rfl) hRd hone (by omega) (by decide) hbs2 ?_)
          intro ad7 cap7 w7 hown7 hg7 hat7
          have HB7 : Hid (Below w.heap.size w w7) := by
            have hb := HBX.out
            exact ⟨hg7.os.trans hb.os, hg7.tape.trans hb.tape, hg7.output.trans hb.output, Nat.le_trans hb.size hg7.size, fun k hk => (hg7.block k (by have := hb.size; omega) (fun e => by have := (hownX.lt k e.symm).1; omega)).trans (hb.block k hk)⟩
          have HR7 := hide (HRXX.out.kept (hg7.block _ HRXX.out.lt (fun e => by have := (hownX.lt _ e.symm).1; omega)))
          have HO7 : Hid (w7.ownsRow (w.heap.size + 1) 155 3 (.slice ad7 (d.dials.length + k + 1) cap7) (d.dials.length + k + 1) (clv (d.dials ++ fcl (d.flights.take (k + 1))))) := by
            show World.ownsRow _ _ _ _ _ _ _
            rw [HT.out, fcl_snoc, ← List.append_assoc, clv_snoc]
            exact hown7
          clear hown7 hg7 hat7 hownX hRd hX hbs2 hone HRXX HBX HO HRX HB
          go_wp2_with fail
          go_roundw
          case rel => exact ⟨k + 1, ad7, cap7, by go_num, by omega, rfl, HO7, HR7, HB7⟩
          case measure => simp [intOf]; omega
        · obtain rfl : k = d.flights.length := by omega
          have hltI : ¬ (d.flights.length : Int) < d.flights.length := by omega
          have HO3 := HO.out
          rw [List.take_length] at HO3
          have HO4 := hide HO3
          clear HO3 HO hlt hk
          go_wp2_with fail
          go_ret
          refine ⟨_, rfl, ?_, HB.out⟩
          rw [calls_len]
          exact owns_base HO4.out (fun q hq => by have := (owns_lt HO4.out q hq).1; omega)
end Go.Proofs.YtkhclhnejnpkeaaGreat
/- The program's gate, its small words: a right seat, a right flight; how many of a list are right; all the calls (by gen_gateimpl.py). -/
namespace Go.Proofs.YtkhclhnejnpkeaaGreat
open Go.RowKit
set_option maxRecDepth 100000
set_option linter.unusedSimpArgs false
set_option linter.unusedVariables false
def okFx (y : FgD) : Bool := decide (y.tx.size ≤ 1000000)
set_option maxHeartbeats 4000000 in
theorem implSRight (y : StD) (ve vi vo vf : Value) (w : World) (hv : CnRd w y.cn ve vi vo vf) (f0 : y.rest.size ≤ 9223372036854775807) (f1 : y.out.size ≤ 9223372036854775807) :
    Calls Tryz.prog 71 #[.agg #[.int .i64 y.cn.reg.lim, .int .i64 y.cn.reg.top, ve, .int .i64 y.cn.inr, vi, .int .i64 y.cn.outr, vo, .int .i64 y.cn.get, .int .i64 y.cn.give, .int .i64 y.cn.first, vf, .bool y.cn.away, .bool y.cn.dead, .string y.rest, .string y.out, .bool y.bad]] w fun x w' => x = .returned (.bool (okSt y)) ∧ Below w.heap.size w w' := by
  have hcn := hv
  clear hv
  obtain ⟨ae, pe, rfl, _⟩ := hcn.e.form
  obtain ⟨ai, pi, rfl, _⟩ := hcn.i.form
  obtain ⟨ao, po, rfl, _⟩ := hcn.o.form
  obtain ⟨aw, pw, rfl, _⟩ := hcn.f.form
  have HCN := hide hcn
  clear hcn
  obtain ⟨A, hA⟩ : ∃ A, okSt y = A := ⟨_, rfl⟩
  rw [hA]
  have HA := hide hA
  clear hA
  have HRS : Hid (RowIs (w.alloc (.cells #[.int .i64 y.cn.reg.lim, .int .i64 y.cn.reg.top, .slice ae y.cn.reg.es.length pe, .int .i64 y.cn.inr, .slice ai y.cn.inT.length pi, .int .i64 y.cn.outr, .slice ao y.cn.outT.length po, .int .i64 y.cn.get, .int .i64 y.cn.give, .int .i64 y.cn.first, .slice aw y.cn.flows.length pw, .bool y.cn.away, .bool y.cn.dead, .string y.rest, .string y.out, .bool y.bad] 65)) w.heap.size 65 [.int .i64 y.cn.reg.lim, .int .i64 y.cn.reg.top, .slice ae y.cn.reg.es.length pe, .int .i64 y.cn.inr, .slice ai y.cn.inT.length pi, .int .i64 y.cn.outr, .slice ao y.cn.outT.length po, .int .i64 y.cn.get, .int .i64 y.cn.give, .int .i64 y.cn.first, .slice aw y.cn.flows.length pw, .bool y.cn.away, .bool y.cn.dead, .string y.rest, .string y.out, .bool y.bad]) := rowIs_new w 65 [.int .i64 y.cn.reg.lim, .int .i64 y.cn.reg.top, .slice ae y.cn.reg.es.length pe, .int .i64 y.cn.inr, .slice ai y.cn.inT.length pi, .int .i64 y.cn.outr, .slice ao y.cn.outT.length po, .int .i64 y.cn.get, .int .i64 y.cn.give, .int .i64 y.cn.first, .slice aw y.cn.flows.length pw, .bool y.cn.away, .bool y.cn.dead, .string y.rest, .string y.out, .bool y.bad]
  have hX : Below w.heap.size w (w.alloc (.cells #[.int .i64 y.cn.reg.lim, .int .i64 y.cn.reg.top, .slice ae y.cn.reg.es.length pe, .int .i64 y.cn.inr, .slice ai y.cn.inT.length pi, .int .i64 y.cn.outr, .slice ao y.cn.outT.length po, .int .i64 y.cn.get, .int .i64 y.cn.give, .int .i64 y.cn.first, .slice aw y.cn.flows.length pw, .bool y.cn.away, .bool y.cn.dead, .string y.rest, .string y.out, .bool y.bad] 65)) := (Below.refl _ _).alloc (Nat.le_refl _) _
  have HB := hide hX
  replace HCN := hide (HCN.out.new hX)
  clear hX
  go_enter Tryz.func71, Tryz.ntmps71
  go_upto_region 1 with fail
  generalize w.alloc (.cells #[.int .i64 y.cn.reg.lim, .int .i64 y.cn.reg.top, .slice ae y.cn.reg.es.length pe, .int .i64 y.cn.inr, .slice ai y.cn.inT.length pi, .int .i64 y.cn.outr, .slice ao y.cn.outT.length po, .int .i64 y.cn.get, .int .i64 y.cn.give, .int .i64 y.cn.first, .slice aw y.cn.flows.length pw, .bool y.cn.away, .bool y.cn.dead, .string y.rest, .string y.out, .bool y.bad] 65) = W1 at *
  have z0 := RowIs.cell (j := 0) HRS.out rfl
  have z1 := RowIs.cell (j := 1) HRS.out rfl
  have z2 := RowIs.cell (j := 2) HRS.out rfl
  have z3 := RowIs.cell (j := 3) HRS.out rfl
  have z4 := RowIs.cell (j := 4) HRS.out rfl
  have z5 := RowIs.cell (j := 5) HRS.out rfl
  have z6 := RowIs.cell (j := 6) HRS.out rfl
  have z7 := RowIs.cell (j := 7) HRS.out rfl
  have z8 := RowIs.cell (j := 8) HRS.out rfl
  have z9 := RowIs.cell (j := 9) HRS.out rfl
  have z10 := RowIs.cell (j := 10) HRS.out rfl
  have z11 := RowIs.cell (j := 11) HRS.out rfl
  have z12 := RowIs.cell (j := 12) HRS.out rfl
  go_wp2_with fail
  refine (implConnOk y.cn _ _ _ _ _ HCN.out).mono ?_; rintro e w3 ⟨rfl, hb⟩
  replace HRS := hide (HRS.out.new hb)
  replace HB := hide (bchain HB.out hb)
  clear hb HCN z0 z1 z2 z3 z4 z5 z6 z7 z8 z9 z10 z11 z12
  have z13 := RowIs.cell (j := 13) HRS.out rfl
  have z14 := RowIs.cell (j := 14) HRS.out rfl
  cases m0 : okCn y.cn
  · have HE : Hid (A = false) := by show A = false; rw [← HA.out]; unfold okSt; rw [m0]; rfl
    go_wp2_with fail
    go_ret
    exact ⟨by rw [HE.out] <;> rfl, HB.out⟩
  by_cases m1 : (y.rest.size : Int) ≤ 2000
  rotate_left
  · have hd1 : decide ((y.rest.size : Int) ≤ 2000) = false := decide_eq_false m1
    have HE : Hid (A = false) := by show A = false; rw [← HA.out]; unfold okSt; rw [decide_eq_false (show ¬ y.rest.size ≤ 2000 by omega), Bool.false_and, Bool.and_false]
    go_wp2_with fail
    go_ret
    exact ⟨by rw [HE.out] <;> rfl, HB.out⟩
  have hd1 : decide ((y.rest.size : Int) ≤ 2000) = true := decide_eq_true m1
  by_cases m2 : (y.out.size : Int) ≤ 400000
  · have hd2 : decide ((y.out.size : Int) ≤ 400000) = true := decide_eq_true m2
    have HE : Hid (A = true) := by show A = true; rw [← HA.out]; unfold okSt; rw [m0, decide_eq_true (show y.rest.size ≤ 2000 by omega), decide_eq_true (show y.out.size ≤ 400000 by omega)]; rfl
    go_wp2_with fail
    go_ret
    exact ⟨by rw [HE.out] <;> rfl, HB.out⟩
  · have hd2 : decide ((y.out.size : Int) ≤ 400000) = false := decide_eq_false m2
    have HE : Hid (A = false) := by show A = false; rw [← HA.out]; unfold okSt; rw [decide_eq_false (show ¬ y.out.size ≤ 400000 by omega), Bool.and_false, Bool.and_false]
    go_wp2_with fail
    go_ret
    exact ⟨by rw [HE.out] <;> rfl, HB.out⟩
theorem implFRight (y : FgD) (w : World) (f1 : y.tx.size ≤ 9223372036854775807) :
    Calls Tryz.prog 73 #[.agg #[.int .i64 y.seat, .int .i64 y.id, .string y.nm, .string y.tx]] w fun x w' => x = .returned (.bool (decide (y.tx.size ≤ 1000000))) ∧ Below w.heap.size w w' := by
  by_cases m2 : (y.tx.size : Int) ≤ 1000000
  · rw [decide_eq_true (show y.tx.size ≤ 1000000 by omega)]
    go_enter Tryz.func73, Tryz.ntmps73
    go_wp2_with fail
    go_ret
    exact ⟨rfl, (by repeat' (first | (with_reducible exact Below.refl _ _) | (with_reducible refine Below.drew ?_) | (with_reducible refine bo_drewN _ ?_) | (with_reducible refine bo_alloc ?_ _) | (refine bchain ?_ (by with_reducible assumption)) | (with_reducible refine Below.setCell ?_ ?_ _) | go_size))⟩
  · rw [decide_eq_false (show ¬ y.tx.size ≤ 1000000 by omega)]
    go_enter Tryz.func73, Tryz.ntmps73
    go_wp2_with fail
    go_ret
    exact ⟨rfl, (by repeat' (first | (with_reducible exact Below.refl _ _) | (with_reducible refine Below.drew ?_) | (with_reducible refine bo_drewN _ ?_) | (with_reducible refine bo_alloc ?_ _) | (refine bchain ?_ (by with_reducible assumption)) | (with_reducible refine Below.setCell ?_ ?_ _) | go_size))⟩
def numS18 (L : List StD) : Nat := (L.filter okSt).length
theorem numS18_le (L : List StD) : numS18 L ≤ L.length := List.length_filter_le _ _
theorem numS18_yes {L : List StD} {k : Nat} (hk : k < L.length) (h : okSt L[k] = true) : numS18 (L.take (k + 1)) = numS18 (L.take k) + 1 := by
  unfold numS18
  rw [List.take_add_one, List.filter_append, List.getElem?_eq_getElem hk]
  simp [h]
theorem numS18_no {L : List StD} {k : Nat} (hk : k < L.length) (h : okSt L[k] = false) : numS18 (L.take (k + 1)) = numS18 (L.take k) := by
  unfold numS18
  rw [List.take_add_one, List.filter_append, List.getElem?_eq_getElem hk]
  simp [h]
theorem numS18_all {L : List StD} : numS18 L = L.length ↔ ∀ x ∈ L, okSt x = true := by
  unfold numS18
  rw [List.length_filter_eq_length_iff]
set_option maxHeartbeats 8000000 in
theorem implOnlySeat (L : List StD) (v : Value) (fb : Nat) (w : World) (hr : RdR seatS w v L) (hf : w.cell? ⟨fb, 0, none⟩ = some (.func (.func 71) #[] #[])) (hfl : fb < w.heap.size) (hL : L.length ≤ 4) :
    Calls Tryz.prog 70 #[v, .slice (some ⟨fb, 0, none⟩) 1 1] w fun x w' => ∃ a p, x = .returned (.slice a (numS18 L) p) ∧ numS18 L ≤ p ∧ p ≤ 9223372036854775807 ∧ Below w.heap.size w w' := by
  obtain ⟨ad, cap, rfl, h1, h2⟩ := hr.form
  have HR := hide hr
  have HF : Hid (∀ w' : World, Below w.heap.size w w' → w'.cell? ⟨fb, 0, none⟩ = some (.func (.func 71) #[] #[]) ∧ fb < w'.heap.size) := fun w' hb => ⟨(hb.cell (p := ⟨fb, 0, none⟩) hfl).trans hf, Nat.lt_of_lt_of_le hfl hb.size⟩
  clear hr hf hfl
  obtain ⟨N, hN⟩ : ∃ N, numS18 L = N := ⟨_, rfl⟩
  rw [hN]
  have HN := hide hN
  clear hN
  go_enter Tryz.func70, Tryz.ntmps70
  go_wp2_with fail
  go_step3
  go_wp2_with fail
  go_step3
  go_wp2_with fail
  go_loopg [5, 12] L.length (fun g s i wr => ∃ (k : Nat) (a : Option Addr) (p M : Nat) (xs : List Value), k + g = L.length ∧ i = .int .i64 k ∧ s = .slice a M p ∧ Hid (numS18 (L.take k) = M) ∧ Hid (wr.ownsRow w.heap.size 65 16 (.slice a M p) M xs) ∧ Hid (Below w.heap.size w wr))
  case atStart => exact ⟨0, none, 0, 0, [], by omega, rfl, rfl, rfl, World.ownsRow_nil w w.heap.size 65 16, Below.refl _ _⟩
  case round =>
    obtain ⟨k, a, p, M, xs, hkg, rfl, rfl, HM, HO, HB⟩ := hrel
    cases gk with
    | zero =>
      have hkz : ¬ ((k : Int) < (L.length : Int)) := by omega
      have HMM : Hid (M = N) := by show M = _; rw [← HM.out, ← HN.out, List.take_of_length_le (by omega)]
      clear hkg
      go_wp2_with fail
      try rw [Exit.noGoto_ret]
      go_ret
      have := HMM.out
      subst this
      obtain ⟨_, _, he, q1, q2⟩ := owns_form HO.out
      simp only [Value.slice.injEq] at he
      obtain ⟨rfl, -, rfl⟩ := he
      exact ⟨_, _, rfl, q1, q2, HB.out⟩
    | succ go1 =>
      have hlt : k < L.length := by omega
      obtain ⟨b, o, cs, hab, hbw, hrd, hc⟩ := (HR.out.new HB.out).at k hlt
      have HY0 := hide (numS18_yes (L := L) hlt)
      have HN0 := hide (numS18_no (L := L) hlt)
      obtain ⟨y, hy⟩ : ∃ y, L[k] = y := ⟨_, rfl⟩
      rw [hy] at hrd
      have HY : Hid (okSt y = true → numS18 (L.take (k + 1)) = M + 1) := by rw [← hy, ← HM.out]; exact HY0.out
      have HNO : Hid (okSt y = false → numS18 (L.take (k + 1)) = M) := by rw [← hy, ← HM.out]; exact HN0.out
      have hkl : M ≤ k := by have := numS18_le (L.take k); rw [List.length_take, HM.out] at this; omega
      clear hy HM HY0 HN0
      subst hab
      obtain ⟨ve, vi, vo, vf, rfl, f0, f1, hcn⟩ := hrd
      obtain ⟨ae, pe, rfl, _⟩ := hcn.e.form
      obtain ⟨ai, pi, rfl, _⟩ := hcn.i.form
      obtain ⟨ao, po, rfl, _⟩ := hcn.o.form
      obtain ⟨aw, pw, rfl, _⟩ := hcn.f.form
      have c0 : wr.cell? ⟨b, o + k * 16, none⟩ = some (.int .i64 y.cn.reg.lim) := hc 0 _ rfl
      have c1 : wr.cell? ⟨b, o + k * 16 + 1, none⟩ = some (.int .i64 y.cn.reg.top) := hc 1 _ rfl
      have c2 : wr.cell? ⟨b, o + k * 16 + 2, none⟩ = some (.slice ae y.cn.reg.es.length pe) := hc 2 _ rfl
      have c3 : wr.cell? ⟨b, o + k * 16 + 3, none⟩ = some (.int .i64 y.cn.inr) := hc 3 _ rfl
      have c4 : wr.cell? ⟨b, o + k * 16 + 4, none⟩ = some (.slice ai y.cn.inT.length pi) := hc 4 _ rfl
      have c5 : wr.cell? ⟨b, o + k * 16 + 5, none⟩ = some (.int .i64 y.cn.outr) := hc 5 _ rfl
      have c6 : wr.cell? ⟨b, o + k * 16 + 6, none⟩ = some (.slice ao y.cn.outT.length po) := hc 6 _ rfl
      have c7 : wr.cell? ⟨b, o + k * 16 + 7, none⟩ = some (.int .i64 y.cn.get) := hc 7 _ rfl
      have c8 : wr.cell? ⟨b, o + k * 16 + 8, none⟩ = some (.int .i64 y.cn.give) := hc 8 _ rfl
      have c9 : wr.cell? ⟨b, o + k * 16 + 9, none⟩ = some (.int .i64 y.cn.first) := hc 9 _ rfl
      have c10 : wr.cell? ⟨b, o + k * 16 + 10, none⟩ = some (.slice aw y.cn.flows.length pw) := hc 10 _ rfl
      have c11 : wr.cell? ⟨b, o + k * 16 + 11, none⟩ = some (.bool y.cn.away) := hc 11 _ rfl
      have c12 : wr.cell? ⟨b, o + k * 16 + 12, none⟩ = some (.bool y.cn.dead) := hc 12 _ rfl
      have c13 : wr.cell? ⟨b, o + k * 16 + 13, none⟩ = some (.string y.rest) := hc 13 _ rfl
      have c14 : wr.cell? ⟨b, o + k * 16 + 14, none⟩ = some (.string y.out) := hc 14 _ rfl
      have c15 : wr.cell? ⟨b, o + k * 16 + 15, none⟩ = some (.bool y.bad) := hc 15 _ rfl
      clear hc
      go_upto_region 5 with fail
      have hbe : Below wr.heap.size wr (wr.alloc (.cells #[.int .i64 y.cn.reg.lim, .int .i64 y.cn.reg.top, .slice ae y.cn.reg.es.length pe, .int .i64 y.cn.inr, .slice ai y.cn.inT.length pi, .int .i64 y.cn.outr, .slice ao y.cn.outT.length po, .int .i64 y.cn.get, .int .i64 y.cn.give, .int .i64 y.cn.first, .slice aw y.cn.flows.length pw, .bool y.cn.away, .bool y.cn.dead, .string y.rest, .string y.out, .bool y.bad] 65)) := (Below.refl _ _).alloc (Nat.le_refl _) _
      have HE : Hid (RowIs (wr.alloc (.cells #[.int .i64 y.cn.reg.lim, .int .i64 y.cn.reg.top, .slice ae y.cn.reg.es.length pe, .int .i64 y.cn.inr, .slice ai y.cn.inT.length pi, .int .i64 y.cn.outr, .slice ao y.cn.outT.length po, .int .i64 y.cn.get, .int .i64 y.cn.give, .int .i64 y.cn.first, .slice aw y.cn.flows.length pw, .bool y.cn.away, .bool y.cn.dead, .string y.rest, .string y.out, .bool y.bad] 65)) wr.heap.size 65 [.int .i64 y.cn.reg.lim, .int .i64 y.cn.reg.top, .slice ae y.cn.reg.es.length pe, .int .i64 y.cn.inr, .slice ai y.cn.inT.length pi, .int .i64 y.cn.outr, .slice ao y.cn.outT.length po, .int .i64 y.cn.get, .int .i64 y.cn.give, .int .i64 y.cn.first, .slice aw y.cn.flows.length pw, .bool y.cn.away, .bool y.cn.dead, .string y.rest, .string y.out, .bool y.bad]) := rowIs_new wr 65 [.int .i64 y.cn.reg.lim, .int .i64 y.cn.reg.top, .slice ae y.cn.reg.es.length pe, .int .i64 y.cn.inr, .slice ai y.cn.inT.length pi, .int .i64 y.cn.outr, .slice ao y.cn.outT.length po, .int .i64 y.cn.get, .int .i64 y.cn.give, .int .i64 y.cn.first, .slice aw y.cn.flows.length pw, .bool y.cn.away, .bool y.cn.dead, .string y.rest, .string y.out, .bool y.bad]
      have HCN := hide (hcn.new hbe)
      generalize wr.alloc (.cells #[.int .i64 y.cn.reg.lim, .int .i64 y.cn.reg.top, .slice ae y.cn.reg.es.length pe, .int .i64 y.cn.inr, .slice ai y.cn.inT.length pi, .int .i64 y.cn.outr, .slice ao y.cn.outT.length po, .int .i64 y.cn.get, .int .i64 y.cn.give, .int .i64 y.cn.first, .slice aw y.cn.flows.length pw, .bool y.cn.away, .bool y.cn.dead, .string y.rest, .string y.out, .bool y.bad] 65) = X at *
      have HOX := hide (owns_new HO.out hbe)
      have HBX := hide (bchain HB.out hbe)
      have HGB : Hid (w.heap.size ≤ wr.heap.size) := HB.out.size
      generalize wr.heap.size = go at *
      clear c0 c1 c2 c3 c4 c5 c6 c7 c8 c9 c10 c11 c12 c13 c14 c15 hbe HO HB hcn
      go_wp2_with fail
      go_loopg [18] 1 (fun g i wi => ∃ (j : Nat), j + g = 1 ∧ i = .int .i64 j ∧ Hid (0 < j → okSt y = true) ∧ Hid (RowIs wi go 65 [.int .i64 y.cn.reg.lim, .int .i64 y.cn.reg.top, .slice ae y.cn.reg.es.length pe, .int .i64 y.cn.inr, .slice ai y.cn.inT.length pi, .int .i64 y.cn.outr, .slice ao y.cn.outT.length po, .int .i64 y.cn.get, .int .i64 y.cn.give, .int .i64 y.cn.first, .slice aw y.cn.flows.length pw, .bool y.cn.away, .bool y.cn.dead, .string y.rest, .string y.out, .bool y.bad]) ∧ Hid (CnRd wi y.cn (.slice ae y.cn.reg.es.length pe) (.slice ai y.cn.inT.length pi) (.slice ao y.cn.outT.length po) (.slice aw y.cn.flows.length pw)) ∧ Hid (wi.ownsRow w.heap.size 65 16 (.slice a M p) M xs) ∧ Hid (Below w.heap.size w wi))
      case atStart => exact ⟨0, by omega, rfl, by intro h; exact absurd h (Nat.lt_irrefl _), HE, HCN, HOX, HBX⟩
      case round =>
        clear HE HOX HBX HCN
        obtain ⟨j, hjg, rfl, HA, HE, HCN, HO, HB⟩ := hrel
        have hlE := HE.out.lt
        have e0 := HE.out.cell (j := 0) rfl
        have e1 := HE.out.cell (j := 1) rfl
        have e2 := HE.out.cell (j := 2) rfl
        have e3 := HE.out.cell (j := 3) rfl
        have e4 := HE.out.cell (j := 4) rfl
        have e5 := HE.out.cell (j := 5) rfl
        have e6 := HE.out.cell (j := 6) rfl
        have e7 := HE.out.cell (j := 7) rfl
        have e8 := HE.out.cell (j := 8) rfl
        have e9 := HE.out.cell (j := 9) rfl
        have e10 := HE.out.cell (j := 10) rfl
        have e11 := HE.out.cell (j := 11) rfl
        have e12 := HE.out.cell (j := 12) rfl
        have e13 := HE.out.cell (j := 13) rfl
        have e14 := HE.out.cell (j := 14) rfl
        have e15 := HE.out.cell (j := 15) rfl
        cases gk with
        | zero =>
          obtain rfl : j = 1 := by omega
          have HM2 := hide (HY.out (HA.out Nat.one_pos))
          clear hjg
          have hX : Below wr.heap.size wr (wr.alloc (.cells #[.int .i64 y.cn.reg.lim, .int .i64 y.cn.reg.top, .slice ae y.cn.reg.es.length pe, .int .i64 y.cn.inr, .slice ai y.cn.inT.length pi, .int .i64 y.cn.outr, .slice ao y.cn.outT.length po, .int .i64 y.cn.get, .int .i64 y.cn.give, .int .i64 y.cn.first, .slice aw y.cn.flows.length pw, .bool y.cn.away, .bool y.cn.dead, .string y.rest, .string y.out, .bool y.bad] 65)) := (Below.refl _ _).alloc (Nat.le_refl _) _
          have hownX := owns_new HO.out hX
          have hRd : Reads (wr.alloc (.cells #[.int .i64 y.cn.reg.lim, .int .i64 y.cn.reg.top, .slice ae y.cn.reg.es.length pe, .int .i64 y.cn.inr, .slice ai y.cn.inT.length pi, .int .i64 y.cn.outr, .slice ao y.cn.outT.length po, .int .i64 y.cn.get, .int .i64 y.cn.give, .int .i64 y.cn.first, .slice aw y.cn.flows.length pw, .bool y.cn.away, .bool y.cn.dead, .string y.rest, .string y.out, .bool y.bad] 65)) (.slice (some ⟨wr.heap.size, 0, none⟩) 1 1) 1 16 [.int .i64 y.cn.reg.lim, .int .i64 y.cn.reg.top, .slice ae y.cn.reg.es.length pe, .int .i64 y.cn.inr, .slice ai y.cn.inT.length pi, .int .i64 y.cn.outr, .slice ao y.cn.outT.length po, .int .i64 y.cn.get, .int .i64 y.cn.give, .int .i64 y.cn.first, .slice aw y.cn.flows.length pw, .bool y.cn.away, .bool y.cn.dead, .string y.rest, .string y.out, .bool y.bad] := reads_of_owns (owns_lit wr 65 16 1 #[.int .i64 y.cn.reg.lim, .int .i64 y.cn.reg.top, .slice ae y.cn.reg.es.length pe, .int .i64 y.cn.inr, .slice ai y.cn.inT.length pi, .int .i64 y.cn.outr, .slice ao y.cn.outT.length po, .int .i64 y.cn.get, .int .i64 y.cn.give, .int .i64 y.cn.first, .slice aw y.cn.flows.length pw, .bool y.cn.away, .bool y.cn.dead, .string y.rest, .string y.out, .bool y.bad] rfl (by omega))
          have hone : ∀ y9 ∈ ([.int .i64 y.cn.reg.lim, .int .i64 y.cn.reg.top, .slice ae y.cn.reg.es.length pe, .int .i64 y.cn.inr, .slice ai y.cn.inT.length pi, .int .i64 y.cn.outr, .slice ao y.cn.outT.length po, .int .i64 y.cn.get, .int .i64 y.cn.give, .int .i64 y.cn.first, .slice aw y.cn.flows.length pw, .bool y.cn.away, .bool y.cn.dead, .string y.rest, .string y.out, .bool y.bad] : List Value), y9.oneCell' = true := by intro y9 hy9; simp at hy9; rcases hy9 with rfl | rfl | rfl | rfl | rfl | rfl | rfl | rfl | rfl | rfl | rfl | rfl | rfl | rfl | rfl | rfl <;> rfl
          have HBX := hide (bchain HB.out hX)
          have hbs := HBX.out.size
          go_wp2_with (at_builtin; refine wpList_app _ (by rfl) _ _ 133 (by rfl) 65 (.agg #[.int .i64 0, .int .i64 0, .slice none 0 0, .int .i64 0, .slice none 0 0, .int .i64 0, .slice none 0 0, .int .i64 0, .int .i64 0, .int .i64 0, .slice none 0 0, .bool false, .bool false, .string ⟨#[]⟩, .string ⟨#[]⟩, .bool false]) 16 200 Tryz.underlying133 (by kernel_rfl) rfl (by decide) w.heap.size _ M xs (by rfl) hownX _ 1 [.int .i64 y.cn.reg.lim, .int .i64 y.cn.reg.top, .slice ae y.cn.reg.es.length pe, .int .i64 y.cn.inr, .slice ai y.cn.inT.length pi, .int .i64 y.cn.outr, .slice ao y.cn.outT.length po, .int .i64 y.cn.get, .int .i64 y.cn.give, .int .i64 y.cn.first, .slice aw y.cn.flows.length pw, .bool y.cn.away, .bool y.cn.dead, .string y.rest, .string y.out, .bool y.bad] (by rfl) hRd hone (by omega) (by decide) hbs ?_)
          intro ad7 cap7 w7 hown7 hg7 hat7
          have HB7 : Hid (Below w.heap.size w w7) := by
            have hb := HBX.out
            exact ⟨hg7.os.trans hb.os, hg7.tape.trans hb.tape, hg7.output.trans hb.output, Nat.le_trans hb.size hg7.size, fun k hk => (hg7.block k (by have := hb.size; omega) (fun e => by have := (hownX.lt k e.symm).1; omega)).trans (hb.block k hk)⟩
          have HO7 := hide hown7
          clear hown7 hg7 hat7 hownX hRd hX hbs hone
          go_wp2_with fail
          go_roundg go1
          case measure => omega
          case rel => exact ⟨k + 1, ad7, cap7, M + 1, _, by omega, by go_num, rfl, HM2, HO7, HB7⟩
        | succ gj =>
          obtain rfl : j = 0 := by omega
          obtain ⟨hcx, hfl⟩ := HF.out _ HB.out
          go_wp2_with fail
          refine (implSRight y _ _ _ _ _ HCN.out f0 f1).mono ?_; rintro z w5 ⟨rfl, hb5⟩
          replace HE := hide (HE.out.new hb5)
          replace HCN := hide (HCN.out.new hb5)
          replace HO := hide (owns_new HO.out hb5)
          replace HB := hide (bchain HB.out hb5)
          clear hb5 hcx e0 e1 e2 e3 e4 e5 e6 e7 e8 e9 e10 e11 e12 e13 e14 e15
          skip
          cases hq : okSt y
          · have HM2 := hide (HNO.out hq)
            clear hq
            go_wp2_with fail
            go_roundg go1
            case measure => omega
            case rel => exact ⟨k + 1, a, p, M, xs, by omega, by go_num, rfl, HM2, HO, HB⟩
          · have HA2 : Hid (0 < 1 → okSt y = true) := fun _ => hq
            clear hq
            go_wp2_with fail
            go_roundg gj
            case measure => omega
            case rel => exact ⟨1, by omega, by go_num, HA2, HE, HCN, HO, HB⟩
def numF18 (L : List FgD) : Nat := (L.filter okFx).length
theorem numF18_le (L : List FgD) : numF18 L ≤ L.length := List.length_filter_le _ _
theorem numF18_yes {L : List FgD} {k : Nat} (hk : k < L.length) (h : okFx L[k] = true) : numF18 (L.take (k + 1)) = numF18 (L.take k) + 1 := by
  unfold numF18
  rw [List.take_add_one, List.filter_append, List.getElem?_eq_getElem hk]
  simp [h]
theorem numF18_no {L : List FgD} {k : Nat} (hk : k < L.length) (h : okFx L[k] = false) : numF18 (L.take (k + 1)) = numF18 (L.take k) := by
  unfold numF18
  rw [List.take_add_one, List.filter_append, List.getElem?_eq_getElem hk]
  simp [h]
theorem numF18_all {L : List FgD} : numF18 L = L.length ↔ ∀ x ∈ L, okFx x = true := by
  unfold numF18
  rw [List.length_filter_eq_length_iff]
set_option maxHeartbeats 8000000 in
theorem implOnlyFlight (L : List FgD) (v : Value) (fb : Nat) (w : World) (hr : RdR flightS w v L) (hf : w.cell? ⟨fb, 0, none⟩ = some (.func (.func 73) #[] #[])) (hfl : fb < w.heap.size) (hL : L.length ≤ 100) :
    Calls Tryz.prog 72 #[v, .slice (some ⟨fb, 0, none⟩) 1 1] w fun x w' => ∃ a p, x = .returned (.slice a (numF18 L) p) ∧ numF18 L ≤ p ∧ p ≤ 9223372036854775807 ∧ Below w.heap.size w w' := by
  obtain ⟨ad, cap, rfl, h1, h2⟩ := hr.form
  have HR := hide hr
  have HF : Hid (∀ w' : World, Below w.heap.size w w' → w'.cell? ⟨fb, 0, none⟩ = some (.func (.func 73) #[] #[]) ∧ fb < w'.heap.size) := fun w' hb => ⟨(hb.cell (p := ⟨fb, 0, none⟩) hfl).trans hf, Nat.lt_of_lt_of_le hfl hb.size⟩
  clear hr hf hfl
  obtain ⟨N, hN⟩ : ∃ N, numF18 L = N := ⟨_, rfl⟩
  rw [hN]
  have HN := hide hN
  clear hN
  go_enter Tryz.func72, Tryz.ntmps72
  go_wp2_with fail
  go_step3
  go_wp2_with fail
  go_step3
  go_wp2_with fail
  go_loopg [5, 12] L.length (fun g s i wr => ∃ (k : Nat) (a : Option Addr) (p M : Nat) (xs : List Value), k + g = L.length ∧ i = .int .i64 k ∧ s = .slice a M p ∧ Hid (numF18 (L.take k) = M) ∧ Hid (wr.ownsRow w.heap.size 73 4 (.slice a M p) M xs) ∧ Hid (Below w.heap.size w wr))
  case atStart => exact ⟨0, none, 0, 0, [], by omega, rfl, rfl, rfl, World.ownsRow_nil w w.heap.size 73 4, Below.refl _ _⟩
  case round =>
    obtain ⟨k, a, p, M, xs, hkg, rfl, rfl, HM, HO, HB⟩ := hrel
    cases gk with
    | zero =>
      have hkz : ¬ ((k : Int) < (L.length : Int)) := by omega
      have HMM : Hid (M = N) := by show M = _; rw [← HM.out, ← HN.out, List.take_of_length_le (by omega)]
      clear hkg
      go_wp2_with fail
      try rw [Exit.noGoto_ret]
      go_ret
      have := HMM.out
      subst this
      obtain ⟨_, _, he, q1, q2⟩ := owns_form HO.out
      simp only [Value.slice.injEq] at he
      obtain ⟨rfl, -, rfl⟩ := he
      exact ⟨_, _, rfl, q1, q2, HB.out⟩
    | succ go1 =>
      have hlt : k < L.length := by omega
      obtain ⟨b, o, cs, hab, hbw, hrd, hc⟩ := (HR.out.new HB.out).at k hlt
      have HY0 := hide (numF18_yes (L := L) hlt)
      have HN0 := hide (numF18_no (L := L) hlt)
      obtain ⟨y, hy⟩ : ∃ y, L[k] = y := ⟨_, rfl⟩
      rw [hy] at hrd
      have HY : Hid (okFx y = true → numF18 (L.take (k + 1)) = M + 1) := by rw [← hy, ← HM.out]; exact HY0.out
      have HNO : Hid (okFx y = false → numF18 (L.take (k + 1)) = M) := by rw [← hy, ← HM.out]; exact HN0.out
      have hkl : M ≤ k := by have := numF18_le (L.take k); rw [List.length_take, HM.out] at this; omega
      clear hy HM HY0 HN0
      subst hab
      obtain ⟨rfl, f0, f1⟩ := hrd
      have c0 : wr.cell? ⟨b, o + k * 4, none⟩ = some (.int .i64 y.seat) := hc 0 _ rfl
      have c1 : wr.cell? ⟨b, o + k * 4 + 1, none⟩ = some (.int .i64 y.id) := hc 1 _ rfl
      have c2 : wr.cell? ⟨b, o + k * 4 + 2, none⟩ = some (.string y.nm) := hc 2 _ rfl
      have c3 : wr.cell? ⟨b, o + k * 4 + 3, none⟩ = some (.string y.tx) := hc 3 _ rfl
      clear hc
      go_upto_region 5 with fail
      have hbe : Below wr.heap.size wr (wr.alloc (.cells #[.int .i64 y.seat, .int .i64 y.id, .string y.nm, .string y.tx] 73)) := (Below.refl _ _).alloc (Nat.le_refl _) _
      have HE : Hid (RowIs (wr.alloc (.cells #[.int .i64 y.seat, .int .i64 y.id, .string y.nm, .string y.tx] 73)) wr.heap.size 73 [.int .i64 y.seat, .int .i64 y.id, .string y.nm, .string y.tx]) := rowIs_new wr 73 [.int .i64 y.seat, .int .i64 y.id, .string y.nm, .string y.tx]
      skip
      generalize wr.alloc (.cells #[.int .i64 y.seat, .int .i64 y.id, .string y.nm, .string y.tx] 73) = X at *
      have HOX := hide (owns_new HO.out hbe)
      have HBX := hide (bchain HB.out hbe)
      have HGB : Hid (w.heap.size ≤ wr.heap.size) := HB.out.size
      generalize wr.heap.size = go at *
      clear c0 c1 c2 c3 hbe HO HB
      go_wp2_with fail
      go_loopg [18] 1 (fun g i wi => ∃ (j : Nat), j + g = 1 ∧ i = .int .i64 j ∧ Hid (0 < j → okFx y = true) ∧ Hid (RowIs wi go 73 [.int .i64 y.seat, .int .i64 y.id, .string y.nm, .string y.tx]) ∧ Hid (wi.ownsRow w.heap.size 73 4 (.slice a M p) M xs) ∧ Hid (Below w.heap.size w wi))
      case atStart => exact ⟨0, by omega, rfl, by intro h; exact absurd h (Nat.lt_irrefl _), HE, HOX, HBX⟩
      case round =>
        clear HE HOX HBX
        obtain ⟨j, hjg, rfl, HA, HE, HO, HB⟩ := hrel
        have hlE := HE.out.lt
        have e0 := HE.out.cell (j := 0) rfl
        have e1 := HE.out.cell (j := 1) rfl
        have e2 := HE.out.cell (j := 2) rfl
        have e3 := HE.out.cell (j := 3) rfl
        cases gk with
        | zero =>
          obtain rfl : j = 1 := by omega
          have HM2 := hide (HY.out (HA.out Nat.one_pos))
          clear hjg
          have hX : Below wr.heap.size wr (wr.alloc (.cells #[.int .i64 y.seat, .int .i64 y.id, .string y.nm, .string y.tx] 73)) := (Below.refl _ _).alloc (Nat.le_refl _) _
          have hownX := owns_new HO.out hX
          have hRd : Reads (wr.alloc (.cells #[.int .i64 y.seat, .int .i64 y.id, .string y.nm, .string y.tx] 73)) (.slice (some ⟨wr.heap.size, 0, none⟩) 1 1) 1 4 [.int .i64 y.seat, .int .i64 y.id, .string y.nm, .string y.tx] := reads_of_owns (owns_lit wr 73 4 1 #[.int .i64 y.seat, .int .i64 y.id, .string y.nm, .string y.tx] rfl (by omega))
          have hone : ∀ y9 ∈ ([.int .i64 y.seat, .int .i64 y.id, .string y.nm, .string y.tx] : List Value), y9.oneCell' = true := by intro y9 hy9; simp at hy9; rcases hy9 with rfl | rfl | rfl | rfl <;> rfl
          have HBX := hide (bchain HB.out hX)
          have hbs := HBX.out.size
          go_wp2_with (at_builtin; refine wpList_app _ (by rfl) _ _ 134 (by rfl) 73 (.agg #[.int .i64 0, .int .i64 0, .string ⟨#[]⟩, .string ⟨#[]⟩]) 4 48 Tryz.underlying134 (by kernel_rfl) rfl (by decide) w.heap.size _ M xs (by rfl) hownX _ 1 [.int .i64 y.seat, .int .i64 y.id, .string y.nm, .string y.tx] (by rfl) hRd hone (by omega) (by decide) hbs ?_)
          intro ad7 cap7 w7 hown7 hg7 hat7
          have HB7 : Hid (Below w.heap.size w w7) := by
            have hb := HBX.out
            exact ⟨hg7.os.trans hb.os, hg7.tape.trans hb.tape, hg7.output.trans hb.output, Nat.le_trans hb.size hg7.size, fun k hk => (hg7.block k (by have := hb.size; omega) (fun e => by have := (hownX.lt k e.symm).1; omega)).trans (hb.block k hk)⟩
          have HO7 := hide hown7
          clear hown7 hg7 hat7 hownX hRd hX hbs hone
          go_wp2_with fail
          go_roundg go1
          case measure => omega
          case rel => exact ⟨k + 1, ad7, cap7, M + 1, _, by omega, by go_num, rfl, HM2, HO7, HB7⟩
        | succ gj =>
          obtain rfl : j = 0 := by omega
          obtain ⟨hcx, hfl⟩ := HF.out _ HB.out
          go_wp2_with fail
          refine (implFRight y _ f1).mono ?_; rintro z w5 ⟨rfl, hb5⟩
          replace HE := hide (HE.out.new hb5)
          have HQ : okFx y = decide (y.tx.size ≤ 1000000) := rfl
          replace HO := hide (owns_new HO.out hb5)
          replace HB := hide (bchain HB.out hb5)
          clear hb5 hcx e0 e1 e2 e3
          rw [← HQ]
          clear HQ
          cases hq : okFx y
          · have HM2 := hide (HNO.out hq)
            clear hq
            go_wp2_with fail
            go_roundg go1
            case measure => omega
            case rel => exact ⟨k + 1, a, p, M, xs, by omega, by go_num, rfl, HM2, HO, HB⟩
          · have HA2 : Hid (0 < 1 → okFx y = true) := fun _ => hq
            clear hq
            go_wp2_with fail
            go_roundg gj
            case measure => omega
            case rel => exact ⟨1, by omega, by go_num, HA2, HE, HO, HB⟩
end Go.Proofs.YtkhclhnejnpkeaaGreat
