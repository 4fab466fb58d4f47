/- The program's gate: which is right (by gen_gateimpl.py). -/
import Derived.Test.YtkhclhnejnpkeaaGreatQWtG23
namespace Go.Proofs.YtkhclhnejnpkeaaGreat
open Go.RowKit
set_option maxRecDepth 100000
set_option linter.unusedSimpArgs false
set_option linter.unusedVariables false
set_option maxHeartbeats 16000000 in
theorem implGRight (d : GtD) (vt vs vd vf : Value) (w : World) (hv : GtRd w d vt vs vd vf) :
    Calls Tryz.prog 33 #[gtv d vt vs vd vf] w fun x w' => x = .returned (.bool (okGt d)) ∧ Below w.heap.size w w' := by
  dsimp only [gtv] at *
  have HV := hide hv
  obtain ⟨at_, pt, rfl, _, _⟩ := hv.te.form
  obtain ⟨as_, ps, rfl, _, _⟩ := hv.se.form
  obtain ⟨ad, pd, rfl, _, _⟩ := hv.di.form
  obtain ⟨af, pf, rfl, _, _⟩ := hv.fl.form
  clear hv
  have HRX : Hid (RowIs (w.alloc (.cells #[.int .i64 d.now, .slice at_ d.tens.length pt, .slice as_ d.seats.length ps, .slice ad d.dials.length pd, .slice af d.flights.length pf, .bool d.drained] 35)) w.heap.size 35 [.int .i64 d.now, .slice at_ d.tens.length pt, .slice as_ d.seats.length ps, .slice ad d.dials.length pd, .slice af d.flights.length pf, .bool d.drained]) := rowIs_new w 35 [.int .i64 d.now, .slice at_ d.tens.length pt, .slice as_ d.seats.length ps, .slice ad d.dials.length pd, .slice af d.flights.length pf, .bool d.drained]
  have HB : Hid (Below w.heap.size w (w.alloc (.cells #[.int .i64 d.now, .slice at_ d.tens.length pt, .slice as_ d.seats.length ps, .slice ad d.dials.length pd, .slice af d.flights.length pf, .bool d.drained] 35))) := (Below.refl _ _).alloc (Nat.le_refl _) _
  obtain ⟨A, hA⟩ : ∃ A, okGt d = A := ⟨_, rfl⟩
  rw [hA]
  have HN : Hid (¬ GtOk d → A = false) := fun h => by rw [← hA]; exact gt_false h
  have HY : Hid (GtOk d → A = true) := fun h => by rw [← hA]; exact gt_true.2 h
  clear hA
  go_enter Tryz.func33, Tryz.ntmps33
  go_upto_region 1 with fail
  generalize w.alloc (.cells #[.int .i64 d.now, .slice at_ d.tens.length pt, .slice as_ d.seats.length ps, .slice ad d.dials.length pd, .slice af d.flights.length pf, .bool d.drained] 35) = W1 at *
  have x0 := RowIs.cell (j := 0) HRX.out rfl
  go_wp2_with fail
  refine (implWithin d.now 0 1000000 _).mono ?_; rw [show inB d.now 0 1000000 = timeB d.now from rfl]; rintro e wq ⟨rfl, hsame⟩; obtain rfl := hsame.symm; clear hsame
  clear x0
  cases t0 : timeB d.now
  · have HE : Hid (A = false) := HN.out (fun h => by have := h.now; rw [t0] at this; cases this)
    go_wp2_with fail
    go_ret
    exact ⟨by rw [HE.out] <;> rfl, HB.out⟩
  have x1 := RowIs.cell (j := 1) HRX.out rfl
  go_wp2_with fail
  clear x1
  refine (implTenantsOk d.tens _ _ (HV.out.te.new HB.out)).mono ?_; rintro e w2 ⟨rfl, hb⟩
  replace HRX := hide (HRX.out.new hb)
  replace HB := hide (bchain HB.out hb)
  clear hb
  cases t1 : okTs d.tens
  · have HE : Hid (A = false) := HN.out (fun h => by have := h.tens; rw [t1] at this; cases this)
    go_wp2_with fail
    go_ret
    exact ⟨by rw [HE.out] <;> rfl, HB.out⟩
  have x2 := RowIs.cell (j := 2) HRX.out rfl
  go_wp2_with fail
  clear x2
  refine (implWithin (d.seats.length : Int) 1 4 _).mono ?_; rintro e wq ⟨rfl, hsame⟩; obtain rfl := hsame.symm; clear hsame
  cases t2 : inB (d.seats.length : Int) 1 4
  · have HE : Hid (A = false) := HN.out (fun h => by have := h.n1; have := h.n4; have := inB_of (x := (d.seats.length : Int)) (lo := 1) (hi := 4) (by omega) (by omega); rw [t2] at this; cases this)
    go_wp2_with fail
    go_ret
    exact ⟨by rw [HE.out] <;> rfl, HB.out⟩
  have hn := inB_true t2
  have h1 : 1 ≤ d.seats.length := by omega
  have h4 : d.seats.length ≤ 4 := by omega
  have x3 := RowIs.cell (j := 3) HRX.out rfl
  have x4 := RowIs.cell (j := 4) HRX.out rfl
  by_cases nd : 100 < (d.dials.length : Int)
  · have HE : Hid (A = false) := HN.out (fun h => by have := h.nd; omega)
    go_wp2_with fail
    go_ret
    exact ⟨by rw [HE.out] <;> rfl, HB.out⟩
  by_cases nf : 100 < (d.flights.length : Int)
  · have HE : Hid (A = false) := HN.out (fun h => by have := h.nf; omega)
    go_wp2_with fail
    go_ret
    exact ⟨by rw [HE.out] <;> rfl, HB.out⟩
  have hnd : d.dials.length ≤ 100 := by omega
  have hnf : d.flights.length ≤ 100 := by omega
  have HT0 := hide t0; have HT1 := hide t1
  go_upto_region 5 with fail
  clear x3 x4 t0 t1 t2 hn nd nf
  have x2 := RowIs.cell (j := 2) HRX.out rfl
  have x4 := RowIs.cell (j := 4) HRX.out rfl
  have xl := HRX.out.lt
  have q2 : ∀ y : Later w2, y.w.cell? ⟨w.heap.size, 2, none⟩ = some (.slice as_ d.seats.length ps) := fun y => (y.b.cell (p := ⟨w.heap.size, 2, none⟩) xl).trans x2
  have q4 : ∀ y : Later w2, y.w.cell? ⟨w.heap.size, 4, none⟩ = some (.slice af d.flights.length pf) := fun y => (y.b.cell (p := ⟨w.heap.size, 4, none⟩) xl).trans x4
  clear x2 x4 xl
  have hne : Nonempty (Later w2) := ⟨⟨w2, Below.refl _ _⟩⟩; refine region_later (by kernel_rfl) (by kernel_rfl) ?_
  repeat (go_big_quiet_step (fail))
  refine wpQuiet_nil ?_; intro _ hw'; obtain ⟨y, hw''⟩ := hw'; subst hw''; have hby := y.b
  clear q2 q4 hne
  replace HRX := hide (HRX.out.new hby)
  replace HB := hide (bchain HB.out hby)
  clear hby
  generalize y.w = W5 at *
  have hbF : Below W5.heap.size W5 (W5.alloc (.cells #[.func (.func 71) #[] #[]] 136)) := (Below.refl _ _).alloc (Nat.le_refl _) _
  have hO := implOnlySeat d.seats (.slice as_ d.seats.length ps) W5.heap.size _ (HV.out.se.new (bchain HB.out hbF)) ((rowIs_new W5 136 [.func (.func 71) #[] #[]]).cell (j := 0) rfl) (by simp) h4
  have hsl := numS18_le d.seats
  obtain ⟨N, hN⟩ : ∃ N, numS18 d.seats = N := ⟨_, rfl⟩
  have HNS := hide hN
  rw [hN] at hO hsl
  clear hN
  replace HRX := hide (HRX.out.new hbF)
  replace HB := hide (bchain HB.out hbF)
  clear hbF
  go_wp2_with fail
  refine hO.mono ?_; rintro e w6 ⟨a1, p1, rfl, q1, q2, hb⟩
  replace HRX := hide (HRX.out.new hb)
  replace HB := hide (bchain HB.out hb)
  clear hb
  clear hO
  by_cases hq : N = d.seats.length
  rotate_left
  · have HE : Hid (A = false) := HN.out (fun h => hq (by rw [← HNS.out]; exact numS18_all.2 ((gt_way d).1 h).2.2.2.2.2.2.1))
    have hqB : ((N : Int) != (d.seats.length : Int)) = true := by simp; omega
    have hNb : N ≤ 4 := by omega
    go_wp2_with fail
    go_ret
    exact ⟨by rw [HE.out] <;> rfl, HB.out⟩
  have HS : Hid (∀ s ∈ d.seats, okSt s = true) := numS18_all.1 (by rw [HNS.out]; exact hq)
  have hqB : ((N : Int) != (d.seats.length : Int)) = false := by simp; omega
  have hNb : N ≤ 4 := by omega
  clear hq HNS
  have hbF : Below w6.heap.size w6 (w6.alloc (.cells #[.func (.func 73) #[] #[]] 138)) := (Below.refl _ _).alloc (Nat.le_refl _) _
  have hO := implOnlyFlight d.flights (.slice af d.flights.length pf) w6.heap.size _ (HV.out.fl.new (bchain HB.out hbF)) ((rowIs_new w6 138 [.func (.func 73) #[] #[]]).cell (j := 0) rfl) (by simp) hnf
  have hfl := numF18_le d.flights
  obtain ⟨M, hM⟩ : ∃ M, numF18 d.flights = M := ⟨_, rfl⟩
  have HNF := hide hM
  rw [hM] at hO hfl
  clear hM
  replace HRX := hide (HRX.out.new hbF)
  replace HB := hide (bchain HB.out hbF)
  clear hbF
  go_wp2_with fail
  refine hO.mono ?_; rintro e w7 ⟨a2, p2, rfl, q3, q4, hb⟩
  replace HRX := hide (HRX.out.new hb)
  replace HB := hide (bchain HB.out hb)
  clear hb
  clear hO hqB
  have hMb : M ≤ 100 := by omega
  by_cases hq : M = d.flights.length
  rotate_left
  · have HE : Hid (A = false) := HN.out (fun h => hq (by rw [← HNF.out]; exact numF18_all.2 (fun f hf => decide_eq_true (((gt_way d).1 h).2.2.2.2.2.2.2.1 f hf))))
    have hqB : ((M : Int) != (d.flights.length : Int)) = true := by simp; omega
    clear hq
    go_wp2_with fail
    go_ret
    exact ⟨by rw [HE.out] <;> rfl, HB.out⟩
  have HF : Hid (∀ f ∈ d.flights, f.tx.size ≤ 1000000) := fun f hf => of_decide_eq_true (numF18_all.1 (by rw [HNF.out]; exact hq) f hf)
  have hqB : ((M : Int) != (d.flights.length : Int)) = false := by simp; omega
  clear hq HNF
  have x0 := RowIs.cell (j := 0) HRX.out rfl
  have x1 := RowIs.cell (j := 1) HRX.out rfl
  have x2 := RowIs.cell (j := 2) HRX.out rfl
  have x3 := RowIs.cell (j := 3) HRX.out rfl
  have x4 := RowIs.cell (j := 4) HRX.out rfl
  have x5 := RowIs.cell (j := 5) HRX.out rfl
  go_wp2_with fail
  clear x0 x1 x2 x3 x4 x5
  refine (implCallsRight d _ _ _ _ _ ⟨HV.out.te.new HB.out, HV.out.se.new HB.out, HV.out.di.new HB.out, HV.out.fl.new HB.out⟩ HT1.out h4 hnd hnf).mono ?_; rintro e w8 ⟨rfl, hb⟩
  replace HRX := hide (HRX.out.new hb)
  replace HB := hide (bchain HB.out hb)
  clear hb
  have HE : Hid (A = crB d) := by
    show A = _
    cases hc : crB d
    · refine HN.out (fun h => ?_)
      have hw := ((gt_way d).1 h).2.2.2.2.2.2.2.2
      have := (crB_iff d).2 ⟨hw.1, hw.2⟩
      rw [hc] at this
      cases this
    · have hw := (crB_iff d).1 hc
      exact HY.out ((gt_way d).2 ⟨HT0.out, HT1.out, h1, h4, hnd, hnf, HS.out, HF.out, hw.1, hw.2⟩)
  go_wp2_with fail
  go_ret
  exact ⟨by rw [HE.out] <;> rfl, HB.out⟩
end Go.Proofs.YtkhclhnejnpkeaaGreat
