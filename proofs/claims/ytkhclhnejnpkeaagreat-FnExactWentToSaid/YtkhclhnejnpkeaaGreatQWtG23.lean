/- Several small texts of one level, one behind the other. -/
import Derived.Test.YtkhclhnejnpkeaaGreatQWtG22
import Derived.Test.YtkhclhnejnpkeaaGreatQWtG11
/- The model's gate: what went out of a flight (by gen_gatespec.py). -/
namespace Go.Proofs.YtkhclhnejnpkeaaGreat
open Go.RowKit
set_option maxRecDepth 100000
set_option linter.unusedSimpArgs false
set_option linter.unusedVariables false
set_option maxHeartbeats 8000000 in
theorem specFlight (d : GtD) (s i : Int) (vt vs vd vf : Value) (w : World) (hv : GtRd w d vt vs vd vf) (hL : d.flights.length ≤ 1048576) :
    Calls Tryz.prog 55 #[gtv d vt vs vd vf, .int .i64 s, .int .i64 i] w fun x w' => x = .returned (.int .i64 (atGI d.flights s i)) ∧ Below w.heap.size w w' := by
  dsimp only [gtv] at *
  have HV := hide hv
  obtain ⟨at_, pt, rfl, _, _⟩ := hv.te.form
  obtain ⟨as_, ps, rfl, _, _⟩ := hv.se.form
  obtain ⟨ad, pd, rfl, _, _⟩ := hv.di.form
  obtain ⟨af, pf, rfl, _, _⟩ := hv.fl.form
  clear hv
  have HRX : Hid (RowIs (w.alloc (.cells #[.int .i64 d.now, .slice at_ d.tens.length pt, .slice as_ d.seats.length ps, .slice ad d.dials.length pd, .slice af d.flights.length pf, .bool d.drained] 35)) w.heap.size 35 [.int .i64 d.now, .slice at_ d.tens.length pt, .slice as_ d.seats.length ps, .slice ad d.dials.length pd, .slice af d.flights.length pf, .bool d.drained]) := rowIs_new w 35 [.int .i64 d.now, .slice at_ d.tens.length pt, .slice as_ d.seats.length ps, .slice ad d.dials.length pd, .slice af d.flights.length pf, .bool d.drained]
  have HB : Hid (Below w.heap.size w (w.alloc (.cells #[.int .i64 d.now, .slice at_ d.tens.length pt, .slice as_ d.seats.length ps, .slice ad d.dials.length pd, .slice af d.flights.length pf, .bool d.drained] 35))) := (Below.refl _ _).alloc (Nat.le_refl _) _
  obtain ⟨A, hA⟩ : ∃ A, atGI d.flights s i = A := ⟨_, rfl⟩
  rw [hA]
  have HA := hide hA
  clear hA
  go_enter Tryz.func55, Tryz.ntmps55
  go_upto_region 1 with fail
  generalize w.alloc (.cells #[.int .i64 d.now, .slice at_ d.tens.length pt, .slice as_ d.seats.length ps, .slice ad d.dials.length pd, .slice af d.flights.length pf, .bool d.drained] 35) = W1 at *
  go_wp2_with fail
  go_loopw [7] (fun j wr => ∃ k : Nat, j = .int .i64 k ∧ k ≤ d.flights.length ∧ Hid (∀ j, j < k → brF (fg d.flights j) ≠ (s, i)) ∧ Hid (RowIs wr w.heap.size 35 [.int .i64 d.now, .slice at_ d.tens.length pt, .slice as_ d.seats.length ps, .slice ad d.dials.length pd, .slice af d.flights.length pf, .bool d.drained]) ∧ Hid (Below w.heap.size w wr)) (fun j _ => d.flights.length - (intOf j).toNat)
  case atStart => exact ⟨0, rfl, Nat.zero_le _, fun j hj => absurd hj (Nat.not_lt_zero _), HRX, HB⟩
  case round =>
    clear HRX HB
    obtain ⟨k, rfl, hk, HN, HRX, HB⟩ := hrel
    have x4 := RowIs.cell (j := 4) HRX.out rfl
    by_cases hlt : k < d.flights.length
    · have hltI : (k : Int) < d.flights.length := by omega
      have HLT := hide hlt
      obtain ⟨b, o, cs, hab, hbw, hrd, hc⟩ := (HV.out.fl.new HB.out).at k hlt
      obtain ⟨v9, hy⟩ : ∃ v, fg d.flights k = v := ⟨_, rfl⟩
      rw [← fg_get hlt, hy] at hrd
      subst hab
      obtain ⟨rfl, f0, f1⟩ := hrd
      have HE := hide hy
      have c0 : wr.cell? ⟨b, o + k * 4, none⟩ = some (.int .i64 v9.seat) := hc 0 _ rfl
      have c1 : wr.cell? ⟨b, o + k * 4 + 1, none⟩ = some (.int .i64 v9.id) := hc 1 _ rfl
      clear hc hy
      go_upto_region 4 with fail
      have xl := HRX.out.lt
      have qa0 : ∀ y : Later wr, y.w.cell? ⟨b, o + k * 4, none⟩ = some (.int .i64 v9.seat) := fun y => (y.b.cell (p := ⟨b, o + k * 4, none⟩) hbw).trans c0
      have qa1 : ∀ y : Later wr, y.w.cell? ⟨b, o + k * 4 + 1, none⟩ = some (.int .i64 v9.id) := fun y => (y.b.cell (p := ⟨b, o + k * 4 + 1, none⟩) hbw).trans c1
      have qx : ∀ y : Later wr, y.w.cell? ⟨w.heap.size, 4, none⟩ = some (.slice (some ⟨b, o, none⟩) d.flights.length pf) := fun y => (y.b.cell (p := ⟨w.heap.size, 4, none⟩) xl).trans x4
      clear c0 c1 x4 xl
      obtain ⟨c9, hc9⟩ : ∃ c, decide (v9.seat = s ∧ v9.id = i) = c := ⟨_, rfl⟩
      have hsm := fun w => specSame v9.seat v9.id s i w
      simp only [hc9] at hsm
      have HC9 := hide hc9
      clear hc9
      have hne : Nonempty (Later wr) := ⟨⟨wr, Below.refl _ _⟩⟩; refine region_later (by kernel_rfl) (by kernel_rfl) ?_
      iterate 14 (go_big_quiet_step (fail))
      go_big_quiet_want; go_big_quiet_op
      refine ⟨.bool c9, fun y9 => later_same (x := y9) (hsm y9.w), ?_⟩
      go_big_quiet_on
      refine wpQuiet_nil ?_; intro _ hw'; obtain ⟨y, hw''⟩ := hw'; subst hw''; have hby := y.b
      clear qa0 qa1 qx hne hsm
      replace HRX := hide (HRX.out.new hby)
      replace HB := hide (bchain HB.out hby)
      clear hby
      generalize y.w = W5 at *
      cases c9
      · have hs := of_decide_eq_false HC9.out
        have HN2 : Hid (∀ j, j < k + 1 → brF (fg d.flights j) ≠ (s, i)) := fun j hj => by
          by_cases e : j = k
          · subst e
            rw [HE.out]
            intro e2
            unfold brF at e2
            exact hs ⟨congrArg Prod.fst e2, congrArg Prod.snd e2⟩
          · exact HN.out j (by omega)
        clear hs
        go_wp2_with fail
        go_roundw
        case rel => exact ⟨k + 1, by go_num, by omega, HN2, HRX, HB⟩
        case measure => simp [intOf]; omega
      · have hs := of_decide_eq_true HC9.out
        have HF : Hid (A = k) := by show A = k; rw [← HA.out]; unfold atGI; rw [atGI_some HLT.out (by rw [HE.out]; unfold brF; rw [hs.1, hs.2]) HN.out]
        clear hs
        go_wp2_with fail
        go_ret
        exact ⟨by rw [HF.out]; rfl, HB.out⟩
    · have hltI : ¬ (k : Int) < d.flights.length := by omega
      have HF : Hid (A = -1) := by
        show A = -1
        rw [← HA.out]
        unfold atGI
        rw [atGI_none (fun j hj => HN.out j (by omega))]
      go_wp2_with fail
      go_ret
      exact ⟨by rw [HF.out]; rfl, HB.out⟩
set_option maxHeartbeats 8000000 in
theorem specWentTo (d : GtD) (s i : Int) (vt vs vd vf : Value) (w : World) (hv : GtRd w d vt vs vd vf) (hz : szTenantS d.tens ≤ 1048576) (hL : d.flights.length ≤ 1048576) :
    Calls Tryz.prog 19 #[gtv d vt vs vd vf, .int .i64 s, .int .i64 i] w fun x w' => x = .returned (.tuple #[.string (wentV d s i).1, .bool (wentV d s i).2]) ∧ Below w.heap.size w w' := by
  dsimp only [gtv] at *
  have HV := hide hv
  obtain ⟨at_, pt, rfl, _, _⟩ := hv.te.form
  obtain ⟨as_, ps, rfl, _, _⟩ := hv.se.form
  obtain ⟨ad, pd, rfl, _, _⟩ := hv.di.form
  obtain ⟨af, pf, rfl, _, _⟩ := hv.fl.form
  clear hv
  have HRX : Hid (RowIs (w.alloc (.cells #[.int .i64 d.now, .slice at_ d.tens.length pt, .slice as_ d.seats.length ps, .slice ad d.dials.length pd, .slice af d.flights.length pf, .bool d.drained] 35)) w.heap.size 35 [.int .i64 d.now, .slice at_ d.tens.length pt, .slice as_ d.seats.length ps, .slice ad d.dials.length pd, .slice af d.flights.length pf, .bool d.drained]) := rowIs_new w 35 [.int .i64 d.now, .slice at_ d.tens.length pt, .slice as_ d.seats.length ps, .slice ad d.dials.length pd, .slice af d.flights.length pf, .bool d.drained]
  have HB : Hid (Below w.heap.size w (w.alloc (.cells #[.int .i64 d.now, .slice at_ d.tens.length pt, .slice as_ d.seats.length ps, .slice ad d.dials.length pd, .slice af d.flights.length pf, .bool d.drained] 35))) := (Below.refl _ _).alloc (Nat.le_refl _) _
  obtain ⟨A, hA⟩ : ∃ A, wentV d s i = A := ⟨_, rfl⟩
  rw [hA]
  have HA := hide hA
  clear hA
  go_enter Tryz.func19, Tryz.ntmps19
  go_upto_region 1 with fail
  generalize w.alloc (.cells #[.int .i64 d.now, .slice at_ d.tens.length pt, .slice as_ d.seats.length ps, .slice ad d.dials.length pd, .slice af d.flights.length pf, .bool d.drained] 35) = W1 at *
  have x0 := RowIs.cell (j := 0) HRX.out rfl
  have x1 := RowIs.cell (j := 1) HRX.out rfl
  have x2 := RowIs.cell (j := 2) HRX.out rfl
  have x3 := RowIs.cell (j := 3) HRX.out rfl
  have x4 := RowIs.cell (j := 4) HRX.out rfl
  have x5 := RowIs.cell (j := 5) HRX.out rfl
  go_wp2_with fail
  clear x0 x1 x2 x3 x4 x5
  refine (specFlight d s i _ _ _ _ _ ⟨HV.out.te.new HB.out, HV.out.se.new HB.out, HV.out.di.new HB.out, HV.out.fl.new HB.out⟩ hL).mono ?_; rintro e w2 ⟨rfl, hb⟩
  replace HRX := hide (HRX.out.new hb)
  replace HB := hide (bchain HB.out hb)
  clear hb
  have x0 := RowIs.cell (j := 0) HRX.out rfl
  have x1 := RowIs.cell (j := 1) HRX.out rfl
  have x2 := RowIs.cell (j := 2) HRX.out rfl
  have x3 := RowIs.cell (j := 3) HRX.out rfl
  have x4 := RowIs.cell (j := 4) HRX.out rfl
  have x5 := RowIs.cell (j := 5) HRX.out rfl
  have HLT : Hid (∀ k, atG d.flights s i = some k → k < d.flights.length) := fun k h => atG_lt h
  obtain ⟨G, hG⟩ : ∃ G, atGI d.flights s i = G := ⟨_, rfl⟩
  rw [hG]
  have HG := hide hG
  clear hG
  go_wp2_with fail
  clear x0 x1 x2 x3 x4 x5
  refine (specGateOk d _ _ _ _ _ ⟨HV.out.te.new HB.out, HV.out.se.new HB.out, HV.out.di.new HB.out, HV.out.fl.new HB.out⟩ hz).mono ?_; rintro e w3 ⟨rfl, hb⟩
  replace HRX := hide (HRX.out.new hb)
  replace HB := hide (bchain HB.out hb)
  clear hb
  cases h0 : okGt d
  · have HE : Hid (A = (⟨#[]⟩, false)) := by show A = _; rw [← HA.out]; unfold wentV; rw [h0]; rfl
    clear h0
    go_wp2_with fail
    refine bodyPost_ret (v := .tuple #[.string ⟨#[]⟩, .bool false]) (by simp [results, Tryz.results19, go_sem, *]) rfl ?_
    exact ⟨by rw [HE.out], HB.out⟩
  cases ha : atG d.flights s i with
  | none =>
    have HE : Hid (A = (⟨#[]⟩, false)) := by show A = _; rw [← HA.out]; unfold wentV; rw [h0, ha]; rfl
    have hg : G = -1 := by rw [← HG.out]; unfold atGI; rw [ha]
    subst hg
    clear h0 ha
    go_wp2_with fail
    refine bodyPost_ret (v := .tuple #[.string ⟨#[]⟩, .bool false]) (by simp [results, Tryz.results19, go_sem, *]) rfl ?_
    exact ⟨by rw [HE.out], HB.out⟩
  | some k =>
    have hlt := HLT.out k ha
    have hg : G = k := by rw [← HG.out]; unfold atGI; rw [ha]
    subst hg
    have HE : Hid (A = ((fg d.flights k).tx, true)) := by show A = _; rw [← HA.out]; unfold wentV; rw [h0, ha]; rfl
    have hltI : (k : Int) < d.flights.length := by omega
    have hkI : ¬ (k : Int) < 0 := by omega
    obtain ⟨b, o, cs, hab, hbw, hrd, hc⟩ := (HV.out.fl.new HB.out).at k hlt
    obtain ⟨v9, hy⟩ : ∃ v, fg d.flights k = v := ⟨_, rfl⟩
    rw [← fg_get hlt, hy] at hrd
    rw [hy] at HE
    subst hab
    obtain ⟨rfl, f0, f1⟩ := hrd
    have c3 : w3.cell? ⟨b, o + k * 4 + 3, none⟩ = some (.string v9.tx) := hc 3 _ rfl
    have x4 := RowIs.cell (j := 4) HRX.out rfl
    clear hc hy h0 ha
    go_wp2_with fail
    refine bodyPost_ret (v := .tuple #[.string v9.tx, .bool true]) (by simp [results, Tryz.results19, go_sem, *]) rfl ?_
    exact ⟨by rw [HE.out], HB.out⟩
end Go.Proofs.YtkhclhnejnpkeaaGreat
/- The program's gate: whether its calls are right (by gen_gateimpl.py). -/
namespace Go.Proofs.YtkhclhnejnpkeaaGreat
open Go.RowKit
set_option maxRecDepth 100000
set_option linter.unusedSimpArgs false
set_option linter.unusedVariables false
theorem implHasSeat (d : GtD) (s : Int) (vt vs vd vf : Value) (w : World) (hv : GtRd w d vt vs vd vf) (h4 : d.seats.length ≤ 4) :
    Calls Tryz.prog 106 #[gtv d vt vs vd vf, .int .i64 s] w fun x w' => x = .returned (.bool (inB s 0 ((d.seats.length : Int) - 1))) ∧ Below w.heap.size w w' := by
  dsimp only [gtv] at *
  have HV := hide hv
  obtain ⟨at_, pt, rfl, _, _⟩ := hv.te.form
  obtain ⟨as_, ps, rfl, _, _⟩ := hv.se.form
  obtain ⟨ad, pd, rfl, _, _⟩ := hv.di.form
  obtain ⟨af, pf, rfl, _, _⟩ := hv.fl.form
  clear hv
  have HRX : Hid (RowIs (w.alloc (.cells #[.int .i64 d.now, .slice at_ d.tens.length pt, .slice as_ d.seats.length ps, .slice ad d.dials.length pd, .slice af d.flights.length pf, .bool d.drained] 35)) w.heap.size 35 [.int .i64 d.now, .slice at_ d.tens.length pt, .slice as_ d.seats.length ps, .slice ad d.dials.length pd, .slice af d.flights.length pf, .bool d.drained]) := rowIs_new w 35 [.int .i64 d.now, .slice at_ d.tens.length pt, .slice as_ d.seats.length ps, .slice ad d.dials.length pd, .slice af d.flights.length pf, .bool d.drained]
  have HB : Hid (Below w.heap.size w (w.alloc (.cells #[.int .i64 d.now, .slice at_ d.tens.length pt, .slice as_ d.seats.length ps, .slice ad d.dials.length pd, .slice af d.flights.length pf, .bool d.drained] 35))) := (Below.refl _ _).alloc (Nat.le_refl _) _
  go_enter Tryz.func106, Tryz.ntmps106
  go_upto_region 1 with fail
  generalize w.alloc (.cells #[.int .i64 d.now, .slice at_ d.tens.length pt, .slice as_ d.seats.length ps, .slice ad d.dials.length pd, .slice af d.flights.length pf, .bool d.drained] 35) = W1 at *
  have x2 := RowIs.cell (j := 2) HRX.out rfl
  go_wp2_with fail
  refine (implWithin s 0 ((d.seats.length : Int) - 1) _).mono ?_; rintro e wq ⟨rfl, hsame⟩; obtain rfl := hsame.symm; clear hsame
  go_wp2_with fail
  go_ret
  exact ⟨rfl, HB.out⟩
theorem clv_get (C : List DlD) (k : Nat) (h : k < C.length) : (clv C)[k * 3]? = some (.int .i64 C[k].seat) ∧ (clv C)[k * 3 + 1]? = some (.int .i64 C[k].id) ∧ (clv C)[k * 3 + 2]? = some (.string C[k].nm) := by
  have f := fun r hr => flat_at (fun y : DlD => [.int .i64 y.seat, .int .i64 y.id, .string y.nm]) 3 C (fun _ _ => rfl) k h r hr
  exact ⟨f 0 (by omega), f 1 (by omega), f 2 (by omega)⟩
/-- All calls are of a seat and of a tenant, no two of one stream. -/
def crB (d : GtD) : Bool := (callsG d).all (fun c => okCall d.seats.length d.tens c.seat c.id c.nm) && decide (((callsG d).map brD).Nodup)
theorem crB_iff (d : GtD) : crB d = true ↔ (∀ c ∈ callsG d, okCall d.seats.length d.tens c.seat c.id c.nm = true) ∧ ((callsG d).map brD).Nodup := by
  unfold crB
  simp only [Bool.and_eq_true, List.all_eq_true, decide_eq_true_eq]
theorem crB_no (d : GtD) (h : ¬ ((∀ c ∈ callsG d, okCall d.seats.length d.tens c.seat c.id c.nm = true) ∧ ((callsG d).map brD).Nodup)) : crB d = false := by
  cases e : crB d
  · rfl
  · exact absurd ((crB_iff d).1 e) h
set_option maxHeartbeats 16000000 in
theorem implCallsRight (d : GtD) (vt vs vd vf : Value) (w : World) (hv : GtRd w d vt vs vd vf) (hts : okTs d.tens = true) (h4 : d.seats.length ≤ 4) (hnd : d.dials.length ≤ 100) (hnf : d.flights.length ≤ 100) :
    Calls Tryz.prog 74 #[gtv d vt vs vd vf] w fun x w' => x = .returned (.bool (crB d)) ∧ Below w.heap.size w w' := by
  dsimp only [gtv] at *
  have HV := hide hv
  obtain ⟨at_, pt, rfl, _, _⟩ := hv.te.form
  obtain ⟨as_, ps, rfl, _, _⟩ := hv.se.form
  obtain ⟨ad, pd, rfl, _, _⟩ := hv.di.form
  obtain ⟨af, pf, rfl, _, _⟩ := hv.fl.form
  clear hv
  have HRX : Hid (RowIs (w.alloc (.cells #[.int .i64 d.now, .slice at_ d.tens.length pt, .slice as_ d.seats.length ps, .slice ad d.dials.length pd, .slice af d.flights.length pf, .bool d.drained] 35)) w.heap.size 35 [.int .i64 d.now, .slice at_ d.tens.length pt, .slice as_ d.seats.length ps, .slice ad d.dials.length pd, .slice af d.flights.length pf, .bool d.drained]) := rowIs_new w 35 [.int .i64 d.now, .slice at_ d.tens.length pt, .slice as_ d.seats.length ps, .slice ad d.dials.length pd, .slice af d.flights.length pf, .bool d.drained]
  have HB : Hid (Below w.heap.size w (w.alloc (.cells #[.int .i64 d.now, .slice at_ d.tens.length pt, .slice as_ d.seats.length ps, .slice ad d.dials.length pd, .slice af d.flights.length pf, .bool d.drained] 35))) := (Below.refl _ _).alloc (Nat.le_refl _) _
  obtain ⟨A, hA⟩ : ∃ A, crB d = A := ⟨_, rfl⟩
  rw [hA]
  have HN : Hid (¬ ((∀ c ∈ callsG d, okCall d.seats.length d.tens c.seat c.id c.nm = true) ∧ ((callsG d).map brD).Nodup) → A = false) := fun h => by rw [← hA]; exact crB_no d h
  have HY : Hid ((∀ c ∈ callsG d, okCall d.seats.length d.tens c.seat c.id c.nm = true) ∧ ((callsG d).map brD).Nodup → A = true) := fun h => by rw [← hA]; exact (crB_iff d).2 h
  clear hA
  obtain ⟨C, hC⟩ : ∃ C, callsG d = C := ⟨_, rfl⟩
  have hcl : C.length = d.dials.length + d.flights.length := by rw [← hC]; exact calls_len d
  have HCC := hide hC
  rw [hC] at HN HY
  have hc200 : C.length ≤ 200 := by omega
  have HCL : Hid ((C.length : Int) = (d.dials.length : Int) + d.flights.length) := (by omega : (C.length : Int) = (d.dials.length : Int) + d.flights.length)
  have HTS := hide hts
  have hmm := fun w => run_makeMap (P := Tryz.prog) 168 w
  clear hC hcl hts
  go_enter Tryz.func74, Tryz.ntmps74
  go_upto_region 1 with fail
  generalize w.alloc (.cells #[.int .i64 d.now, .slice at_ d.tens.length pt, .slice as_ d.seats.length ps, .slice ad d.dials.length pd, .slice af d.flights.length pf, .bool d.drained] 35) = W1 at *
  have x1 := RowIs.cell (j := 1) HRX.out rfl
  go_wp2_with fail
  clear x1
  refine (implPlacesBy d.tens _ _ (HV.out.te.new HB.out) HTS.out).mono ?_; rintro e w2 ⟨gn, rfl, hms, hb⟩
  replace HRX := hide (HRX.out.new hb)
  replace HB := hide (bchain HB.out hb)
  clear hb
  have hX : Below w2.heap.size w2 (w2.alloc (.map #[] 0)) := (Below.refl _ _).alloc (Nat.le_refl _) _
  have HM : Hid (MapSet (w2.alloc (.map #[] 0)) w2.heap.size (setB (([] : List DlD).map brD))) := bt_made w2
  have HMS := hide (hms.new hX)
  have hgg : gn ≠ w2.heap.size := by have := hms.lt; omega
  have hgx : w.heap.size ≠ w2.heap.size := by have := HRX.out.lt; omega
  have hgw : w.heap.size ≤ w2.heap.size := HB.out.size
  replace HRX := hide (HRX.out.new hX)
  replace HB := hide (bchain HB.out hX)
  go_upto_region 2 with fail
  clear hX hms
  have hgb : Hid (w2.heap.size < (w2.alloc (.map #[] 0)).heap.size) := by show _ < _; simp
  generalize w2.heap.size = gm at *
  generalize w2.alloc (.map #[] 0) = W3 at *
  have x0 := RowIs.cell (j := 0) HRX.out rfl
  have x1 := RowIs.cell (j := 1) HRX.out rfl
  have x2 := RowIs.cell (j := 2) HRX.out rfl
  have x3 := RowIs.cell (j := 3) HRX.out rfl
  have x4 := RowIs.cell (j := 4) HRX.out rfl
  have x5 := RowIs.cell (j := 5) HRX.out rfl
  go_wp2_with fail
  clear x0 x1 x2 x3 x4 x5
  refine (implCalls d _ _ _ _ _ ⟨HV.out.te.new HB.out, HV.out.se.new HB.out, HV.out.di.new HB.out, HV.out.fl.new HB.out⟩ hnd hnf).mono ?_; rintro e w4 ⟨vc, rfl, ho, hb⟩
  rw [HCC.out] at ho
  obtain ⟨ac, pc, rfl, qc1, qc2⟩ := owns_form ho
  have HO := hide (owns_base (base' := gm + 1) ho (fun q hq => by have := (owns_lt ho q hq).1; have := hgb.out; omega))
  replace HMS := hide (HMS.out.new hb)
  replace HM := hide (HM.out.new hb)
  replace HRX := hide (HRX.out.new hb)
  replace HB := hide (bchain HB.out hb)
  clear hb
  clear ho hgb
  go_wp2_with fail
  go_loopw [16] (fun i wr => ∃ k : Nat, i = .int .i64 k ∧ k ≤ C.length ∧ Hid (∀ c ∈ C.take k, okCall d.seats.length d.tens c.seat c.id c.nm = true) ∧ Hid (MapSet wr gm (setB ((C.take k).map brD))) ∧ Hid (MapStr wr gn (fun name => if 0 ≤ atV d.tens name then some (atV d.tens name) else none)) ∧ Hid (wr.ownsRow (gm + 1) 155 3 (.slice ac C.length pc) C.length (clv C)) ∧ Hid (RowIs wr w.heap.size 35 [.int .i64 d.now, .slice at_ d.tens.length pt, .slice as_ d.seats.length ps, .slice ad d.dials.length pd, .slice af d.flights.length pf, .bool d.drained]) ∧ Hid (Below w.heap.size w wr)) (fun i _ => C.length - (intOf i).toNat)
  case atStart => exact ⟨0, rfl, Nat.zero_le _, fun c hc => (by simp at hc), HM, HMS, HO, HRX, HB⟩
  case round =>
    clear HM HMS HO HRX HB
    obtain ⟨k, rfl, hk, HS, HM, HMS, HO, HRX, HB⟩ := hrel
    by_cases hlt : k < C.length
    rotate_left
    · obtain rfl : k = C.length := by omega
      have hltI : ¬ (C.length : Int) < C.length := by omega
      have HS2 := HS.out
      have HM2 := HM.out
      rw [List.take_length] at HS2 HM2
      obtain ⟨K, hK⟩ : ∃ K, setB (C.map brD) = K := ⟨_, rfl⟩
      have hlen := len_setB (C.map brD)
      rw [List.length_map, hK] at hlen
      rw [hK] at HM2
      have hq := fun ty => bt_len HM2 ty
      have HS3 := hide HS2
      have HLN := hide hlen
      have hkl : K.length ≤ 200 := by omega
      clear HM2 HS2 HM HS HMS HO hK hlen hlt hk
      have x3 := RowIs.cell (j := 3) HRX.out rfl
      have x4 := RowIs.cell (j := 4) HRX.out rfl
      by_cases hd : K.length = C.length
      · have HE : Hid (A = true) := HY.out ⟨HS3.out, HLN.out.2.1 hd⟩
        have he : ((K.length : Int) == (d.dials.length : Int) + d.flights.length) = true := by have := HCL.out; simp; omega
        clear hd
        go_wp2_with fail
        go_ret
        exact ⟨by rw [HE.out] <;> rfl, HB.out⟩
      · have HE : Hid (A = false) := HN.out (fun h => hd (HLN.out.2.2 h.2))
        have he : ((K.length : Int) == (d.dials.length : Int) + d.flights.length) = false := by have := HCL.out; simp; omega
        clear hd
        go_wp2_with fail
        go_ret
        exact ⟨by rw [HE.out] <;> rfl, HB.out⟩
    have hltI : (k : Int) < C.length := by omega
    obtain ⟨gc, cap2, hvc, hob, hlo, hgcl, _, _, _⟩ := owns_open HO.out (by omega)
    simp only [Value.slice.injEq, true_and] at hvc
    obtain ⟨rfl, rfl⟩ := hvc
    obtain ⟨s0, s1, s2⟩ := clv_get C k hlt
    have hfl : (clv C).length = C.length * 3 := clv_len C
    have c0 : wr.cell? ⟨gc, k * 3, none⟩ = some (.int .i64 C[k].seat) := by rw [HO.out.cellAt _ (by omega)]; exact s0
    have c1 : wr.cell? ⟨gc, k * 3 + 1, none⟩ = some (.int .i64 C[k].id) := by rw [HO.out.cellAt _ (by omega)]; exact s1
    have c2 : wr.cell? ⟨gc, k * 3 + 2, none⟩ = some (.string C[k].nm) := by rw [HO.out.cellAt _ (by omega)]; exact s2
    have hmem : C[k] ∈ C := List.getElem_mem hlt
    have htk : C.take (k + 1) = C.take k ++ [C[k]] := List.take_succ_eq_append_getElem hlt
    obtain ⟨y, hy⟩ : ∃ y, C[k] = y := ⟨_, rfl⟩
    rw [hy] at c0 c1 c2 hmem htk
    have hno : okCall d.seats.length d.tens y.seat y.id y.nm = false → A = false := fun hq => HN.out (fun h => by have := h.1 y hmem; rw [hq] at this; cases this)
    have HNO := hide hno
    have HTK := hide htk
    clear s0 s1 s2 hfl hmem htk hy hno
    go_upto_region 5 with fail
    have hX : Below wr.heap.size wr (wr.alloc (.cells #[.int .i64 y.seat, .int .i64 y.id, .string y.nm] 155)) := (Below.refl _ _).alloc (Nat.le_refl _) _
    have HRS := hide (rowIs_new wr 155 [.int .i64 y.seat, .int .i64 y.id, .string y.nm])
    replace HM := hide (HM.out.new hX)
    replace HMS := hide (HMS.out.new hX)
    replace HO := hide (owns_new HO.out hX)
    have hgs : w.heap.size < wr.heap.size := HRX.out.lt
    replace HRX := hide (HRX.out.new hX)
    replace HB := hide (bchain HB.out hX)
    clear hX c0 c1 c2 hgcl
    generalize wr.heap.size = gs at *
    generalize wr.alloc (.cells #[.int .i64 y.seat, .int .i64 y.id, .string y.nm] 155) = W5 at *
    have z0 := RowIs.cell (j := 0) HRS.out rfl
    have z1 := RowIs.cell (j := 1) HRS.out rfl
    have z2 := RowIs.cell (j := 2) HRS.out rfl
    have hlk := ms_lookup HMS.out y.nm
    by_cases m0 : 0 ≤ atV d.tens y.nm
    rotate_left
    · have HE : Hid (A = false) := HNO.out (by unfold okCall; rw [decide_eq_false m0, Bool.and_false, Bool.and_false])
      rw [if_neg m0] at hlk
      dsimp only [Option.getD, Option.isSome] at hlk
      go_wp2_with fail
      go_ret
      exact ⟨by rw [HE.out] <;> rfl, HB.out⟩
    rw [if_pos m0] at hlk
    dsimp only [Option.getD, Option.isSome] at hlk
    have x0 := RowIs.cell (j := 0) HRX.out rfl
    have x1 := RowIs.cell (j := 1) HRX.out rfl
    have x2 := RowIs.cell (j := 2) HRX.out rfl
    have x3 := RowIs.cell (j := 3) HRX.out rfl
    have x4 := RowIs.cell (j := 4) HRX.out rfl
    have x5 := RowIs.cell (j := 5) HRX.out rfl
    go_wp2_with fail
    refine (implHasSeat d y.seat _ _ _ _ _ ⟨HV.out.te.new HB.out, HV.out.se.new HB.out, HV.out.di.new HB.out, HV.out.fl.new HB.out⟩ h4).mono ?_; rintro e w6 ⟨rfl, hb⟩
    replace HM := hide (HM.out.new hb)
    replace HMS := hide (HMS.out.new hb)
    replace HO := hide (owns_new HO.out hb)
    replace HRS := hide (HRS.out.new hb)
    replace HRX := hide (HRX.out.new hb)
    replace HB := hide (bchain HB.out hb)
    clear hb
    clear hlk x0 x1 x2 x3 x4 x5 z0 z1 z2
    have z0 := RowIs.cell (j := 0) HRS.out rfl
    have z1 := RowIs.cell (j := 1) HRS.out rfl
    have z2 := RowIs.cell (j := 2) HRS.out rfl
    cases m1 : inB y.seat 0 ((d.seats.length : Int) - 1)
    · have HE : Hid (A = false) := HNO.out (by unfold okCall; rw [m1, Bool.false_and])
      go_wp2_with fail
      go_ret
      exact ⟨by rw [HE.out] <;> rfl, HB.out⟩
    by_cases m2 : y.id < 1
    · have HE : Hid (A = false) := HNO.out (by unfold okCall; rw [decide_eq_true m2]; simp)
      go_wp2_with fail
      go_ret
      exact ⟨by rw [HE.out] <;> rfl, HB.out⟩
    have HOK : Hid (okCall d.seats.length d.tens y.seat y.id y.nm = true) := by
      show _ = _
      unfold okCall
      rw [m1, decide_eq_false m2, decide_eq_true m0]
      rfl
    have HS2 : Hid (∀ c ∈ C.take (k + 1), okCall d.seats.length d.tens c.seat c.id c.nm = true) := by
      intro c hc
      rw [HTK.out] at hc
      rcases List.mem_append.1 hc with h | h
      · exact HS.out c h
      · simp at h; subst h; exact HOK.out
    have hd2 : decide (y.id < 1) = false := decide_eq_false m2
    go_upto_region 8 with fail
    clear m0 m1 m2 hd2 HS HOK
    obtain ⟨w7, hr7, M7, g7⟩ := bt_update HM.out (y.seat, y.id) (.agg #[])
    dsimp only [btKey] at hr7
    have HM7 : Hid (MapSet w7 gm (setB ((C.take (k + 1)).map brD))) := by
      show MapSet _ _ _
      rw [HTK.out, List.map_append, List.map_singleton, setB_snoc]
      exact M7
    have HMS7 := hide (HMS.out.kept (g7.block _ HMS.out.lt (fun e => hgg (Option.some.inj e))))
    have HO7 := hide (owns_kept HO.out (fun q hq hl => g7.block q hl (fun e => by have := (owns_lt HO.out q hq).1; have := Option.some.inj e; omega)))
    have HR7 := hide (HRX.out.kept (g7.block _ HRX.out.lt (fun e => hgx (Option.some.inj e))))
    have HB7 := hide (HB.out.grown g7 HB.out.size (fun q hq => by cases hq; exact hgw))
    clear M7 g7 HM HMS HO HRX HB HTK
    go_wp2_with fail
    go_roundw
    case rel => exact ⟨k + 1, by go_num, by omega, HS2, HM7, HMS7, HO7, HR7, HB7⟩
    case measure => simp [intOf]; omega
end Go.Proofs.YtkhclhnejnpkeaaGreat
