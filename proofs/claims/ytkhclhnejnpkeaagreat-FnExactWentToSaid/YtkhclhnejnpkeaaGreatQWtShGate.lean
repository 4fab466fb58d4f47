/- A Gate in memory: read, owned; counted, copied, held against each other; one that came in (by gen_shgate.py). -/
import Derived.Test.YtkhclhnejnpkeaaGreatQWtGateMath
namespace Go.Proofs.YtkhclhnejnpkeaaGreat
open Go.RowKit
set_option maxRecDepth 100000
set_option linter.unusedSimpArgs false
set_option linter.unusedVariables false
abbrev gtv (d : GtD) (vt vs vd vf : Value) : Value := .agg #[.int .i64 d.now, vt, vs, vd, vf, .bool d.drained]
/-- What its lists read as. -/
structure GtRd (w : World) (d : GtD) (vt vs vd vf : Value) : Prop where
  te : RdR tenantS w vt d.tens
  se : RdR seatS w vs d.seats
  di : RdR dialS w vd d.dials
  fl : RdR flightS w vf d.flights
theorem GtRd.new {w w' : World} {d : GtD} {vt vs vd vf : Value} (h : GtRd w d vt vs vd vf) (hb : Below w.heap.size w w') : GtRd w' d vt vs vd vf := ⟨h.te.new hb, h.se.new hb, h.di.new hb, h.fl.new hb⟩
def szGate (d : GtD) : Int := szTenantS d.tens + szSeatS d.seats + szDialS d.dials + szFlightS d.flights
theorem szGate_nn (d : GtD) : 0 ≤ szTenantS d.tens ∧ 0 ≤ szSeatS d.seats ∧ 0 ≤ szDialS d.dials ∧ 0 ≤ szFlightS d.flights := ⟨szTenantS_nn _, szSeatS_nn _, szDialS_nn _, szFlightS_nn _⟩
set_option maxHeartbeats 4000000 in
theorem toGate1 (d : GtD) (vt vs vd vf : Value) (w : World) (hv : GtRd w d vt vs vd vf) (hs : szGate d ≤ 1048576) :
    Calls Tryz.prog 8 #[gtv d vt vs vd vf] w fun x w' => ∃ ut us ud uf, x = .returned (gtv d ut us ud uf) ∧ GtRd w' d ut us ud uf ∧ Below w.heap.size w w' := by
  dsimp only [gtv] at *
  have HV := hide hv
  clear hv
  obtain ⟨ate, pte, rfl, _⟩ := HV.out.te.form
  obtain ⟨ase, pse, rfl, _⟩ := HV.out.se.form
  obtain ⟨adi, pdi, rfl, _⟩ := HV.out.di.form
  obtain ⟨afl, pfl, rfl, _⟩ := HV.out.fl.form
  obtain ⟨s1, s2, s3, s4⟩ := szGate_nn d
  unfold szGate at hs
  obtain ⟨W, hW⟩ : ∃ W, ((w.alloc (.cells #[.int .i64 d.now, .slice ate d.tens.length pte, .slice ase d.seats.length pse, .slice adi d.dials.length pdi, .slice afl d.flights.length pfl, .bool d.drained] 27)).alloc (.cells #[.int .i64 0, .slice none 0 0, .slice none 0 0, .slice none 0 0, .slice none 0 0, .bool false] 35)).alloc (.cells #[.int .i64 0, .slice none 0 0, .slice none 0 0, .slice none 0 0, .slice none 0 0, .bool false] 35) = W := ⟨_, rfl⟩
  have RX : RowIs W w.heap.size 27 [.int .i64 d.now, .slice ate d.tens.length pte, .slice ase d.seats.length pse, .slice adi d.dials.length pdi, .slice afl d.flights.length pfl, .bool d.drained] := by rw [← hW]; exact ((rowIs_new w 27 [.int .i64 d.now, .slice ate d.tens.length pte, .slice ase d.seats.length pse, .slice adi d.dials.length pdi, .slice afl d.flights.length pfl, .bool d.drained]).alloc _).alloc _
  have RY : RowIs W (w.heap.size + 1) 35 [.int .i64 0, .slice none 0 0, .slice none 0 0, .slice none 0 0, .slice none 0 0, .bool false] := by have := (rowIs_new (w.alloc (.cells #[.int .i64 d.now, .slice ate d.tens.length pte, .slice ase d.seats.length pse, .slice adi d.dials.length pdi, .slice afl d.flights.length pfl, .bool d.drained] 27)) 35 [.int .i64 0, .slice none 0 0, .slice none 0 0, .slice none 0 0, .slice none 0 0, .bool false]).alloc (.cells #[.int .i64 0, .slice none 0 0, .slice none 0 0, .slice none 0 0, .slice none 0 0, .bool false] 35); rw [hW] at this; simpa using this
  have RZ : RowIs W (w.heap.size + 1 + 1) 35 [.int .i64 0, .slice none 0 0, .slice none 0 0, .slice none 0 0, .slice none 0 0, .bool false] := by have := rowIs_new ((w.alloc (.cells #[.int .i64 d.now, .slice ate d.tens.length pte, .slice ase d.seats.length pse, .slice adi d.dials.length pdi, .slice afl d.flights.length pfl, .bool d.drained] 27)).alloc (.cells #[.int .i64 0, .slice none 0 0, .slice none 0 0, .slice none 0 0, .slice none 0 0, .bool false] 35)) 35 [.int .i64 0, .slice none 0 0, .slice none 0 0, .slice none 0 0, .slice none 0 0, .bool false]; rw [hW] at this; simpa using this
  have HB : Below w.heap.size w W := by rw [← hW]; exact ((((Below.refl _ _).alloc (Nat.le_refl _) _).alloc (by simp) _).alloc (by simp; omega) _)
  have hWs : w.heap.size + 3 ≤ W.heap.size := by rw [← hW]; first | (simp; done) | (simp; omega)
  go_enter Tryz.func8, Tryz.ntmps8
  have x0 := RowIs.cell (j := 0) RX rfl
  have xf := fun j => RowIs.frozen RX j
  have xl := RX.lt
  have z0 := RowIs.cell (j := 0) RZ rfl
  have zf := fun j => RowIs.frozen RZ j
  have zl := RZ.lt
  go_upto_region 3 with fail
  clear z0 zf zl
  clear x0 xf xl
  have NRX : RowIs (W.setCell ⟨(w.heap.size + 1 + 1), 0, none⟩ (.int .i64 d.now)) w.heap.size 27 [.int .i64 d.now, .slice ate d.tens.length pte, .slice ase d.seats.length pse, .slice adi d.dials.length pdi, .slice afl d.flights.length pfl, .bool d.drained] := (RX.far ⟨(w.heap.size + 1 + 1), 0, none⟩ (.int .i64 d.now) (show (w.heap.size + 1 + 1) ≠ w.heap.size by omega))
  have NRY : RowIs (W.setCell ⟨(w.heap.size + 1 + 1), 0, none⟩ (.int .i64 d.now)) (w.heap.size + 1) 35 [.int .i64 0, .slice none 0 0, .slice none 0 0, .slice none 0 0, .slice none 0 0, .bool false] := (RY.far ⟨(w.heap.size + 1 + 1), 0, none⟩ (.int .i64 d.now) (show (w.heap.size + 1 + 1) ≠ (w.heap.size + 1) by omega))
  have NRZ : RowIs (W.setCell ⟨(w.heap.size + 1 + 1), 0, none⟩ (.int .i64 d.now)) (w.heap.size + 1 + 1) 35 [.int .i64 d.now, .slice none 0 0, .slice none 0 0, .slice none 0 0, .slice none 0 0, .bool false] := (RZ.set 0 (.int .i64 d.now))
  have NHB := (HB.setCell (p := ⟨(w.heap.size + 1 + 1), 0, none⟩) (show w.heap.size ≤ (w.heap.size + 1 + 1) by omega) (.int .i64 d.now))
  generalize hqV1 : (W.setCell ⟨(w.heap.size + 1 + 1), 0, none⟩ (.int .i64 d.now)) = V1 at *
  clear RX
  have RX := NRX
  clear NRX
  clear RY
  have RY := NRY
  clear NRY
  clear RZ
  have RZ := NRZ
  clear NRZ
  clear HB
  have HB := NHB
  clear NHB
  have zV1 : V1.heap.size = W.heap.size := by rw [← hqV1]; simp
  clear hqV1
  clear hW
  have x1 := RowIs.cell (j := 1) RX rfl
  have xf := fun j => RowIs.frozen RX j
  have xl := RX.lt
  go_wp2_with fail
  clear x1 xf xl
  refine (toTenantS d.tens _ _ (HV.out.te.new HB) (by omega)).mono ?_; rintro x w1 ⟨v1, rfl, ho, hb⟩
  obtain ⟨nte, qte, rfl, _⟩ := ho.form
  have zw1 := hb.size
  have Ote := hide ho
  clear ho
  replace RX := RX.new hb
  replace RY := RY.new hb
  replace RZ := RZ.new hb
  replace HB := bchain HB hb
  clear hb
  have z1 := RowIs.cell (j := 1) RZ rfl
  have zf := fun j => RowIs.frozen RZ j
  have zl := RZ.lt
  go_upto_region 4 with fail
  clear z1 zf zl
  have NOte := hide (OwX.far Ote.out ⟨w.heap.size + 1 + 1, 1, none⟩ (.slice nte d.tens.length qte) (.inl (by show w.heap.size + 1 + 1 < _; omega)))
  have NRX : RowIs (w1.setCell ⟨(w.heap.size + 1 + 1), 1, none⟩ (.slice nte d.tens.length qte)) w.heap.size 27 [.int .i64 d.now, .slice ate d.tens.length pte, .slice ase d.seats.length pse, .slice adi d.dials.length pdi, .slice afl d.flights.length pfl, .bool d.drained] := (RX.far ⟨(w.heap.size + 1 + 1), 1, none⟩ (.slice nte d.tens.length qte) (show (w.heap.size + 1 + 1) ≠ w.heap.size by omega))
  have NRY : RowIs (w1.setCell ⟨(w.heap.size + 1 + 1), 1, none⟩ (.slice nte d.tens.length qte)) (w.heap.size + 1) 35 [.int .i64 0, .slice none 0 0, .slice none 0 0, .slice none 0 0, .slice none 0 0, .bool false] := (RY.far ⟨(w.heap.size + 1 + 1), 1, none⟩ (.slice nte d.tens.length qte) (show (w.heap.size + 1 + 1) ≠ (w.heap.size + 1) by omega))
  have NRZ : RowIs (w1.setCell ⟨(w.heap.size + 1 + 1), 1, none⟩ (.slice nte d.tens.length qte)) (w.heap.size + 1 + 1) 35 [.int .i64 d.now, .slice nte d.tens.length qte, .slice none 0 0, .slice none 0 0, .slice none 0 0, .bool false] := (RZ.set 1 (.slice nte d.tens.length qte))
  have NHB := (HB.setCell (p := ⟨(w.heap.size + 1 + 1), 1, none⟩) (show w.heap.size ≤ (w.heap.size + 1 + 1) by omega) (.slice nte d.tens.length qte))
  generalize hqV2 : (w1.setCell ⟨(w.heap.size + 1 + 1), 1, none⟩ (.slice nte d.tens.length qte)) = V2 at *
  clear RX
  have RX := NRX
  clear NRX
  clear RY
  have RY := NRY
  clear NRY
  clear RZ
  have RZ := NRZ
  clear NRZ
  clear HB
  have HB := NHB
  clear NHB
  clear Ote
  have Ote := NOte
  clear NOte
  have zV2 : V2.heap.size = w1.heap.size := by rw [← hqV2]; simp
  clear hqV2
  have x2 := RowIs.cell (j := 2) RX rfl
  have xf := fun j => RowIs.frozen RX j
  have xl := RX.lt
  go_wp2_with fail
  clear x2 xf xl
  refine (toSeatS d.seats _ _ (HV.out.se.new HB) (by omega)).mono ?_; rintro x w2 ⟨v1, rfl, ho, hb⟩
  obtain ⟨nse, qse, rfl, _⟩ := ho.form
  have zw2 := hb.size
  have Ose := hide ho
  clear ho
  replace Ote := hide (Ote.out.new hb)
  replace RX := RX.new hb
  replace RY := RY.new hb
  replace RZ := RZ.new hb
  replace HB := bchain HB hb
  clear hb
  have z2 := RowIs.cell (j := 2) RZ rfl
  have zf := fun j => RowIs.frozen RZ j
  have zl := RZ.lt
  go_upto_region 5 with fail
  clear z2 zf zl
  have NOte := hide (OwX.far Ote.out ⟨w.heap.size + 1 + 1, 2, none⟩ (.slice nse d.seats.length qse) (.inl (by show w.heap.size + 1 + 1 < _; omega)))
  have NOse := hide (OwX.far Ose.out ⟨w.heap.size + 1 + 1, 2, none⟩ (.slice nse d.seats.length qse) (.inl (by show w.heap.size + 1 + 1 < _; omega)))
  have NRX : RowIs (w2.setCell ⟨(w.heap.size + 1 + 1), 2, none⟩ (.slice nse d.seats.length qse)) w.heap.size 27 [.int .i64 d.now, .slice ate d.tens.length pte, .slice ase d.seats.length pse, .slice adi d.dials.length pdi, .slice afl d.flights.length pfl, .bool d.drained] := (RX.far ⟨(w.heap.size + 1 + 1), 2, none⟩ (.slice nse d.seats.length qse) (show (w.heap.size + 1 + 1) ≠ w.heap.size by omega))
  have NRY : RowIs (w2.setCell ⟨(w.heap.size + 1 + 1), 2, none⟩ (.slice nse d.seats.length qse)) (w.heap.size + 1) 35 [.int .i64 0, .slice none 0 0, .slice none 0 0, .slice none 0 0, .slice none 0 0, .bool false] := (RY.far ⟨(w.heap.size + 1 + 1), 2, none⟩ (.slice nse d.seats.length qse) (show (w.heap.size + 1 + 1) ≠ (w.heap.size + 1) by omega))
  have NRZ : RowIs (w2.setCell ⟨(w.heap.size + 1 + 1), 2, none⟩ (.slice nse d.seats.length qse)) (w.heap.size + 1 + 1) 35 [.int .i64 d.now, .slice nte d.tens.length qte, .slice nse d.seats.length qse, .slice none 0 0, .slice none 0 0, .bool false] := (RZ.set 2 (.slice nse d.seats.length qse))
  have NHB := (HB.setCell (p := ⟨(w.heap.size + 1 + 1), 2, none⟩) (show w.heap.size ≤ (w.heap.size + 1 + 1) by omega) (.slice nse d.seats.length qse))
  generalize hqV3 : (w2.setCell ⟨(w.heap.size + 1 + 1), 2, none⟩ (.slice nse d.seats.length qse)) = V3 at *
  clear RX
  have RX := NRX
  clear NRX
  clear RY
  have RY := NRY
  clear NRY
  clear RZ
  have RZ := NRZ
  clear NRZ
  clear HB
  have HB := NHB
  clear NHB
  clear Ote
  have Ote := NOte
  clear NOte
  clear Ose
  have Ose := NOse
  clear NOse
  have zV3 : V3.heap.size = w2.heap.size := by rw [← hqV3]; simp
  clear hqV3
  have x3 := RowIs.cell (j := 3) RX rfl
  have xf := fun j => RowIs.frozen RX j
  have xl := RX.lt
  go_wp2_with fail
  clear x3 xf xl
  refine (toDialS d.dials _ _ (HV.out.di.new HB) (by omega)).mono ?_; rintro x w3 ⟨v1, rfl, ho, hb⟩
  obtain ⟨ndi, qdi, rfl, _⟩ := ho.form
  have zw3 := hb.size
  have Odi := hide ho
  clear ho
  replace Ote := hide (Ote.out.new hb)
  replace Ose := hide (Ose.out.new hb)
  replace RX := RX.new hb
  replace RY := RY.new hb
  replace RZ := RZ.new hb
  replace HB := bchain HB hb
  clear hb
  have z3 := RowIs.cell (j := 3) RZ rfl
  have zf := fun j => RowIs.frozen RZ j
  have zl := RZ.lt
  go_upto_region 6 with fail
  clear z3 zf zl
  have NOte := hide (OwX.far Ote.out ⟨w.heap.size + 1 + 1, 3, none⟩ (.slice ndi d.dials.length qdi) (.inl (by show w.heap.size + 1 + 1 < _; omega)))
  have NOse := hide (OwX.far Ose.out ⟨w.heap.size + 1 + 1, 3, none⟩ (.slice ndi d.dials.length qdi) (.inl (by show w.heap.size + 1 + 1 < _; omega)))
  have NOdi := hide (OwX.far Odi.out ⟨w.heap.size + 1 + 1, 3, none⟩ (.slice ndi d.dials.length qdi) (.inl (by show w.heap.size + 1 + 1 < _; omega)))
  have NRX : RowIs (w3.setCell ⟨(w.heap.size + 1 + 1), 3, none⟩ (.slice ndi d.dials.length qdi)) w.heap.size 27 [.int .i64 d.now, .slice ate d.tens.length pte, .slice ase d.seats.length pse, .slice adi d.dials.length pdi, .slice afl d.flights.length pfl, .bool d.drained] := (RX.far ⟨(w.heap.size + 1 + 1), 3, none⟩ (.slice ndi d.dials.length qdi) (show (w.heap.size + 1 + 1) ≠ w.heap.size by omega))
  have NRY : RowIs (w3.setCell ⟨(w.heap.size + 1 + 1), 3, none⟩ (.slice ndi d.dials.length qdi)) (w.heap.size + 1) 35 [.int .i64 0, .slice none 0 0, .slice none 0 0, .slice none 0 0, .slice none 0 0, .bool false] := (RY.far ⟨(w.heap.size + 1 + 1), 3, none⟩ (.slice ndi d.dials.length qdi) (show (w.heap.size + 1 + 1) ≠ (w.heap.size + 1) by omega))
  have NRZ : RowIs (w3.setCell ⟨(w.heap.size + 1 + 1), 3, none⟩ (.slice ndi d.dials.length qdi)) (w.heap.size + 1 + 1) 35 [.int .i64 d.now, .slice nte d.tens.length qte, .slice nse d.seats.length qse, .slice ndi d.dials.length qdi, .slice none 0 0, .bool false] := (RZ.set 3 (.slice ndi d.dials.length qdi))
  have NHB := (HB.setCell (p := ⟨(w.heap.size + 1 + 1), 3, none⟩) (show w.heap.size ≤ (w.heap.size + 1 + 1) by omega) (.slice ndi d.dials.length qdi))
  generalize hqV4 : (w3.setCell ⟨(w.heap.size + 1 + 1), 3, none⟩ (.slice ndi d.dials.length qdi)) = V4 at *
  clear RX
  have RX := NRX
  clear NRX
  clear RY
  have RY := NRY
  clear NRY
  clear RZ
  have RZ := NRZ
  clear NRZ
  clear HB
  have HB := NHB
  clear NHB
  clear Ote
  have Ote := NOte
  clear NOte
  clear Ose
  have Ose := NOse
  clear NOse
  clear Odi
  have Odi := NOdi
  clear NOdi
  have zV4 : V4.heap.size = w3.heap.size := by rw [← hqV4]; simp
  clear hqV4
  have x4 := RowIs.cell (j := 4) RX rfl
  have xf := fun j => RowIs.frozen RX j
  have xl := RX.lt
  go_wp2_with fail
  clear x4 xf xl
  refine (toFlightS d.flights _ _ (HV.out.fl.new HB) (by omega)).mono ?_; rintro x w4 ⟨v1, rfl, ho, hb⟩
  obtain ⟨nfl, qfl, rfl, _⟩ := ho.form
  have zw4 := hb.size
  have Ofl := hide ho
  clear ho
  replace Ote := hide (Ote.out.new hb)
  replace Ose := hide (Ose.out.new hb)
  replace Odi := hide (Odi.out.new hb)
  replace RX := RX.new hb
  replace RY := RY.new hb
  replace RZ := RZ.new hb
  replace HB := bchain HB hb
  clear hb
  have z4 := RowIs.cell (j := 4) RZ rfl
  have zf := fun j => RowIs.frozen RZ j
  have zl := RZ.lt
  go_upto_region 7 with fail
  clear z4 zf zl
  have NOte := hide (OwX.far Ote.out ⟨w.heap.size + 1 + 1, 4, none⟩ (.slice nfl d.flights.length qfl) (.inl (by show w.heap.size + 1 + 1 < _; omega)))
  have NOse := hide (OwX.far Ose.out ⟨w.heap.size + 1 + 1, 4, none⟩ (.slice nfl d.flights.length qfl) (.inl (by show w.heap.size + 1 + 1 < _; omega)))
  have NOdi := hide (OwX.far Odi.out ⟨w.heap.size + 1 + 1, 4, none⟩ (.slice nfl d.flights.length qfl) (.inl (by show w.heap.size + 1 + 1 < _; omega)))
  have NOfl := hide (OwX.far Ofl.out ⟨w.heap.size + 1 + 1, 4, none⟩ (.slice nfl d.flights.length qfl) (.inl (by show w.heap.size + 1 + 1 < _; omega)))
  have NRX : RowIs (w4.setCell ⟨(w.heap.size + 1 + 1), 4, none⟩ (.slice nfl d.flights.length qfl)) w.heap.size 27 [.int .i64 d.now, .slice ate d.tens.length pte, .slice ase d.seats.length pse, .slice adi d.dials.length pdi, .slice afl d.flights.length pfl, .bool d.drained] := (RX.far ⟨(w.heap.size + 1 + 1), 4, none⟩ (.slice nfl d.flights.length qfl) (show (w.heap.size + 1 + 1) ≠ w.heap.size by omega))
  have NRY : RowIs (w4.setCell ⟨(w.heap.size + 1 + 1), 4, none⟩ (.slice nfl d.flights.length qfl)) (w.heap.size + 1) 35 [.int .i64 0, .slice none 0 0, .slice none 0 0, .slice none 0 0, .slice none 0 0, .bool false] := (RY.far ⟨(w.heap.size + 1 + 1), 4, none⟩ (.slice nfl d.flights.length qfl) (show (w.heap.size + 1 + 1) ≠ (w.heap.size + 1) by omega))
  have NRZ : RowIs (w4.setCell ⟨(w.heap.size + 1 + 1), 4, none⟩ (.slice nfl d.flights.length qfl)) (w.heap.size + 1 + 1) 35 [.int .i64 d.now, .slice nte d.tens.length qte, .slice nse d.seats.length qse, .slice ndi d.dials.length qdi, .slice nfl d.flights.length qfl, .bool false] := (RZ.set 4 (.slice nfl d.flights.length qfl))
  have NHB := (HB.setCell (p := ⟨(w.heap.size + 1 + 1), 4, none⟩) (show w.heap.size ≤ (w.heap.size + 1 + 1) by omega) (.slice nfl d.flights.length qfl))
  generalize hqV5 : (w4.setCell ⟨(w.heap.size + 1 + 1), 4, none⟩ (.slice nfl d.flights.length qfl)) = V5 at *
  clear RX
  have RX := NRX
  clear NRX
  clear RY
  have RY := NRY
  clear NRY
  clear RZ
  have RZ := NRZ
  clear NRZ
  clear HB
  have HB := NHB
  clear NHB
  clear Ote
  have Ote := NOte
  clear NOte
  clear Ose
  have Ose := NOse
  clear NOse
  clear Odi
  have Odi := NOdi
  clear NOdi
  clear Ofl
  have Ofl := NOfl
  clear NOfl
  have zV5 : V5.heap.size = w4.heap.size := by rw [← hqV5]; simp
  clear hqV5
  have x5 := RowIs.cell (j := 5) RX rfl
  have xf := fun j => RowIs.frozen RX j
  have xl := RX.lt
  have z5 := RowIs.cell (j := 5) RZ rfl
  have zf := fun j => RowIs.frozen RZ j
  have zl := RZ.lt
  go_upto_region 8 with fail
  clear z5 zf zl
  clear x5 xf xl
  have NOte := hide (OwX.far Ote.out ⟨w.heap.size + 1 + 1, 5, none⟩ (.bool d.drained) (.inl (by show w.heap.size + 1 + 1 < _; omega)))
  have NOse := hide (OwX.far Ose.out ⟨w.heap.size + 1 + 1, 5, none⟩ (.bool d.drained) (.inl (by show w.heap.size + 1 + 1 < _; omega)))
  have NOdi := hide (OwX.far Odi.out ⟨w.heap.size + 1 + 1, 5, none⟩ (.bool d.drained) (.inl (by show w.heap.size + 1 + 1 < _; omega)))
  have NOfl := hide (OwX.far Ofl.out ⟨w.heap.size + 1 + 1, 5, none⟩ (.bool d.drained) (.inl (by show w.heap.size + 1 + 1 < _; omega)))
  have NRX : RowIs (V5.setCell ⟨(w.heap.size + 1 + 1), 5, none⟩ (.bool d.drained)) w.heap.size 27 [.int .i64 d.now, .slice ate d.tens.length pte, .slice ase d.seats.length pse, .slice adi d.dials.length pdi, .slice afl d.flights.length pfl, .bool d.drained] := (RX.far ⟨(w.heap.size + 1 + 1), 5, none⟩ (.bool d.drained) (show (w.heap.size + 1 + 1) ≠ w.heap.size by omega))
  have NRY : RowIs (V5.setCell ⟨(w.heap.size + 1 + 1), 5, none⟩ (.bool d.drained)) (w.heap.size + 1) 35 [.int .i64 0, .slice none 0 0, .slice none 0 0, .slice none 0 0, .slice none 0 0, .bool false] := (RY.far ⟨(w.heap.size + 1 + 1), 5, none⟩ (.bool d.drained) (show (w.heap.size + 1 + 1) ≠ (w.heap.size + 1) by omega))
  have NRZ : RowIs (V5.setCell ⟨(w.heap.size + 1 + 1), 5, none⟩ (.bool d.drained)) (w.heap.size + 1 + 1) 35 [.int .i64 d.now, .slice nte d.tens.length qte, .slice nse d.seats.length qse, .slice ndi d.dials.length qdi, .slice nfl d.flights.length qfl, .bool d.drained] := (RZ.set 5 (.bool d.drained))
  have NHB := (HB.setCell (p := ⟨(w.heap.size + 1 + 1), 5, none⟩) (show w.heap.size ≤ (w.heap.size + 1 + 1) by omega) (.bool d.drained))
  generalize hqV6 : (V5.setCell ⟨(w.heap.size + 1 + 1), 5, none⟩ (.bool d.drained)) = V6 at *
  clear RX
  have RX := NRX
  clear NRX
  clear RY
  have RY := NRY
  clear NRY
  clear RZ
  have RZ := NRZ
  clear NRZ
  clear HB
  have HB := NHB
  clear NHB
  clear Ote
  have Ote := NOte
  clear NOte
  clear Ose
  have Ose := NOse
  clear NOse
  clear Odi
  have Odi := NOdi
  clear NOdi
  clear Ofl
  have Ofl := NOfl
  clear NOfl
  have zV6 : V6.heap.size = V5.heap.size := by rw [← hqV6]; simp
  clear hqV6
  go_wp2_with (first | (refine wpList_load_row (by rfl) 35 _ (by rfl) (w.heap.size + 1 + 1) (by rfl) [.int .i64 d.now, .slice nte d.tens.length qte, .slice nse d.seats.length qse, .slice ndi d.dials.length qdi, .slice nfl d.flights.length qfl, .bool d.drained] _ 35 RZ Tryz.underlying35 rfl (by kernel_rfl) ?_) | (refine wpList_store_row (by rfl) 35 _ _ (by rfl) (w.heap.size + 1) [.int .i64 d.now, .slice nte d.tens.length qte, .slice nse d.seats.length qse, .slice ndi d.dials.length qdi, .slice nfl d.flights.length qfl, .bool d.drained] (by rfl) (by rfl) 35 [.int .i64 0, .slice none 0 0, .slice none 0 0, .slice none 0 0, .slice none 0 0, .bool false] RY (by kernel_rfl) rfl (by intro u hu; simp at hu; rcases hu with rfl | rfl | rfl | rfl | rfl | rfl <;> rfl) ?_))
  have NOte := hide (OwX.keep1 Ote.out (setRow_size V6 _ #[.int .i64 d.now, .slice nte d.tens.length qte, .slice nse d.seats.length qse, .slice ndi d.dials.length qdi, .slice nfl d.flights.length qfl, .bool d.drained]) (fun k hk => setRow_other V6 (w.heap.size + 1) #[.int .i64 d.now, .slice nte d.tens.length qte, .slice nse d.seats.length qse, .slice ndi d.dials.length qdi, .slice nfl d.flights.length qfl, .bool d.drained] k (by omega)))
  have NOse := hide (OwX.keep1 Ose.out (setRow_size V6 _ #[.int .i64 d.now, .slice nte d.tens.length qte, .slice nse d.seats.length qse, .slice ndi d.dials.length qdi, .slice nfl d.flights.length qfl, .bool d.drained]) (fun k hk => setRow_other V6 (w.heap.size + 1) #[.int .i64 d.now, .slice nte d.tens.length qte, .slice nse d.seats.length qse, .slice ndi d.dials.length qdi, .slice nfl d.flights.length qfl, .bool d.drained] k (by omega)))
  have NOdi := hide (OwX.keep1 Odi.out (setRow_size V6 _ #[.int .i64 d.now, .slice nte d.tens.length qte, .slice nse d.seats.length qse, .slice ndi d.dials.length qdi, .slice nfl d.flights.length qfl, .bool d.drained]) (fun k hk => setRow_other V6 (w.heap.size + 1) #[.int .i64 d.now, .slice nte d.tens.length qte, .slice nse d.seats.length qse, .slice ndi d.dials.length qdi, .slice nfl d.flights.length qfl, .bool d.drained] k (by omega)))
  have NOfl := hide (OwX.keep1 Ofl.out (setRow_size V6 _ #[.int .i64 d.now, .slice nte d.tens.length qte, .slice nse d.seats.length qse, .slice ndi d.dials.length qdi, .slice nfl d.flights.length qfl, .bool d.drained]) (fun k hk => setRow_other V6 (w.heap.size + 1) #[.int .i64 d.now, .slice nte d.tens.length qte, .slice nse d.seats.length qse, .slice ndi d.dials.length qdi, .slice nfl d.flights.length qfl, .bool d.drained] k (by omega)))
  have zl : (V6.setRow (w.heap.size + 1) #[.int .i64 d.now, .slice nte d.tens.length qte, .slice nse d.seats.length qse, .slice ndi d.dials.length qdi, .slice nfl d.flights.length qfl, .bool d.drained]).heap.size = V6.heap.size := setRow_size _ _ _
  have NRX := RX.kept (setRow_other V6 (w.heap.size + 1) #[.int .i64 d.now, .slice nte d.tens.length qte, .slice nse d.seats.length qse, .slice ndi d.dials.length qdi, .slice nfl d.flights.length qfl, .bool d.drained] w.heap.size (by omega))
  have NRY : RowIs (V6.setRow (w.heap.size + 1) #[.int .i64 d.now, .slice nte d.tens.length qte, .slice nse d.seats.length qse, .slice ndi d.dials.length qdi, .slice nfl d.flights.length qfl, .bool d.drained]) (w.heap.size + 1) 35 [.int .i64 d.now, .slice nte d.tens.length qte, .slice nse d.seats.length qse, .slice ndi d.dials.length qdi, .slice nfl d.flights.length qfl, .bool d.drained] := rowIs_setRow (cs' := [.int .i64 d.now, .slice nte d.tens.length qte, .slice nse d.seats.length qse, .slice ndi d.dials.length qdi, .slice nfl d.flights.length qfl, .bool d.drained]) RY
  have NRZ := RZ.kept (setRow_other V6 (w.heap.size + 1) #[.int .i64 d.now, .slice nte d.tens.length qte, .slice nse d.seats.length qse, .slice ndi d.dials.length qdi, .slice nfl d.flights.length qfl, .bool d.drained] (w.heap.size + 1 + 1) (by omega))
  have NHB := below_setRow HB (show w.heap.size ≤ (w.heap.size + 1) by omega) #[.int .i64 d.now, .slice nte d.tens.length qte, .slice nse d.seats.length qse, .slice ndi d.dials.length qdi, .slice nfl d.flights.length qfl, .bool d.drained]
  generalize hV : V6.setRow (w.heap.size + 1) #[.int .i64 d.now, .slice nte d.tens.length qte, .slice nse d.seats.length qse, .slice ndi d.dials.length qdi, .slice nfl d.flights.length qfl, .bool d.drained] = V7 at *
  clear hV
  clear RX
  have RX := NRX
  clear NRX
  clear RY
  have RY := NRY
  clear NRY
  clear RZ
  have RZ := NRZ
  clear NRZ
  clear HB
  have HB := NHB
  clear NHB
  clear Ote
  have Ote := NOte
  clear NOte
  clear Ose
  have Ose := NOse
  clear NOse
  clear Odi
  have Odi := NOdi
  clear NOdi
  clear Ofl
  have Ofl := NOfl
  clear NOfl
  have y0 := RowIs.cell (j := 0) RY rfl
  have y1 := RowIs.cell (j := 1) RY rfl
  have y2 := RowIs.cell (j := 2) RY rfl
  have y3 := RowIs.cell (j := 3) RY rfl
  have y4 := RowIs.cell (j := 4) RY rfl
  have y5 := RowIs.cell (j := 5) RY rfl
  have yf := fun j => RowIs.frozen RY j
  have yl := RY.lt
  refine bodyPost_ret (v := .agg #[.int .i64 d.now, .slice nte d.tens.length qte, .slice nse d.seats.length qse, .slice ndi d.dials.length qdi, .slice nfl d.flights.length qfl, .bool d.drained]) (by simp [results, Tryz.results8, go_sem, *]) rfl ?_
  exact ⟨_, _, _, _, rfl, ⟨Ote.out.rd, Ose.out.rd, Odi.out.rd, Ofl.out.rd⟩, HB⟩
set_option maxHeartbeats 4000000 in
theorem eqGate1 (d : GtD) (vt vs vd vf ut us ud uf : Value) (w : World) (hv : GtRd w d vt vs vd vf) (hu : GtRd w d ut us ud uf) :
    Calls Tryz.prog 10 #[gtv d vt vs vd vf, gtv d ut us ud uf] w fun x w' => x = .returned (.bool true) ∧ Below w.heap.size w w' := by
  dsimp only [gtv] at *
  have HV := hide hv
  have HU := hide hu
  clear hv hu
  obtain ⟨ate, pte, rfl, _⟩ := HV.out.te.form
  obtain ⟨ase, pse, rfl, _⟩ := HV.out.se.form
  obtain ⟨adi, pdi, rfl, _⟩ := HV.out.di.form
  obtain ⟨afl, pfl, rfl, _⟩ := HV.out.fl.form
  obtain ⟨nte, qte, rfl, _⟩ := HU.out.te.form
  obtain ⟨nse, qse, rfl, _⟩ := HU.out.se.form
  obtain ⟨ndi, qdi, rfl, _⟩ := HU.out.di.form
  obtain ⟨nfl, qfl, rfl, _⟩ := HU.out.fl.form
  obtain ⟨W, hW⟩ : ∃ W, (w.alloc (.cells #[.int .i64 d.now, .slice ate d.tens.length pte, .slice ase d.seats.length pse, .slice adi d.dials.length pdi, .slice afl d.flights.length pfl, .bool d.drained] 35)).alloc (.cells #[.int .i64 d.now, .slice nte d.tens.length qte, .slice nse d.seats.length qse, .slice ndi d.dials.length qdi, .slice nfl d.flights.length qfl, .bool d.drained] 35) = W := ⟨_, rfl⟩
  have RX : RowIs W w.heap.size 35 [.int .i64 d.now, .slice ate d.tens.length pte, .slice ase d.seats.length pse, .slice adi d.dials.length pdi, .slice afl d.flights.length pfl, .bool d.drained] := by rw [← hW]; exact (rowIs_new w 35 [.int .i64 d.now, .slice ate d.tens.length pte, .slice ase d.seats.length pse, .slice adi d.dials.length pdi, .slice afl d.flights.length pfl, .bool d.drained]).alloc _
  have RY : RowIs W (w.heap.size + 1) 35 [.int .i64 d.now, .slice nte d.tens.length qte, .slice nse d.seats.length qse, .slice ndi d.dials.length qdi, .slice nfl d.flights.length qfl, .bool d.drained] := by have := rowIs_new (w.alloc (.cells #[.int .i64 d.now, .slice ate d.tens.length pte, .slice ase d.seats.length pse, .slice adi d.dials.length pdi, .slice afl d.flights.length pfl, .bool d.drained] 35)) 35 [.int .i64 d.now, .slice nte d.tens.length qte, .slice nse d.seats.length qse, .slice ndi d.dials.length qdi, .slice nfl d.flights.length qfl, .bool d.drained]; rw [hW] at this; simpa using this
  have HB : Below w.heap.size w W := by rw [← hW]; exact (((Below.refl _ _).alloc (Nat.le_refl _) _).alloc (by simp) _)
  have b0 : (d.now != d.now) = false := by simp
  go_enter Tryz.func10, Tryz.ntmps10
  have x0 := RowIs.cell (j := 0) RX rfl
  have x1 := RowIs.cell (j := 1) RX rfl
  have xf := fun j => RowIs.frozen RX j
  have xl := RX.lt
  have y0 := RowIs.cell (j := 0) RY rfl
  have y1 := RowIs.cell (j := 1) RY rfl
  have yf := fun j => RowIs.frozen RY j
  have yl := RY.lt
  go_wp2_with fail
  clear x0 x1 xf xl
  clear y0 y1 yf yl
  refine (eqTenantS d.tens _ _ _ (HV.out.te.new HB) (HU.out.te.new HB)).mono ?_; rintro x w1 ⟨rfl, hb⟩
  replace RX := RX.new hb
  replace RY := RY.new hb
  replace HB := bchain HB hb
  clear hb
  clear hW
  have x2 := RowIs.cell (j := 2) RX rfl
  have xf := fun j => RowIs.frozen RX j
  have xl := RX.lt
  have y2 := RowIs.cell (j := 2) RY rfl
  have yf := fun j => RowIs.frozen RY j
  have yl := RY.lt
  go_wp2_with fail
  clear x2 xf xl
  clear y2 yf yl
  refine (eqSeatS d.seats _ _ _ (HV.out.se.new HB) (HU.out.se.new HB)).mono ?_; rintro x w2 ⟨rfl, hb⟩
  replace RX := RX.new hb
  replace RY := RY.new hb
  replace HB := bchain HB hb
  clear hb
  have x3 := RowIs.cell (j := 3) RX rfl
  have xf := fun j => RowIs.frozen RX j
  have xl := RX.lt
  have y3 := RowIs.cell (j := 3) RY rfl
  have yf := fun j => RowIs.frozen RY j
  have yl := RY.lt
  go_wp2_with fail
  clear x3 xf xl
  clear y3 yf yl
  refine (eqDialS d.dials _ _ _ (HV.out.di.new HB) (HU.out.di.new HB)).mono ?_; rintro x w3 ⟨rfl, hb⟩
  replace RX := RX.new hb
  replace RY := RY.new hb
  replace HB := bchain HB hb
  clear hb
  have x4 := RowIs.cell (j := 4) RX rfl
  have xf := fun j => RowIs.frozen RX j
  have xl := RX.lt
  have y4 := RowIs.cell (j := 4) RY rfl
  have yf := fun j => RowIs.frozen RY j
  have yl := RY.lt
  go_wp2_with fail
  clear x4 xf xl
  clear y4 yf yl
  refine (eqFlightS d.flights _ _ _ (HV.out.fl.new HB) (HU.out.fl.new HB)).mono ?_; rintro x w4 ⟨rfl, hb⟩
  replace RX := RX.new hb
  replace RY := RY.new hb
  replace HB := bchain HB hb
  clear hb
  have x5 := RowIs.cell (j := 5) RX rfl
  have xf := fun j => RowIs.frozen RX j
  have xl := RX.lt
  have y5 := RowIs.cell (j := 5) RY rfl
  have yf := fun j => RowIs.frozen RY j
  have yl := RY.lt
  have c0 : (d.drained != d.drained) = false := by simp
  go_wp2_with fail
  go_ret
  exact ⟨rfl, HB⟩
set_option maxHeartbeats 4000000 in
theorem szGate1 (d : GtD) (vt vs vd vf : Value) (left : Int) (w : World) (hv : GtRd w d vt vs vd vf) (h0 : 0 ≤ left) (h1 : left ≤ 1048576) :
    Calls Tryz.prog 6 #[gtv d vt vs vd vf, .int .i64 left] w fun x w' => (x = .returned (.int .i64 (-1)) ∨ (x = .returned (.int .i64 (left - szGate d)) ∧ 0 ≤ left - szGate d)) ∧ Below w.heap.size w w' := by
  dsimp only [gtv] at *
  have HV := hide hv
  clear hv
  obtain ⟨ate, pte, rfl, _⟩ := HV.out.te.form
  obtain ⟨ase, pse, rfl, _⟩ := HV.out.se.form
  obtain ⟨adi, pdi, rfl, _⟩ := HV.out.di.form
  obtain ⟨afl, pfl, rfl, _⟩ := HV.out.fl.form
  obtain ⟨s1, s2, s3, s4⟩ := szGate_nn d
  unfold szGate
  have RX := rowIs_new w 27 [.int .i64 d.now, .slice ate d.tens.length pte, .slice ase d.seats.length pse, .slice adi d.dials.length pdi, .slice afl d.flights.length pfl, .bool d.drained]
  have HB : Below w.heap.size w (w.alloc (.cells #[.int .i64 d.now, .slice ate d.tens.length pte, .slice ase d.seats.length pse, .slice adi d.dials.length pdi, .slice afl d.flights.length pfl, .bool d.drained] 27)) := (Below.refl _ _).alloc (Nat.le_refl _) _
  obtain ⟨R, hR⟩ : ∃ R, left - (szTenantS d.tens + szSeatS d.seats + szDialS d.dials + szFlightS d.flights) = R := ⟨_, rfl⟩
  rw [hR]
  go_enter Tryz.func6, Tryz.ntmps6
  go_wp2_with fail
  refine (szTenantS1 d.tens _ left _ (HV.out.te.new HB) (by omega) (by omega)).mono ?_; rintro x u0 ⟨rfl | ⟨rfl, hp0⟩, hb⟩
  · replace HB := bchain HB hb
    go_wp2_with fail
    go_ret
    exact ⟨.inl rfl, HB⟩
  obtain ⟨q0, hq0⟩ : ∃ q, left - szTenantS d.tens = q := ⟨_, rfl⟩
  rw [hq0] at hp0 ⊢
  have hn0 : ¬ q0 < 0 := by omega
  replace RX := RX.new hb
  replace HB := bchain HB hb
  clear hb
  have x2 := RowIs.cell (j := 2) RX rfl
  have xf := fun j => RowIs.frozen RX j
  have xl := RX.lt
  go_wp2_with fail
  clear x2 xf xl
  refine (szSeatS1 d.seats _ q0 _ (HV.out.se.new HB) (by omega) (by omega)).mono ?_; rintro x u1 ⟨rfl | ⟨rfl, hp1⟩, hb⟩
  · replace HB := bchain HB hb
    go_wp2_with fail
    go_ret
    exact ⟨.inl rfl, HB⟩
  obtain ⟨q1, hq1⟩ : ∃ q, q0 - szSeatS d.seats = q := ⟨_, rfl⟩
  rw [hq1] at hp1 ⊢
  have hn1 : ¬ q1 < 0 := by omega
  replace RX := RX.new hb
  replace HB := bchain HB hb
  clear hb
  have x3 := RowIs.cell (j := 3) RX rfl
  have xf := fun j => RowIs.frozen RX j
  have xl := RX.lt
  go_wp2_with fail
  clear x3 xf xl
  refine (szDialS1 d.dials _ q1 _ (HV.out.di.new HB) (by omega) (by omega)).mono ?_; rintro x u2 ⟨rfl | ⟨rfl, hp2⟩, hb⟩
  · replace HB := bchain HB hb
    go_wp2_with fail
    go_ret
    exact ⟨.inl rfl, HB⟩
  obtain ⟨q2, hq2⟩ : ∃ q, q1 - szDialS d.dials = q := ⟨_, rfl⟩
  rw [hq2] at hp2 ⊢
  have hn2 : ¬ q2 < 0 := by omega
  replace RX := RX.new hb
  replace HB := bchain HB hb
  clear hb
  have x4 := RowIs.cell (j := 4) RX rfl
  have xf := fun j => RowIs.frozen RX j
  have xl := RX.lt
  go_wp2_with fail
  clear x4 xf xl
  refine (szFlightS1 d.flights _ q2 _ (HV.out.fl.new HB) (by omega) (by omega)).mono ?_; rintro x u3 ⟨rfl | ⟨rfl, hp3⟩, hb⟩
  · replace HB := bchain HB hb
    go_wp2_with fail
    go_ret
    exact ⟨.inl rfl, HB⟩
  have hq3 : q2 - szFlightS d.flights = R := by omega
  rw [hq3] at hp3 ⊢
  have hn3 : ¬ R < 0 := by omega
  replace RX := RX.new hb
  replace HB := bchain HB hb
  clear hb
  clear hR hq0 hq1 hq2 hq3
  go_wp2_with fail
  go_ret
  exact ⟨.inr ⟨rfl, hp3⟩, HB⟩
open Go.ChangeShapes Go.WideShapes Go.ChangeAt Go.Joins in
theorem open_Gate {H : Type} {enc : TypeId × Value → H} {W : World} {base : Nat} {v : Value} {d : DataW H} {p : List MemPlace} (hv : Value.okWide Tryz.prog W .any base 27 v)
    (h : DataW.Trod enc Tryz.prog W 0 (fun _ => true) true 27 v d p) : ∃ (d : GtD) (vt vs vd vf : Value), v = gtv d vt vs vd vf ∧ GtRd W d vt vs vd vf := by
  obtain ⟨cs, rfl, hsz⟩ := okWide_struct Tryz.underlying27 hv
  have hc : Tryz.prog.cellsOf 27 = 6 := by kernel_rfl
  obtain ⟨fuel, hfu⟩ := h
  obtain ⟨l⟩ := cs
  have hlen : l.length = 6 := hsz.trans hc
  match l, hlen with
  | [c0, c1, c2, c3, c4, c5], _ =>
  obtain ⟨m, hl, hf⟩ := trod_part Tryz.underlying27 hfu
  simp only [List.forall_mem_cons, List.not_mem_nil, false_imp_iff, implies_true, and_true] at hf
  obtain ⟨⟨y0, h0⟩, ⟨y1, h1⟩, ⟨y2, h2⟩, ⟨y3, h3⟩, ⟨y4, h4⟩, ⟨y5, h5⟩⟩ := hf
  have k0 : Tryz.prog.cellsOf 2 = 1 := by kernel_rfl
  have k1 : Tryz.prog.cellsOf 22 = 1 := by kernel_rfl
  have k2 : Tryz.prog.cellsOf 23 = 1 := by kernel_rfl
  have k3 : Tryz.prog.cellsOf 24 = 1 := by kernel_rfl
  have k4 : Tryz.prog.cellsOf 25 = 1 := by kernel_rfl
  have k5 : Tryz.prog.cellsOf 4 = 1 := by kernel_rfl
  simp only [Value.cells, k0, k1, k2, k3, k4, k5, List.drop_zero, List.drop_succ_cons, List.take_succ_cons, List.take_zero] at h0 h1 h2 h3 h4 h5
  obtain ⟨a0, e0, _⟩ := DataW.trod_int Tryz.underlying2 h0
  obtain ⟨L1, hL1⟩ := open_shape (E := tenantS) zTn Tryz.underlying22 (by kernel_rfl) (fun cs n y hy => open_cellsTenant hy) h1
  obtain ⟨L2, hL2⟩ := open_shape (E := seatS) zSt Tryz.underlying23 (by kernel_rfl) (fun cs n y hy => open_cellsSeat hy) h2
  obtain ⟨L3, hL3⟩ := open_shape (E := dialS) zDl Tryz.underlying24 (by kernel_rfl) (fun cs n y hy => open_cellsDial hy) h3
  obtain ⟨L4, hL4⟩ := open_shape (E := flightS) zFg Tryz.underlying25 (by kernel_rfl) (fun cs n y hy => open_cellsFlight hy) h4
  obtain ⟨b5, e5, _⟩ := DataW.trod_bool Tryz.underlying4 h5
  simp only [List.cons.injEq, and_true] at e0 e5
  subst e0 e5
  exact ⟨⟨a0, L1, L2, L3, L4, b5⟩, c1, c2, c3, c4, rfl, hL1, hL2, hL3, hL4⟩
end Go.Proofs.YtkhclhnejnpkeaaGreat
