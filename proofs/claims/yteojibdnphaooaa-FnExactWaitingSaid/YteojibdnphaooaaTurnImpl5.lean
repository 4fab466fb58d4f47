/- Chapter 11's program: Served. -/
import Derived.Test.YteojibdnphaooaaTurnImpl3
import Derived.Test.YteojibdnphaooaaTurnImpl4
import Derived.Test.YteojibdnphaooaaTurnServed


namespace Go.Proofs.Yteojibdnphaooaa
open Go.RowKit
set_option maxRecDepth 100000
set_option linter.unusedSimpArgs false
set_option linter.unusedVariables false
theorem TurnB.below2 {B g gl : Nat} {a b : World} (h : TurnB [g, gl] a b) (h1 : B ≤ g) (h2 : B ≤ gl) (h3 : B ≤ a.heap.size) : Below B a b := ⟨h.os, h.tape, h.output, h.size, fun k hk => h.block k (by omega) (by simp; omega)⟩
theorem OwX.drew {D : Type} {E : Shp D} {w : World} {lo hi : Nat} {v : Value} {L : List D} (h : OwX E w lo hi v L) : OwX E w.drew lo hi v L := h.new (Below.refl _ _).drew
theorem mod_next {T m c : Nat} (hc : 0 < c) : ((T : Int) + m) % c = ((T + m : Nat) : Int) % c := by simp
theorem turn_next (T : Int) (m c : Nat) : ((T + (m : Int)) % (c : Int) + 1) % (c : Int) = (T + ((m + 1 : Nat) : Int)) % c := by
  rw [Int.emod_add_emod]; congr 1; omega
set_option maxRecDepth 100000 in
set_option maxHeartbeats 4000000 in
theorem implServed (d : RoundD) (v : Value) (w : World) (hr : RdR lineS w v d.ls) : Calls Try.prog 11 #[.agg #[.int .i64 d.turn, .bool d.given, v]] w fun x w' => ∃ v', x = .returned (.tuple #[.agg #[.int .i64 (servedD d).1.turn, .bool (servedD d).1.given, v'], .int .i64 (servedD d).2.1, .int .i64 (servedD d).2.2]) ∧ OwX lineT w' w.heap.size w'.heap.size v' (servedD d).1.ls ∧ Below w.heap.size w w' := by
  obtain ⟨ad, cap, rfl, h1, h2⟩ := hr.form
  have HR := hide hr
  clear hr
  have hok := fun w h => rright d (.slice ad d.ls.length cap) w h
  obtain ⟨⟨dr, da, db⟩, hD⟩ : ∃ y, servedD d = y := ⟨_, rfl⟩
  have HD : Hid ((dr, da, db) = if okRn d = true then serveRaw d else (zRn, -1, 0)) := by show _ = _; rw [← hD]; rfl
  rw [hD]
  dsimp only
  clear hD
  go_enter Try.func11, Try.ntmps11
  go_wp2_with fail
  obtain ⟨V, hV⟩ : ∃ V, (w.alloc (.cells #[.int .i64 d.turn, .bool d.given, .slice ad d.ls.length cap] 26)).alloc (.cells #[.int .i64 0, .bool false, .slice none 0 0] 26) = V := ⟨_, rfl⟩
  have HB : Hid (Below w.heap.size w V) := by show Below _ _ _; rw [← hV]; exact bo_alloc ((Below.refl _ _).alloc (Nat.le_refl _) _) _
  have HX : Hid (RowIs V w.heap.size 26 [.int .i64 d.turn, .bool d.given, .slice ad d.ls.length cap]) := by show RowIs _ _ _ _; rw [← hV]; exact (rowIs_new w 26 [.int .i64 d.turn, .bool d.given, .slice ad d.ls.length cap]).alloc _
  have HRR : Hid (RowIs V (w.heap.size + 1) 26 [.int .i64 0, .bool false, .slice none 0 0]) := by show RowIs _ _ _ _; rw [← hV]; simpa using rowIs_new (w.alloc (.cells #[.int .i64 d.turn, .bool d.given, .slice ad d.ls.length cap] 26)) 26 [.int .i64 0, .bool false, .slice none 0 0]
  rw [hV]
  clear hV
  refine (hok _ (HR.out.new HB.out)).mono ?_
  cases hq : okRn d
  · rintro z w1 ⟨rfl, hb1⟩
    have HDD : Hid ((dr, da, db) = (zRn, -1, 0)) := by show _ = _; rw [HD.out, if_neg (by rw [hq]; simp)]
    obtain ⟨rfl, e2⟩ := Prod.mk.inj HDD.out
    obtain ⟨rfl, rfl⟩ := Prod.mk.inj e2
    replace HRR := hide (HRR.out.new hb1)
    replace HB := hide (bchain HB.out hb1)
    clear hb1 HD HDD e2
    have r0 := HRR.out.cell (j := 0) rfl; have r1 := HRR.out.cell (j := 1) rfl; have r2 := HRR.out.cell (j := 2) rfl; have r3 := HRR.out.frozen 0; have r4 := HRR.out.frozen 1; have r5 := HRR.out.frozen 2; have r6 := HRR.out.lt
    go_wp2_with fail
    refine bodyPost_ret (v := (.tuple #[.agg #[.int .i64 0, .bool false, .slice none 0 0], .int .i64 (-1), .int .i64 0])) (by simp [results, Try.results11, go_sem, *]) rfl ?_
    exact ⟨_, rfl, owX_nil _ _ _, by repeat' (first | (with_reducible exact HB.out) | (with_reducible refine Below.setCell ?_ ?_ _) | (with_reducible refine Below.alloc ?_ ?_ _) | (with_reducible refine Below.drew ?_) | (with_reducible refine bo_drewN _ ?_) | omega | (simp; done) | (simp; omega))⟩
  rintro z w1 ⟨rfl, hb1⟩
  obtain ⟨⟨hl1, hl6⟩, ⟨ht0, ht1⟩, _⟩ := okRn_iff.1 hq
  have HDD : Hid (serveRaw d = (dr, da, db)) := by show _ = _; rw [HD.out, if_pos hq]
  replace HX := hide (HX.out.new hb1)
  replace HRR := hide (HRR.out.new hb1)
  replace HB := hide (bchain HB.out hb1)
  have hlr := HRR.out.lt
  clear hb1 HD hok
  have HQ := hide hq
  clear hq
  have x0 := HX.out.cell (j := 0) rfl; have x1 := HX.out.cell (j := 1) rfl; have x2 := HX.out.cell (j := 2) rfl; have x3 := HX.out.frozen 0; have x4 := HX.out.frozen 1; have x5 := HX.out.frozen 2; have x6 := HX.out.lt
  go_wp2_with fail
  refine (rapart d _ _ (HR.out.new HB.out) HQ.out).mono ?_
  rintro z w2 ⟨vc, rfl, hox, hb2⟩
  obtain ⟨gl, vp, rfl, hrn⟩ := rnIs_new hox hl1
  replace HRR := hide (HRR.out.new hb2)
  replace HB := hide (bchain HB.out hb2)
  have hs2 := hb2.size
  clear hb2 hox x0 x1 x2 x3 x4 x5 x6 HX
  go_upto_region 4 with fail
  have hb3 : Below w2.heap.size w2 (w2.alloc (.cells #[.int .i64 d.turn, .bool d.given, .slice (some ⟨gl, 0, none⟩) d.ls.length vp] 26)) := (Below.refl _ _).alloc (Nat.le_refl _) _
  have HN := hide hrn
  clear hrn
  have hs3 : (w2.alloc (.cells #[.int .i64 d.turn, .bool d.given, .slice (some ⟨gl, 0, none⟩) d.ls.length vp] 26)).heap.size = w2.heap.size + 1 := by simp
  generalize w2.alloc (.cells #[.int .i64 d.turn, .bool d.given, .slice (some ⟨gl, 0, none⟩) d.ls.length vp] 26) = w3 at *
  replace HRR := hide (HRR.out.new hb3)
  replace HB := hide (bchain HB.out hb3)
  clear hb3
  have hwt := rwaiting d _ w3 HN.out.rd HQ.out
  have HN2 := hide HN.out.toT
  have HT := hide HN.out.row
  have hgt : w2.heap.size ≠ w.heap.size + 1 := by omega
  obtain ⟨hgl, hlg, hgh, hgg, _⟩ := HN2.out.line 0 (by omega)
  clear HN
  generalize hg8 : w2.heap.size = g8 at *
  rw [hs3] at hgl hgh HN2
  cases hw : decide (waitLs d.ls = 0)
  rotate_left
  · have hw0 := of_decide_eq_true hw
    have hv : serveRaw d = (d, -1, 0) := by unfold serveRaw; rw [if_pos hw0]
    have HE2 : Hid ((dr, da, db) = (d, -1, 0)) := by show _ = _; rw [← HDD.out, hv]
    obtain ⟨rfl, e2⟩ := Prod.mk.inj HE2.out
    obtain ⟨rfl, rfl⟩ := Prod.mk.inj e2
    rw [hw0] at hwt
    clear hw hw0 hv HE2 e2 HDD
    have t0 := HT.out.cell (j := 0) rfl; have t1 := HT.out.cell (j := 1) rfl; have t2 := HT.out.cell (j := 2) rfl; have t3 := HT.out.frozen 0; have t4 := HT.out.frozen 1; have t5 := HT.out.frozen 2; have t6 := HT.out.lt
    go_wp2_with fail
    refine hwt.mono ?_
    rintro z w4 ⟨rfl, hb4⟩
    replace HRR := hide (HRR.out.new hb4)
    replace HB := hide (bchain HB.out hb4)
    have HT4 := hide (HT.out.new hb4)
    have HN4 := hide (HN2.out.new hb4)
    have HO := hide HN4.out.owx
    have hs4 := hb4.size
    clear hwt hb4 t0 t1 t2 t3 t4 t5 t6 HT HN2
    have t0 := HT4.out.cell (j := 0) rfl; have t1 := HT4.out.cell (j := 1) rfl; have t2 := HT4.out.cell (j := 2) rfl; have t3 := HT4.out.frozen 0; have t4 := HT4.out.frozen 1; have t5 := HT4.out.frozen 2; have t6 := HT4.out.lt
    have r0 := HRR.out.cell (j := 0) rfl; have r1 := HRR.out.cell (j := 1) rfl; have r2 := HRR.out.cell (j := 2) rfl; have r3 := HRR.out.frozen 0; have r4 := HRR.out.frozen 1; have r5 := HRR.out.frozen 2; have r6 := HRR.out.lt
    go_wp2_with fail
    refine bodyPost_ret (v := (.tuple #[.agg #[.int .i64 dr.turn, .bool dr.given, .slice (some ⟨gl, 0, none⟩) dr.ls.length vp], .int .i64 (-1), .int .i64 0])) (by simp [results, Try.results11, go_sem, *]) rfl ?_
    refine ⟨_, rfl, ?_, by repeat' (first | (with_reducible exact HB.out) | (with_reducible refine Below.setCell ?_ ?_ _) | (with_reducible refine Below.alloc ?_ ?_ _) | (with_reducible refine Below.drew ?_) | (with_reducible refine bo_drewN _ ?_) | omega | (simp; done) | (simp; omega))⟩
    refine (OwX.wide (lo := w1.heap.size) (hi := g8 + 1) (lo' := w.heap.size) (hi' := w4.heap.size) ?_ (by omega) (by omega)).top
    (repeat' (first | (with_reducible exact HO.out) | (with_reducible refine OwX.far ?_ _ _ ?_) | (simp; done) | (simp; omega)))
  have hw0 := of_decide_eq_false hw
  obtain ⟨A, hA⟩ : ∃ A, serveRaw d = A := ⟨_, rfl⟩
  have HA : Hid (srv (d.ls.length + 1) d = A) := by show _ = A; rw [← hA]; unfold serveRaw; rw [if_neg hw0]
  have HG : Hid (Good (d.ls.length + 1) d) := good_start HQ.out hw0
  have hwz : (waitLs d.ls == 0) = false := by simpa using hw0
  have HAD : Hid (A = (dr, da, db)) := by show _ = _; rw [← hA]; exact HDD.out
  generalize waitLs d.ls = q at *
  clear hA hw hw0 HDD
  have t0 := HT.out.cell (j := 0) rfl; have t1 := HT.out.cell (j := 1) rfl; have t2 := HT.out.cell (j := 2) rfl; have t3 := HT.out.frozen 0; have t4 := HT.out.frozen 1; have t5 := HT.out.frozen 2; have t6 := HT.out.lt
  go_wp2_with fail
  refine hwt.mono ?_
  rintro z w4 ⟨rfl, hb4⟩
  replace HRR := hide (HRR.out.new hb4)
  replace HB := hide (bchain HB.out hb4)
  have HT4 := hide (HT.out.new hb4)
  have HN4 := hide (HN2.out.new hb4)
  have hs4 := hb4.size
  clear hwt hb4 t0 t1 t2 t3 t4 t5 t6 HT HN2
  have htn := vturns d.ls.length d.turn w4 hl1 hl6 ht0 ht1
  have t0 := HT4.out.cell (j := 0) rfl; have t1 := HT4.out.cell (j := 1) rfl; have t2 := HT4.out.cell (j := 2) rfl; have t3 := HT4.out.frozen 0; have t4 := HT4.out.frozen 1; have t5 := HT4.out.frozen 2; have t6 := HT4.out.lt
  go_wp2_with fail
  refine htn.mono ?_
  rintro z w5 ⟨gq, vq, rfl, hgq, hvq, hb5⟩
  replace HRR := hide (HRR.out.new hb5)
  replace HB := hide (bchain HB.out hb5)
  have HN5 := hide (HN4.out.new hb5)
  have HV5 := hide hvq
  have hs5 := hb5.size
  clear htn hvq hb5 t0 t1 t2 t3 t4 t5 t6 HT4 HN4
  go_wp2_with fail
  have hc : d.ls.length ≠ 0 := by omega
  have HT0 : Hid (d.turn = (d.turn + ((0 : Nat) : Int)) % (d.ls.length : Int)) := by show _ = _; rw [Int.emod_eq_of_lt (by omega) (by omega)]; omega
  obtain ⟨B4, hB4⟩ : ∃ B4, w4.heap.size = B4 := ⟨_, rfl⟩
  rw [hB4] at hgq HV5 hs4 hs5
  obtain ⟨B1, hB1⟩ : ∃ B1, w1.heap.size = B1 := ⟨_, rfl⟩
  rw [hB1] at hlr hs2 hlg HN5
  go_loopg [7] (d.ls.length + 1) (fun f s wr => ∃ (rd : RoundD) (m : Nat) (v : Value), Hid (rd.ls.length = d.ls.length) ∧ Hid (okRn rd = true) ∧ Hid (Good f rd) ∧ Hid (srv f rd = A) ∧ f + m = d.ls.length + 1 ∧ Hid (rd.turn = (d.turn + (m : Int)) % (d.ls.length : Int)) ∧ B4 ≤ wr.heap.size ∧ Hid (RnT wr g8 B1 (g8 + 1) gl vp rd) ∧ Hid (VAt wr gq B4 v d.turn d.ls.length (hp d.ls.length m)) ∧ Hid (RowIs wr (w.heap.size + 1) 26 [.int .i64 0, .bool false, .slice none 0 0]) ∧ Hid (Below w.heap.size w wr))
  case atStart => exact ⟨d, 0, vq, hide rfl, HQ, HG, HA, by omega, HT0, hs5, HN5, HV5, HRR, HB⟩
  case round =>
    clear HRR HB HN5 HV5 HA HG HT0
    obtain ⟨rd, m, v, HL, HOK, HG, HA, hfm, HTM, hB4r, HN, HV, HRR, HB⟩ := hrel
    obtain ⟨f, rfl⟩ : ∃ q, gk = q + 1 := by
      cases gk with
      | zero => obtain ⟨d', hd', _⟩ := HG.out; omega
      | succ f => exact ⟨f, rfl⟩
    have hcall := serveTurn1 rd g8 B1 (g8 + 1) gl vp wr HN.out HOK.out
    go_wp2_with fail
    refine hcall.mono ?_
    clear hcall
    rintro z wa (⟨rfl, hno⟩ | ⟨n, rfl, hyes⟩)
    · obtain ⟨y, gv, hsv, hna, hta⟩ := hno
      obtain ⟨T, hT, hTl, l, hy, hoky, _⟩ := one_none HOK.out hsv
      have HOKY := hide hoky
      have HGY := hide (good_step HOK.out HG.out hsv)
      have HAY : Hid (srv f y = A) := by show _ = A; rw [← HA.out, srv_step hsv]
      have HYL : Hid (y.ls.length = d.ls.length) := by show _ = _; rw [hy]; simp only [List.length_set]; exact HL.out
      have hfpos : 1 ≤ f := by obtain ⟨d', hd', _⟩ := HGY.out; omega
      have HYT : Hid (y.turn = (d.turn + ((m + 1 : Nat) : Int)) % (d.ls.length : Int)) := by
        show _ = _
        rw [hy]
        simp only
        rw [HL.out, HTM.out]
        exact turn_next _ _ _
      have HYG : Hid (y.given = false) := by show _ = _; rw [hy]
      have HVa := hide (HV.out.kept (w' := wa) (fun b hb hbl => hta.block b hbl (by simp; omega)))
      have hsa := hta.size
      have HRa := hide (HRR.out.kept (hta.block _ (by omega) (by simp; omega)))
      have HBa := hide (HB.out.trans (hta.below2 (B := w.heap.size) (by omega) (by omega) (by omega)))
      have HNa := hide hna
      clear hna hta hsv hy HV HRR HB HN HG HA HOK hoky hT hTl
      have hnx := vnext d.ls.length m d.turn d.ls.length v B4 gq wa HVa.out hl6 (by omega)
      generalize hqt : (d.turn + ((m + 1 : Nat) : Int)) % (d.ls.length : Int) = qt at *
      have HQT := hide hqt
      clear hqt
      go_wp2_with fail
      refine hnx.mono ?_
      clear hnx
      rintro z wb ⟨rfl, ⟨v2, hv2⟩, hkb⟩
      have hbb := hkb.2 B4 (Nat.le_refl _) hgq (by omega)
      have HNb := hide (HNa.out.below hbb (by omega) (by omega))
      have HVb := hide hv2
      have hsb := hbb.size
      have HRb := hide (HRa.out.kept (hbb.block _ (by omega)))
      have HBb := hide (HBa.out.trans (hbb.mono (by omega)))
      clear hv2 hkb hbb HNa HVa HRa HBa
      have r0 := HNb.out.row.cell (j := 0) rfl
      have r1 := HNb.out.row.cell (j := 1) rfl
      have r9 := fun q => HNb.out.row.frozen q
      have hlr9 := HNb.out.row.lt
      have HNc := hide ((HNb.out.turnTo qt).given false)
      have hne1 : gq ≠ g8 := by omega
      have HVc : Hid (VAt ((wb.setCell ⟨g8, 0, none⟩ (.int .i64 qt)).setCell ⟨g8, 1, none⟩ (.bool false)) gq B4 v2 d.turn d.ls.length (hp d.ls.length (m + 1))) := (HVb.out.far _ _ (show g8 ≠ gq by omega) (fun e => by have := (HVb.out.own.lt _ e).1; simp at this; omega)).far _ _ (show g8 ≠ gq by omega) (fun e => by have := (HVb.out.own.lt _ e).1; simp at this; omega)
      have HRc := hide ((HRb.out.far ⟨g8, 0, none⟩ (.int .i64 qt) (show g8 ≠ w.heap.size + 1 by omega)).far ⟨g8, 1, none⟩ (.bool false) (show g8 ≠ w.heap.size + 1 by omega))
      have HBc := hide ((HBb.out.setCell (p := ⟨g8, 0, none⟩) (show w.heap.size ≤ g8 by omega) (.int .i64 qt)).setCell (p := ⟨g8, 1, none⟩) (show w.heap.size ≤ g8 by omega) (.bool false))
      have hsc : B4 ≤ ((wb.setCell ⟨g8, 0, none⟩ (.int .i64 qt)).setCell ⟨g8, 1, none⟩ (.bool false)).heap.size := by simp; omega
      have HNd : Hid (RnT ((wb.setCell ⟨g8, 0, none⟩ (.int .i64 qt)).setCell ⟨g8, 1, none⟩ (.bool false)) g8 B1 (g8 + 1) gl vp y) := by
        have h9 := HNc.out
        have e : (⟨qt, false, y.ls⟩ : RoundD) = y := by rw [← HYT.out, ← HYG.out]
        dsimp only at h9
        rw [e] at h9
        exact h9
      rw [← HQT.out] at HYT
      clear HNc HNb HVb HRb HBb
      go_wp2_with fail
      go_roundg f
      case measure => omega
      case rel => exact ⟨y, m + 1, v2, HYL, HOKY, HGY, HAY, by omega, HYT, hsc, HNd, HVc, HRc, HBc⟩
    · obtain ⟨y, hsv, hn1, hna, hta⟩ := hyes
      obtain ⟨T, hT, hTl, hTT, rest, _, _, hy, hoky⟩ := one_some HOK.out hsv
      have HE : Hid (A = (y, rd.turn, n)) := by show A = _; rw [← HA.out, srv_end hsv]
      have HEE : Hid ((dr, da, db) = (y, rd.turn, n)) := by show _ = _; rw [← HAD.out, HE.out]
      have hyt : y.turn = rd.turn := by rw [hy]
      obtain ⟨rfl, e2⟩ := Prod.mk.inj HEE.out
      obtain ⟨rfl, rfl⟩ := Prod.mk.inj e2
      have hsa := hta.size
      have HRa := hide (HRR.out.kept (hta.block _ (by omega) (by simp; omega)))
      have HBa := hide (HB.out.trans (hta.below2 (B := w.heap.size) (by omega) (by omega) (by omega)))
      have HNa := hide hna
      have HDL : Hid (dr.ls.length = d.ls.length) := by show _ = _; rw [hy]; simp only [List.length_set]; exact HL.out
      have HYT := hide hyt
      clear hna hta hsv hy HV HRR HB HN HG HA HOK hoky hT hTl HE HEE e2 hyt HTM hTT
      have hn0 : (0 : Int) < db := by omega
      have HT := hide HNa.out.row
      have HO := hide HNa.out.owx
      rw [HDL.out] at HT HO
      have HBd := hide HBa.out.drew
      have HOd := hide HO.out.drew
      have HTd : Hid (RowIs wa.drew g8 26 [.int .i64 dr.turn, .bool dr.given, .slice (some ⟨gl, 0, none⟩) d.ls.length vp]) := HT.out
      have HRd : Hid (RowIs wa.drew (w.heap.size + 1) 26 [.int .i64 0, .bool false, .slice none 0 0]) := HRa.out
      have hsd : wa.drew.heap.size = wa.heap.size := rfl
      have td0 := HTd.out.cell (j := 0) rfl; have td1 := HTd.out.cell (j := 1) rfl; have td2 := HTd.out.cell (j := 2) rfl; have td3 := HTd.out.frozen 0; have td4 := HTd.out.frozen 1; have td5 := HTd.out.frozen 2; have td6 := HTd.out.lt
      have rd0 := HRd.out.cell (j := 0) rfl; have rd1 := HRd.out.cell (j := 1) rfl; have rd2 := HRd.out.cell (j := 2) rfl; have rd3 := HRd.out.frozen 0; have rd4 := HRd.out.frozen 1; have rd5 := HRd.out.frozen 2; have rd6 := HRd.out.lt
      have t0 := HT.out.cell (j := 0) rfl; have t1 := HT.out.cell (j := 1) rfl; have t2 := HT.out.cell (j := 2) rfl; have t3 := HT.out.frozen 0; have t4 := HT.out.frozen 1; have t5 := HT.out.frozen 2; have t6 := HT.out.lt
      have r0 := HRa.out.cell (j := 0) rfl; have r1 := HRa.out.cell (j := 1) rfl; have r2 := HRa.out.cell (j := 2) rfl; have r3 := HRa.out.frozen 0; have r4 := HRa.out.frozen 1; have r5 := HRa.out.frozen 2; have r6 := HRa.out.lt
      go_wp2_with fail
      go_region
      go_wp2_with fail
      refine bodyPost_ret (v := (.tuple #[.agg #[.int .i64 dr.turn, .bool dr.given, .slice (some ⟨gl, 0, none⟩) d.ls.length vp], .int .i64 dr.turn, .int .i64 db])) (by simp [results, Try.results11, go_sem, *]) rfl ?_
      refine ⟨_, by rw [HYT.out], ?_, ?_⟩
      · refine OwX.drew (OwX.wide (lo := B1) (hi := g8 + 1) (lo' := w.heap.size) ?_ (by omega) (by simp; omega))
        exact ((HO.out.far _ _ (.inl (by show w.heap.size + 1 < B1; omega))).far _ _ (.inl (by show w.heap.size + 1 < B1; omega))).far _ _ (.inl (by show w.heap.size + 1 < B1; omega))
      · exact (((HBa.out.setCell (p := ⟨w.heap.size + 1, 0, none⟩) (show w.heap.size ≤ w.heap.size + 1 by omega) _).setCell (p := ⟨w.heap.size + 1, 1, none⟩) (show w.heap.size ≤ w.heap.size + 1 by omega) _).setCell (p := ⟨w.heap.size + 1, 2, none⟩) (show w.heap.size ≤ w.heap.size + 1 by omega) _).drew
end Go.Proofs.Yteojibdnphaooaa
