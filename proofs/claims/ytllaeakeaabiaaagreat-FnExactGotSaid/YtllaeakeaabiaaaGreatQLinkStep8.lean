/- The program's link: a frame of data; whatever frame; what gave up is told. -/
import Derived.Test.YtllaeakeaabiaaaGreatQLinkStep7
namespace Go.Proofs.YtllaeakeaabiaaaGreat
open Go.RowKit
set_option maxRecDepth 100000
set_option linter.unusedSimpArgs false
set_option linter.unusedVariables false
set_option maxHeartbeats 8000000 in
theorem implGotData (lo g : Nat) (d : CnD) (L : List Fr) (bs : List Nat) (f : Fr) (w : World) (h : LkM w lo g d L bs) (hok : okCn d = true) (hL : L.length ≤ 999990) (hf : okFr f = true) (hk1 : f.k = 1) :
    Calls Tryz.prog 132 #[.pointer (some ⟨g, 0, none⟩), .agg #[.int .i64 f.k, .int .i64 f.fl, .int .i64 f.st, .string f.b]] w fun x w' => x = endO (dataO d f) ∧ ∃ bx, Lnk lo g w bs w' (dataO d f).1 (L ++ (dataO d f).2.1) bx := by
  have hq := h.far (Nat.le_refl _)
  obtain ⟨V, hV⟩ : ∃ V, w.alloc (.cells #[.int .i64 f.k, .int .i64 f.fl, .int .i64 f.st, .string f.b] 48) = V := ⟨_, rfl⟩; have hBV : Below w.heap.size w V := (by rw [← hV]; exact (Below.refl _ _).alloc (Nat.le_refl _) _); have hRV : RowIs V w.heap.size 48 [.int .i64 f.k, .int .i64 f.fl, .int .i64 f.st, .string f.b] := (by rw [← hV]; exact rowIs_new w 48 _)
  have hm := h.new hBV
  obtain ⟨q1, q2, q3, q4, q5, _, _, q8, _⟩ := fr_kinds hf
  have hst : f.st ≠ 0 := by have := q8 (.inl hk1); omega
  have hwg := (cn_wins hok).1
  have HB := hide hBV; have HR := hide hRV; have HM := hide hm; have HQ := hide hq
  have HQL := hide hRV.lt
  have HK1 := hide hk1; have HST := hide hst; have HFO := hide hf; have HOK := hide hok
  obtain ⟨E, hE⟩ : ∃ E, dataO d f = E := ⟨_, rfl⟩
  rw [hE]
  have HE := hide hE
  obtain ⟨gt, ft, hus⟩ : ∃ gt ft, usV d.get f.b.size = (gt, ft) := ⟨_, _, rfl⟩
  have HUS := hide hus
  obtain ⟨⟨ve, vi, vo, vf, tv, cb, hrow, hc, h3, h4, h5⟩, hl, hlo, hng, hbs⟩ := hm
  have HROW := hide hrow
  have x7 := RowIs.cell (j := 7) hrow rfl
  have r3 := RowIs.cell (j := 3) hRV rfl
  clear hE hus hrow hc h3 h4 h5 hl hlo hng hbs hq hBV hRV h hk1 hst hf hok q8
  go_enter Tryz.func132, Tryz.ntmps132
  go_wp2_with fail
  try rw [hV]
  clear hV
  refine (implUsed d.get f.b.size _).mono ?_; rw [HUS.out]; rintro x w1 ⟨rfl, hb1⟩
  replace HM := hide (HM.out.new hb1)
  replace HB := hide (bchain HB.out hb1)
  replace HR := hide (HR.out.new hb1)
  have hr1 := HROW.out.new hb1
  clear hb1 x7 r3 HROW
  have x7 := RowIs.cell (j := 7) hr1 rfl
  have xf := RowIs.frozen hr1 7
  have xl := hr1.lt
  have HL := hide (HM.out.setGet gt)
  have HR2 := hide (HR.out.far ⟨g, 7, none⟩ (.int .i64 gt) (fun e => HQ.out (by simp [← e])))
  clear hr1 HM HR
  go_upto_region 3 with fail
  generalize w1.setCell ⟨g, 7, none⟩ (.int .i64 gt) = W at *
  clear x7 xf xl
  cases ft
  · have hgt := us_no HUS.out
    subst hgt
    have hlt : d.get < (f.b.size : Int) := by
      by_cases hc : d.get < (f.b.size : Int)
      · exact hc
      · have := us_fits (w := d.get) (k := f.b.size) (win_of (by omega) (by omega)) (by omega) (by omega)
        rw [HUS.out] at this
        cases (Prod.mk.inj this).2
    have hE0 : E = (d, [], some (0, 2)) := by rw [← HE.out]; unfold dataO; dsimp only; rw [if_pos hlt]
    subst hE0
    have HF := hide (Lnk.after HB.out HL.out)
    clear HE HL hlt
    go_wp2_with fail
    refine ⟨rfl, rfl, bs, ?_⟩
    (try rw [List.append_nil]); exact HF.out
  obtain ⟨_, _, hle, rfl⟩ := us_yes HUS.out
  have hng : ¬ d.get < (f.b.size : Int) := by omega
  obtain ⟨D, hD⟩ : ∃ D : CnD, ({ d with get := d.get - f.b.size } : CnD) = D := ⟨_, rfl⟩
  rw [hD] at HL
  have hokD : okCn D = true := by rw [← hD]; exact get_ok HOK.out (win_of (by omega) (by omega))
  have hreg : D.reg = d.reg := by rw [← hD]
  have hgd : D.get = d.get - f.b.size := by rw [← hD]
  have HD := hide hD; have HOKD := hide hokD; have HGD := hide hgd; have HNG := hide hng; have HREG := hide hreg
  have hregk := (okCn_iff.1 hokD).1
  obtain ⟨S, hS⟩ : ∃ S, stateD D.reg f.st = S := ⟨_, rfl⟩
  have HS := hide hS
  have hSd : stateD d.reg f.st = S := by rw [← HREG.out]; exact hS
  have HSD := hide hSd
  clear hD hokD hgd hng hreg hS hSd HUS
  have hm1 := HL.out.m
  have r2 := RowIs.cell (j := 2) HR2.out rfl
  by_cases hs0 : S = 0
  · have hE0 : E = (D, [], some (0, 1)) := by rw [← HE.out, ← HD.out]; unfold dataO; dsimp only; rw [if_neg (show ¬ d.get < (f.b.size : Int) by omega), if_pos (HSD.out.trans hs0)]
    subst hE0
    have hz : stateD D.reg f.st = 0 := HS.out.trans hs0
    clear HE hs0
    go_wp2_with fail
    refine (implBegunNo lo g D L bs f.st _ hm1 hregk hz).mono ?_; rintro x w2 ⟨rfl, hb2⟩
    have HF := hide (Lnk.after HB.out (HL.out.new hb2))
    clear hb2
    go_wp2_with fail
    refine ⟨rfl, rfl, bs, ?_⟩
    (try rw [List.append_nil]); exact HF.out
  have hnz : stateD D.reg f.st ≠ 0 := by rw [HS.out]; exact hs0
  have HNZ := hide hnz
  have HS0N := hide hs0
  clear hs0
  go_wp2_with fail
  refine (implBegun lo g D L bs f.st _ hm1 hregk hnz).mono ?_; rw [HS.out]; rintro x w2 ⟨rfl, hb2⟩
  replace HL := hide (HL.out.new hb2)
  replace HR2 := hide (HR2.out.new hb2)
  clear hb2 hm1 r2 hnz
  go_wp2_with fail
  refine (implMayGet S _).mono ?_; rintro x w3 ⟨rfl, hb3⟩
  replace HL := hide (HL.out.new hb3)
  replace HR2 := hide (HR2.out.new hb3)
  clear hb3
  have hm3 := HL.out.m
  have hlen := (cn_len HOKD.out).1
  have h60 := (cn_len HOKD.out).2
  have HLEN := hide (And.intro hlen h60)
  clear hlen h60
  cases hmg : mgV S
  · have r2 := RowIs.cell (j := 2) HR2.out rfl
    go_wp2_with fail
    refine (implGiveBack lo g D L bs 0 f.b.size _ hm3 HLEN.out.1 HLEN.out.2 (by omega) (by omega) (by omega) (.inl rfl) (fun _ hn => ?gg) (fun h => absurd rfl h)).mono ?_
    case gg =>
      rw [HGD.out]
      exact gr_fits (win_of (by omega) (by omega)) (by omega) (by omega) (by omega)
    rintro x w4 ⟨rfl, by4, hl4⟩
    have HF := hide (Lnk.after HB.out (HL.out.step hl4))
    have HR4 := hide (hl4.box HR2.out HQ.out)
    clear hl4 hm3 HL HR2 r2
    have r2 := RowIs.cell (j := 2) HR4.out rfl
    by_cases hs4 : S = 4
    · have hE0 : E = ((grantD D 0 f.b.size).1, (grantD D 0 f.b.size).2, none) := by
        rw [← HE.out, ← HD.out]; unfold dataO; dsimp only
        rw [if_neg (show ¬ d.get < (f.b.size : Int) by omega), if_neg (show ¬ stateD d.reg f.st = 0 by rw [HSD.out]; exact HS0N.out), if_pos (show mgV (stateD d.reg f.st) = false by rw [HSD.out]; exact hmg), if_pos (show stateD d.reg f.st = 4 by rw [HSD.out]; exact hs4)]
      subst hE0
      have hs4' : (S != 4) = false := by simpa using hs4
      clear HE hs4
      go_wp2_with fail
      first | go_end0 | refine bodyPost_ret (results_none rfl _ _ _) rfl ?_
      exact ⟨rfl, by4, HF.out⟩
    · have hE0 : E = ((grantD D 0 f.b.size).1, (grantD D 0 f.b.size).2, some (f.st, 3)) := by
        rw [← HE.out, ← HD.out]; unfold dataO; dsimp only
        rw [if_neg (show ¬ d.get < (f.b.size : Int) by omega), if_neg (show ¬ stateD d.reg f.st = 0 by rw [HSD.out]; exact HS0N.out), if_pos (show mgV (stateD d.reg f.st) = false by rw [HSD.out]; exact hmg), if_neg (show ¬ stateD d.reg f.st = 4 by rw [HSD.out]; exact hs4)]
      subst hE0
      have hs4' : (S != 4) = true := by simpa using hs4
      clear HE hs4
      go_wp2_with fail
      exact ⟨rfl, rfl, by4, HF.out⟩
  · obtain ⟨k, ha⟩ := may_at (r := D.reg) (id := f.st) (by rw [HS.out]; exact hmg)
    obtain ⟨hk, _, _⟩ := atE_some ha
    have hkf : k < D.flows.length := by have := HLEN.out.1; omega
    have hfle : d.flows = D.flows := by rw [← HD.out]
    have hE0 : E = carryO D f k D.flows[k] := by
      have hkd : k < d.flows.length := by rw [hfle]; exact hkf
      have := data_carry (c := d) (f := f) (k := k) HOK.out (show ¬ d.get < (f.b.size : Int) by omega) (by rw [HSD.out]; exact HS0N.out) (by rw [HSD.out]; exact hmg) (by rw [← HREG.out]; exact ha) hkd
      rw [HE.out] at this
      rw [this, HD.out]
      congr 1
      simp only [hfle]
    obtain ⟨F, hF⟩ : ∃ F, D.flows[k] = F := ⟨_, rfl⟩
    rw [hF] at hE0
    have HFK : Hid (∃ hk : k < D.flows.length, D.flows[k] = F) := ⟨hkf, hF⟩
    have HE2 := hide hE0
    have HA := hide ha
    have r0 := RowIs.cell (j := 0) HR2.out rfl
    have r1 := RowIs.cell (j := 1) HR2.out rfl
    have r2 := RowIs.cell (j := 2) HR2.out rfl
    have r3 := RowIs.cell (j := 3) HR2.out rfl
    have hget : D.get + f.b.size ≤ 16777215 := by rw [HGD.out]; omega
    clear hE0 ha hfle HE hF
    go_wp2_with fail
    refine (implCarryIn lo g D L bs f k F _ hm3 HOKD.out hL HFO.out HK1.out HA.out HFK.out.choose HFK.out.choose_spec hget).mono ?_
    rintro x w5 ⟨hx, by_, hl5⟩
    rw [← HE2.out] at hx hl5
    have HF := hide (Lnk.after HB.out (HL.out.step hl5))
    clear hl5 hm3 r0 r1 r2 r3 HL HR2 HE2
    obtain ⟨c5, l5, q5⟩ := E
    cases q5 with
    | none =>
      simp only [endO] at hx
      subst hx
      go_wp2_with fail
      first | go_end0 | refine bodyPost_ret (results_none rfl _ _ _) rfl ?_
      exact ⟨rfl, _, HF.out⟩
    | some p =>
      obtain ⟨st5, cd5⟩ := p
      simp only [endO] at hx
      subst hx
      go_wp2_with fail
      exact ⟨rfl, rfl, _, HF.out⟩
end Go.Proofs.YtllaeakeaabiaaaGreat
