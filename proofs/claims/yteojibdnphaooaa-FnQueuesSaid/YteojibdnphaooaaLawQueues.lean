/- The law FnQueues returns true at every argument and leaves it as it was. No condition. -/
import Derived.Test.YteojibdnphaooaaTurnSpec2
import Derived.Test.YteojibdnphaooaaTurnQueue
import Derived.Test.YteojibdnphaooaaTurnServed
import Derived.Test.YteojibdnphaooaaTurnImpl
import Derived.Test.YteojibdnphaooaaTurnDraws
import Derived.Test.YteojibdnphaooaaTurnLaw
import Derived.Test.YteojibdnphaooaaTurnSize
import Derived.Test.YteojibdnphaooaaLikeRound
import Derived.Test.YteojibdnphaooaaPickOne
import Derived.Deep.DeepCutAuto
import Derived.Deep.RegionHeld3
import Derived.Deep.DeepMust
import Derived.WalkKit
import Derived.ProofKit
import Derived.OpenShut
import Derived.ShutString
import Derived.ChangeOld
import Derived.Below
import Derived.Lib.SmallJoins

namespace Go.Proofs.Yteojibdnphaooaa
open Go.RowKit
set_option maxRecDepth 100000
set_option linter.unusedSimpArgs false
set_option linter.unusedVariables false
namespace lawQueues
set_option maxHeartbeats 8000000 in
set_option maxRecDepth 100000 in
theorem walk (a : Option Addr) (len cap : Nat) (w : World) (hl : len ≤ maxLen) (hcode : CodeAt w a len w.heap.size) :
    Calls Try.prog 4 #[.slice a len cap] w fun x w' => x = .returned (.bool true) ∧ Below w.heap.size w w' := by
  unfold maxLen at hl
  by_cases hbig : (4096 : Int) < len
  · go_enter Try.func4, Try.ntmps4
    go_wp2_with fail
    refine (big1 a len cap _).mono ?_; rw [decide_eq_true hbig]; rintro x w1 ⟨rfl, rfl⟩
    go_wp2_with fail
    go_ret
    exact ⟨rfl, Below.refl _ _⟩
  have hl' : len ≤ 4096 := by omega
  have HCODE := hide hcode
  clear hcode
  go_enter Try.func4, Try.ntmps4
  go_wp2_with fail
  refine (big1 a len cap _).mono ?_; rw [decide_eq_false (by omega)]; rintro x w0 ⟨rfl, rfl⟩
  have HBW := hide (Below.refl w0.heap.size w0)
  go_wp2_with fail
  refine (drawQueued a len cap _ hl' HCODE.out).mono ?_; rintro x w1 ⟨d, v, line, size, rfl, o3, hd4, hb1⟩
  obtain ⟨a3, p3, rfl, _⟩ := o3.form
  replace HBW := hide (bchain HBW.out hb1)
  clear hb1
  go_upto_region 4 with fail
  have hbV : Below w1.heap.size w1 (w1.alloc (.cells #[.int .i64 d.turn, .bool d.given, .slice a3 d.ls.length p3] 26)) := (Below.refl _ _).alloc (Nat.le_refl _) _
  have B3 := hide (BxN.make w1 d (by first | exact o3 | exact o3.tail))
  replace HBW := hide (bchain HBW.out hbV)
  clear hbV
  generalize hV : w1.alloc (.cells #[.int .i64 d.turn, .bool d.given, .slice a3 d.ls.length p3] 26) = v1 at *
  clear hV
  clear o3
  obtain ⟨⟨xd, is⟩, hD⟩ : ∃ y, y = queuedD d line size := ⟨_, rfl⟩
  have HD := hide hD
  clear hD
  have x0 := B3.out.row.cell (j := 0) rfl
  have x1 := B3.out.row.cell (j := 1) rfl
  have x2 := B3.out.row.cell (j := 2) rfl
  have xl := B3.out.row.lt
  go_wp2_with fail
  clear x0 x1 x2 xl
  have sv1 := B3.out.row.lt
  have hcl := implQueued d _ line size _ B3.out.rd
  rw [← HD.out] at hcl
  try dsimp only at hcl
  refine hcl.mono ?_; clear hcl; rintro x w2 ⟨v2, rfl, o6, hb2⟩
  obtain ⟨a6, p6, rfl, _⟩ := o6.form
  have sw2 := hb2.size
  replace B3 := hide (B3.out.new hb2)
  replace HBW := hide (bchain HBW.out hb2)
  clear hb2
  have hw02 := HBW.out.size
  go_upto_region 5 with fail
  have hbV : Below w2.heap.size w2 (w2.alloc (.cells #[.int .i64 xd.turn, .bool xd.given, .slice a6 xd.ls.length p6] 26)) := (Below.refl _ _).alloc (Nat.le_refl _) _
  have B6 := hide (BxN.make w2 xd (by first | exact o6 | exact o6.tail))
  replace B3 := hide (B3.out.new hbV)
  replace HBW := hide (bchain HBW.out hbV)
  clear hbV
  generalize hV : w2.alloc (.cells #[.int .i64 xd.turn, .bool xd.given, .slice a6 xd.ls.length p6] 26) = v2 at *
  clear hV
  clear o6
  go_wp2_with fail
  refine (drawWaiting a len cap _ hl' (HCODE.out.behind HBW.out)).mono ?_; rintro x w3 ⟨wd, v3, rfl, o8, hwd4, hb3⟩
  obtain ⟨a8, p8, rfl, _⟩ := o8.form
  replace B3 := hide (B3.out.new hb3)
  replace B6 := hide (B6.out.new hb3)
  replace HBW := hide (bchain HBW.out hb3)
  clear hb3
  go_upto_region 6 with fail
  have hbV : Below w3.heap.size w3 (w3.alloc (.cells #[.int .i64 wd.turn, .bool wd.given, .slice a8 wd.ls.length p8] 26)) := (Below.refl _ _).alloc (Nat.le_refl _) _
  have B8 := hide (BxN.make w3 wd (by first | exact o8 | exact o8.tail))
  replace B3 := hide (B3.out.new hbV)
  replace B6 := hide (B6.out.new hbV)
  replace HBW := hide (bchain HBW.out hbV)
  clear hbV
  generalize hV : w3.alloc (.cells #[.int .i64 wd.turn, .bool wd.given, .slice a8 wd.ls.length p8] 26) = v3 at *
  clear hV
  clear o8
  have x0 := B3.out.row.cell (j := 0) rfl
  have x1 := B3.out.row.cell (j := 1) rfl
  have x2 := B3.out.row.cell (j := 2) rfl
  have xl := B3.out.row.lt
  go_wp2_with fail
  clear x0 x1 x2 xl
  have hcl := specQueued d _ line size _ B3.out.rd
  rw [← HD.out] at hcl
  try dsimp only at hcl
  refine hcl.mono ?_; clear hcl; rintro x w4 ⟨v4, rfl, o9, hb4⟩
  obtain ⟨a9, p9, rfl, _⟩ := o9.form
  replace B3 := hide (B3.out.new hb4)
  replace B6 := hide (B6.out.new hb4)
  replace B8 := hide (B8.out.new hb4)
  replace HBW := hide (bchain HBW.out hb4)
  clear hb4
  go_upto_region 7 with fail
  have hbV : Below w4.heap.size w4 (w4.alloc (.cells #[.int .i64 xd.turn, .bool xd.given, .slice a9 xd.ls.length p9] 26)) := (Below.refl _ _).alloc (Nat.le_refl _) _
  have B9 := hide (BxN.make w4 xd (by first | exact o9 | exact o9.tail))
  replace B3 := hide (B3.out.new hbV)
  replace B6 := hide (B6.out.new hbV)
  replace B8 := hide (B8.out.new hbV)
  replace HBW := hide (bchain HBW.out hbV)
  clear hbV
  generalize hV : w4.alloc (.cells #[.int .i64 xd.turn, .bool xd.given, .slice a9 xd.ls.length p9] 26) = v4 at *
  clear hV
  clear o9
  have x0 := B6.out.row.cell (j := 0) rfl
  have x1 := B6.out.row.cell (j := 1) rfl
  have x2 := B6.out.row.cell (j := 2) rfl
  have xl := B6.out.row.lt
  have qx0 : ∀ y : Later v4, y.w.cell? ⟨w2.heap.size, 0, none⟩ = some (.int .i64 xd.turn) := fun y => (y.b.cell (p := ⟨w2.heap.size, 0, none⟩) xl).trans x0
  have qx1 : ∀ y : Later v4, y.w.cell? ⟨w2.heap.size, 1, none⟩ = some (.bool xd.given) := fun y => (y.b.cell (p := ⟨w2.heap.size, 1, none⟩) xl).trans x1
  have qx2 : ∀ y : Later v4, y.w.cell? ⟨w2.heap.size, 2, none⟩ = some (.slice a6 xd.ls.length p6) := fun y => (y.b.cell (p := ⟨w2.heap.size, 2, none⟩) xl).trans x2
  clear x0 x1 x2
  have y0 := B9.out.row.cell (j := 0) rfl
  have y1 := B9.out.row.cell (j := 1) rfl
  have y2 := B9.out.row.cell (j := 2) rfl
  have yl := B9.out.row.lt
  have qy0 : ∀ y : Later v4, y.w.cell? ⟨w4.heap.size, 0, none⟩ = some (.int .i64 xd.turn) := fun y => (y.b.cell (p := ⟨w4.heap.size, 0, none⟩) yl).trans y0
  have qy1 : ∀ y : Later v4, y.w.cell? ⟨w4.heap.size, 1, none⟩ = some (.bool xd.given) := fun y => (y.b.cell (p := ⟨w4.heap.size, 1, none⟩) yl).trans y1
  have qy2 : ∀ y : Later v4, y.w.cell? ⟨w4.heap.size, 2, none⟩ = some (.slice a9 xd.ls.length p9) := fun y => (y.b.cell (p := ⟨w4.heap.size, 2, none⟩) yl).trans y2
  clear y0 y1 y2
  have z0 := B8.out.row.cell (j := 0) rfl
  have z1 := B8.out.row.cell (j := 1) rfl
  have z2 := B8.out.row.cell (j := 2) rfl
  have zl := B8.out.row.lt
  have qz0 : ∀ y : Later v4, y.w.cell? ⟨w3.heap.size, 0, none⟩ = some (.int .i64 wd.turn) := fun y => (y.b.cell (p := ⟨w3.heap.size, 0, none⟩) zl).trans z0
  have qz1 : ∀ y : Later v4, y.w.cell? ⟨w3.heap.size, 1, none⟩ = some (.bool wd.given) := fun y => (y.b.cell (p := ⟨w3.heap.size, 1, none⟩) zl).trans z1
  have qz2 : ∀ y : Later v4, y.w.cell? ⟨w3.heap.size, 2, none⟩ = some (.slice a8 wd.ls.length p8) := fun y => (y.b.cell (p := ⟨w3.heap.size, 2, none⟩) zl).trans z2
  clear z0 z1 z2
  have hisb : (is != is) = false := by simp
  have c6 : ∀ y : Later v4, Calls Try.prog 13 #[.agg #[.int .i64 xd.turn, .bool xd.given, .slice a6 xd.ls.length p6], .agg #[.int .i64 xd.turn, .bool xd.given, .slice a9 xd.ls.length p9]] y.w fun e w' => e = .returned (.bool true) ∧ Below y.w.heap.size y.w w' := fun y => likeRound1 xd _ _ y.w (B6.out.rd.new y.b) (B9.out.rd.new y.b)
  have c11 : ∀ y : Later v4, Calls Try.prog 21 #[.agg #[.int .i64 wd.turn, .bool wd.given, .slice a8 wd.ls.length p8]] y.w fun e w' => e = .returned (.int .i64 (waitingD wd)) ∧ Below y.w.heap.size y.w w' := fun y => implWaiting wd _ y.w (B8.out.rd.new y.b)
  have c13 : ∀ y : Later v4, Calls Try.prog 22 #[.agg #[.int .i64 wd.turn, .bool wd.given, .slice a8 wd.ls.length p8]] y.w fun e w' => e = .returned (.int .i64 (waitingD wd)) ∧ Below y.w.heap.size y.w w' := fun y => specWaiting wd _ y.w (B8.out.rd.new y.b)
  generalize waitingD wd = q at *
  go_wp2_with fail
  have hne : Nonempty (Later v4) := ⟨⟨v4, Below.refl _ _⟩⟩; refine region_later (by kernel_rfl) (by kernel_rfl) ?_
  repeat (go_big_quiet_step (fail))
  go_big_quiet_want; go_big_quiet_op; refine ⟨.bool true, fun y => later_calls (x := y) (c6 y), ?_⟩; go_big_quiet_on
  repeat (go_big_quiet_step (fail))
  go_big_quiet_want; go_big_quiet_op; refine ⟨.int .i64 q, fun y => later_calls (x := y) (c11 y), ?_⟩; go_big_quiet_on
  repeat (go_big_quiet_step (fail))
  go_big_quiet_want; go_big_quiet_op; refine ⟨.int .i64 q, fun y => later_calls (x := y) (c13 y), ?_⟩; go_big_quiet_on
  repeat (go_big_quiet_step (fail))
  refine wpQuiet_nil ?_; intro _ hw'; obtain ⟨y, hw''⟩ := hw'; subst hw''; have hby := y.b
  have hbS : Below v4.heap.size v4 y.w := hby
  generalize y.w = w5 at *
  clear hby hne c6 c11 c13 hisb
  clear qx0 qx1 qx2 qy0 qy1 qy2 qz0 qz1 qz2 xl yl zl
  replace B3 := hide (B3.out.new hbS)
  replace B6 := hide (B6.out.new hbS)
  replace B8 := hide (B8.out.new hbS)
  replace B9 := hide (B9.out.new hbS)
  replace HBW := hide (bchain HBW.out hbS)
  clear hbS
  clear B8 B9
  have x0 := B3.out.row.cell (j := 0) rfl
  have x1 := B3.out.row.cell (j := 1) rfl
  have x2 := B3.out.row.cell (j := 2) rfl
  have xl := B3.out.row.lt
  go_wp2_with fail
  clear x0 x1 x2 xl
  refine (specRoundOk d _ _ B3.out.rd).mono ?_
  cases hok : okRn d
  · rintro x w6 ⟨rfl, hb6⟩
    replace B3 := hide (B3.out.new hb6)
    replace B6 := hide (B6.out.new hb6)
    replace HBW := hide (bchain HBW.out hb6)
    clear hb6
    have hdz : (xd, is) = (zRn, false) := by rw [HD.out]; unfold queuedD; rw [if_pos hok]
    obtain ⟨rfl, rfl⟩ := Prod.mk.inj hdz
    clear hdz HD
    have x0 := B6.out.row.cell (j := 0) rfl
    have x1 := B6.out.row.cell (j := 1) rfl
    have x2 := B6.out.row.cell (j := 2) rfl
    have xl := B6.out.row.lt
    go_wp2_with fail
    clear x0 x1 x2 xl
    refine (likeRound1 zRn _ (.slice none 0 0) _ B6.out.rd (owX_nil _ 0 0).rd).mono ?_; rintro x w7 ⟨rfl, hb7⟩
    replace HBW := hide (bchain HBW.out hb7)
    go_wp2_with fail
    go_ret
    exact ⟨rfl, HBW.out⟩
  rintro x w6 ⟨rfl, hb6⟩
  replace B3 := hide (B3.out.new hb6)
  replace B6 := hide (B6.out.new hb6)
  replace HBW := hide (bchain HBW.out hb6)
  clear hb6
  cases is
  · have hxd : xd = d := queued_no hok HD.out.symm
    subst hxd
    clear HD
    have x0 := B6.out.row.cell (j := 0) rfl
    have x1 := B6.out.row.cell (j := 1) rfl
    have x2 := B6.out.row.cell (j := 2) rfl
    have xl := B6.out.row.lt
    have y0 := B3.out.row.cell (j := 0) rfl
    have y1 := B3.out.row.cell (j := 1) rfl
    have y2 := B3.out.row.cell (j := 2) rfl
    have yl := B3.out.row.lt
    go_wp2_with fail
    clear x0 x1 x2 xl
    clear y0 y1 y2 yl
    refine (likeRound1 xd _ _ _ B6.out.rd B3.out.rd).mono ?_; rintro x w7 ⟨rfl, hb7⟩
    replace HBW := hide (bchain HBW.out hb7)
    go_wp2_with fail
    go_ret
    exact ⟨rfl, HBW.out⟩
  obtain ⟨_, hxok, kl, rfl, hkl, hxl, hxs⟩ := queued_yes HD.out.symm
  have HXS := hide hxs
  have HXOK := hide hxok
  have htot := tot_ok hxok
  have HDOK := hide hok
  clear hxs hxok hok HD
  go_upto_region 14 with fail
  have hbV : Below w6.heap.size w6 (w6.alloc (.cells #[] 2)) := (Below.refl _ _).alloc (Nat.le_refl _) _
  have hoV : (w6.alloc (.cells #[] 2)).ownsRow w6.heap.size 2 1 (.slice (some ⟨w6.heap.size, 0, none⟩) 0 0) 0 [] := owns_lit w6 2 1 0 #[] rfl (by omega)
  have sB6 := B6.out.row.lt
  generalize w6.alloc (.cells #[] 2) = W at *
  have sW := hbV.size
  replace B3 := hide (B3.out.new hbV)
  replace B6 := hide (B6.out.new hbV)
  replace HBW := hide (bchain HBW.out hbV)
  clear hbV
  have HOV := hide hoV
  clear hoV
  have hs12 : w1.heap.size < w2.heap.size := by omega
  have hs26 : w2.heap.size < w6.heap.size := by omega
  generalize hg6 : w2.heap.size = g6 at *
  generalize hgo : w6.heap.size = go at *
  generalize hg3 : w1.heap.size = g3 at *
  clear hg6 hgo hg3
  go_wp2_with fail
  go_loopw [11, 12] (fun s i wr => ∃ (m : Nat) (yd : RoundD) (lo hi : Nat) (ay : Option Addr) (py : Nat) (O : List Int) (ao : Option Addr) (po : Nat), i = .int .i64 m ∧ s = .slice ao O.length po ∧ totLs yd.ls + m ≤ 180 ∧ O.length ≤ m ∧ Hid (okRn yd = true ∧ yd.ls.length = d.ls.length ∧ O ++ (ln yd.ls kl).sz = (ln d.ls kl).sz ++ [size]) ∧ Hid (BxN wr g6 lo hi yd ay py) ∧ Hid (wr.ownsRow go 2 1 (.slice ao O.length po) O.length (iv O)) ∧ Hid (Below g6 W wr)) (fun _ i _ => 200 - (intOf i).toNat)
  case atStart => exact ⟨0, xd, _, _, a6, p6, [], _, _, rfl, rfl, by omega, by simp, ⟨HXOK.out, hxl, by simpa using HXS.out⟩, B6, HOV, Below.refl _ _⟩
  case round =>
    obtain ⟨m, yd, lo, hi, ay, py, O, ao, po, rfl, rfl, hmt, hOm, HY, BY, HO, HW⟩ := hrel
    have HB3 := hide (B3.out.below HW.out hs12 (by omega))
    have HBR : Hid (Below w0.heap.size w0 wr) := HBW.out.trans (HW.out.mono (by omega))
    have hm2 : (m : Int) < 200 := by omega
    have hgol : go < wr.heap.size ∨ True := .inr trivial
    have hwait := waiting_ok HY.out.1
    have hgrl := BY.out.row.lt
    clear B3 HBW B6 HOV
    have hgr : go ≤ wr.heap.size := by have := HW.out.size; omega
    obtain ⟨q, hq⟩ : ∃ q, waitLs yd.ls = q := ⟨_, rfl⟩
    have c17 := implWaiting yd _ wr BY.out.rd
    rw [hwait.1, hq] at c17
    have q0 : 0 ≤ q := by rw [← hq]; exact hwait.2.1
    have q1 : q ≤ 18000 := by rw [← hq]; exact hwait.2.2
    have HQ := hide hq
    have hob : ∀ z, (Value.slice ao O.length po).ownBlock = some z → go ≤ z ∧ z < wr.heap.size := fun z hz => HO.out.lt z hz
    have HOB := hide hob
    clear hq hwait hob hgol
    have x0 := BY.out.row.cell (j := 0) rfl
    have x1 := BY.out.row.cell (j := 1) rfl
    have x2 := BY.out.row.cell (j := 2) rfl
    have xl := BY.out.row.lt
    go_wp2_with fail
    refine c17.mono ?_; rintro x wa ⟨rfl, hba⟩
    clear c17 x0 x1 x2 xl
    have sa := hba.size
    replace BY := hide (BY.out.new hba); replace HB3 := hide (HB3.out.new hba); replace HO := hide (owns_new HO.out hba); replace HBR := hide (bchain HBR.out hba); replace HW := hide (HW.out.trans (hba.mono (by omega)))
    clear hba
    have x0 := BY.out.row.cell (j := 0) rfl
    have x1 := BY.out.row.cell (j := 1) rfl
    have x2 := BY.out.row.cell (j := 2) rfl
    have xl := BY.out.row.lt
    by_cases hq0 : q = 0
    · have hsv : servedD yd = (yd, -1, 0) := serve_none HY.out.1 (by rw [HQ.out]; exact hq0)
      have hmt0 : (ln yd.ls kl).sz = [] := by
        have hk2 : kl < yd.ls.length := by rw [HY.out.2.1]; exact hkl
        rw [ln_get hk2]
        exact wait_zero (okRn_iff.1 HY.out.1).2.2 (by rw [HQ.out]; exact hq0) _ (List.getElem_mem hk2)
      have hOe : O = (ln d.ls kl).sz ++ [size] := by have := HY.out.2.2; rw [hmt0, List.append_nil] at this; exact this
      have hsz30 : (ln d.ls kl).sz.length ≤ 30 := (okLn_iff.1 (ln_ok HDOK.out hkl)).2.2.1
      have c18 := implServed yd _ wa BY.out.rd
      rw [hsv] at c18
      dsimp only at c18
      subst hq0
      have HOE := hide hOe
      clear hsv hmt0 hOe HQ
      go_wp2_with fail
      refine c18.mono ?_; rintro x wb ⟨vb, rfl, ob, hbb⟩
      obtain ⟨ab, pb, rfl, _⟩ := ob.form
      clear c18 x0 x1 x2 xl ob
      have sb := hbb.size
      replace BY := hide (BY.out.new hbb); replace HB3 := hide (HB3.out.new hbb); replace HO := hide (owns_new HO.out hbb); replace HBR := hide (bchain HBR.out hbb); replace HW := hide (HW.out.trans (hbb.mono (by omega)))
      clear hbb
      go_upto_region 19 with fail
      have hbv : Below wb.heap.size wb (wb.alloc (.cells #[.int .i64 yd.turn, .bool yd.given, .slice ab yd.ls.length pb] 26)) := (Below.refl _ _).alloc (Nat.le_refl _) _
      generalize wb.alloc (.cells #[.int .i64 yd.turn, .bool yd.given, .slice ab yd.ls.length pb] 26) = wc at *
      replace BY := hide (BY.out.new hbv); replace HB3 := hide (HB3.out.new hbv); replace HO := hide (owns_new HO.out hbv); replace HBR := hide (bchain HBR.out hbv); replace HW := hide (HW.out.trans (hbv.mono (by omega)))
      clear hbv BY
      obtain ⟨b, o, az, pz, rfl, hbl, _, c2, hz, z1, z2⟩ := OwX.line (lo := 0) (hi := 0) HB3.out.rd hkl
      have r2 := HB3.out.row.cell (j := 2) rfl
      have rl := HB3.out.row.lt
      obtain ⟨sz, hsz⟩ : ∃ s, (ln d.ls kl).sz = s := ⟨_, rfl⟩
      rw [hsz] at c2 hz z1 hsz30 HOE
      clear hsz
      have hX1 : Below wc.heap.size wc (wc.alloc (.cells #[] 2)) := (Below.refl _ _).alloc (Nat.le_refl _) _
      have hoX : (wc.alloc (.cells #[] 2)).ownsRow wc.heap.size 2 1 (.slice (some ⟨wc.heap.size, 0, none⟩) 0 0) 0 [] := owns_lit wc 2 1 0 #[] rfl (by omega)
      have hrX := ints_reads (hz.new hX1)
      have hkI : (kl : Int) < d.ls.length := by omega
      have HRO := hide (reads_of_owns HO.out)
      clear hz HB3
      go_wp2_with (at_builtin; go_must (refine wpList_appW _ (by kernel_rfl) _ _ 33 (by rfl) 2 (.int .i64 0) 1 8 Try.underlying33 (by kernel_rfl) rfl (by decide) wc.heap.size _ 0 [] (by rfl) hoX _ sz.length (iv sz) (by rfl) hrX (iv_one _) (by omega) (by decide) hX1.size ?_))
      intro ad7 cap7 w7 hown7 hg7 hat7
      try simp only [Nat.zero_add, List.nil_append] at hown7 hat7
      have hb7 : Below wc.heap.size wc w7 := hX1.grown hg7 hX1.size (fun k hk => by have := (hoX.lt k hk).1; omega)
      have hX2 : Below w7.heap.size w7 (w7.alloc (.cells #[.int .i64 size] 2)) := (Below.refl _ _).alloc (Nat.le_refl _) _
      have hoX2 := owns_new hown7 hX2
      have hRd2 : Reads (w7.alloc (.cells #[.int .i64 size] 2)) (.slice (some ⟨w7.heap.size, 0, none⟩) 1 1) 1 1 (iv [size]) := reads_of_owns (owns_lit w7 2 1 1 #[.int .i64 size] rfl (by omega))
      have hbX2 := bchain hb7 hX2
      have sX2 := hbX2.size
      try rw [Nat.zero_add]
      clear hown7 hg7 hat7 hoX hrX hX1 hb7 c2 r2
      go_wp2_with (at_builtin; go_must (refine wpList_appW _ (by kernel_rfl) _ _ 33 (by rfl) 2 (.int .i64 0) 1 8 Try.underlying33 (by kernel_rfl) rfl (by decide) wc.heap.size _ sz.length (iv sz) (by rfl) hoX2 _ 1 (iv [size]) (by rfl) hRd2 (iv_one _) (by omega) (by decide) sX2 ?_))
      intro ad8 cap8 w8 hown8 hg8 hat8
      have hb8 : Below wc.heap.size wc w8 := hbX2.grown hg8 hbX2.size (fun k hk => by have := (hoX2.lt k hk).1; omega)
      have hr8 : Reads w8 (.slice ad8 (sz.length + 1) cap8) O.length 1 (iv O) := by
        have h := reads_of_owns hown8
        rw [← iv_app] at h
        rw [HOE.out]
        simpa using h
      have hro := HRO.out.new hb8
      have HBF := hide (bchain HBR.out hb8)
      clear hown8 hg8 hat8 hoX2 hRd2 hbX2 sX2 hX2 hb8
      go_wp2_with fail
      refine (likeInts1 O _ _ _ hro hr8).mono ?_; rintro x w9 ⟨rfl, hb9⟩
      go_wp2_with fail
      go_ret
      exact ⟨rfl, bchain HBF.out hb9⟩
    · obtain ⟨yd2, k, n, hsv, hres⟩ := serve_some HY.out.1 (by rw [HQ.out]; exact hq0)
      have heqs := hres.eqs HY.out.1
      rw [HQ.out] at heqs
      have htt := hres.tot
      have hkl2 := hres.lt
      have HYL := hide hres.len
      have hn : 1 ≤ n ∧ n ≤ 100 := (okLn_iff.1 (ln_ok HY.out.1 hres.lt)).2.2.2 n (by rw [hres.head]; simp)
      obtain ⟨n1, n2⟩ := hn
      have hw2 := waiting_ok hres.ok
      rw [heqs] at hw2
      have HRS := hide hres
      have c18 := implServed yd _ wa BY.out.rd
      rw [hsv] at c18
      dsimp only at c18
      have hkI : (k : Int) < yd.ls.length := by omega
      have HHD : Hid ((ln yd.ls k).sz = n :: (ln yd2.ls k).sz) := hres.head
      clear hsv hres heqs hq0
      go_wp2_with fail
      refine c18.mono ?_; rintro x wb ⟨vb, rfl, ob, hbb⟩
      obtain ⟨ab, pb, rfl, _⟩ := ob.form
      clear c18 x0 x1 x2 xl
      have sb := hbb.size
      replace BY := hide (BY.out.new hbb); replace HB3 := hide (HB3.out.new hbb); replace HO := hide (owns_new HO.out hbb); replace HBR := hide (bchain HBR.out hbb); replace HW := hide (HW.out.trans (hbb.mono (by omega)))
      clear hbb
      go_upto_region 19 with fail
      have hbv : Below wb.heap.size wb (wb.alloc (.cells #[.int .i64 yd2.turn, .bool yd2.given, .slice ab yd2.ls.length pb] 26)) := (Below.refl _ _).alloc (Nat.le_refl _) _
      have BZ := hide (BxN.make wb yd2 ob)
      generalize wb.alloc (.cells #[.int .i64 yd2.turn, .bool yd2.given, .slice ab yd2.ls.length pb] 26) = wc at *
      replace BY := hide (BY.out.new hbv); replace HB3 := hide (HB3.out.new hbv); replace HO := hide (owns_new HO.out hbv); replace HBR := hide (bchain HBR.out hbv); replace HW := hide (HW.out.trans (hbv.mono (by omega)))
      have sc := hbv.size
      clear hbv ob HB3
      generalize hgz : wb.heap.size = gz at *
      have x0 := BZ.out.row.cell (j := 0) rfl
      have x1 := BZ.out.row.cell (j := 1) rfl
      have x2 := BZ.out.row.cell (j := 2) rfl
      have xl := BZ.out.row.lt
      have c21 := implWaiting yd2 _ wc BZ.out.rd
      rw [hw2.1] at c21
      go_wp2_with fail
      refine c21.mono ?_; rintro x wd ⟨rfl, hbd⟩
      clear c21 x0 x1 x2 xl
      have sd := hbd.size
      replace BZ := hide (BZ.out.new hbd); replace BY := hide (BY.out.new hbd); replace HO := hide (owns_new HO.out hbd); replace HW := hide (HW.out.trans (hbd.mono (by omega)))
      clear hbd HBR
      obtain ⟨b, o, az, pz, rfl, hbl, _, c2, hz, z1, z2⟩ := OwX.line (lo := 0) (hi := 0) BY.out.rd hkl2
      rw [HHD.out] at c2 hz z1
      obtain ⟨bz, oz, rfl, hbz, cz⟩ := ints_at (k := 0) hz (by simp)
      simp only [List.getElem_cons_zero, Nat.add_zero] at cz
      have y2 := BY.out.row.cell (j := 2) rfl
      have yl := BY.out.row.lt
      have x0 := BZ.out.row.cell (j := 0) rfl
      have x1 := BZ.out.row.cell (j := 1) rfl
      have x2 := BZ.out.row.cell (j := 2) rfl
      have xl := BZ.out.row.lt
      have c28 := implRoundOk yd2 _ wd BZ.out.rd
      rw [HRS.out.ok] at c28
      simp only [List.length_cons] at c2 z1
      clear hz
      go_wp2_with fail
      refine c28.mono ?_; rintro x we ⟨rfl, hbe⟩
      clear c28 x0 x1 x2 xl y2 yl c2 cz
      have se := hbe.size
      replace BZ := hide (BZ.out.new hbe); replace BY := hide (BY.out.new hbe); replace HO := hide (owns_new HO.out hbe); replace HW := hide (HW.out.trans (hbe.mono (by omega)))
      clear hbe
      by_cases hkk : k = kl
      · subst hkk
        have HYN : Hid (okRn yd2 = true ∧ yd2.ls.length = d.ls.length ∧ (O ++ [n]) ++ (ln yd2.ls k).sz = (ln d.ls k).sz ++ [size]) := by
          refine ⟨HRS.out.ok, HYL.out.trans HY.out.2.1, ?_⟩
          rw [← HY.out.2.2, HHD.out]; simp
        clear HHD HRS
        have hX : Below we.heap.size we (we.alloc (.cells #[.int .i64 n] 2)) := (Below.refl _ _).alloc (Nat.le_refl _) _
        have hownX := owns_new HO.out hX
        have hRd : Reads (we.alloc (.cells #[.int .i64 n] 2)) (.slice (some ⟨we.heap.size, 0, none⟩) 1 1) 1 1 (iv [n]) := reads_of_owns (owns_lit we 2 1 1 #[.int .i64 n] rfl (by omega))
        have sX := hX.size
        replace BZ := hide (BZ.out.new hX); replace BY := hide (BY.out.new hX); replace HW := hide (HW.out.trans (hX.mono (by omega)))
        have hgX : go ≤ (we.alloc (.cells #[.int .i64 n] 2)).heap.size := by omega
        clear hX HO
        go_wp2_with (at_builtin; go_must (refine wpList_app _ (by rfl) _ _ 33 (by rfl) 2 (.int .i64 0) 1 8 Try.underlying33 (by kernel_rfl) rfl (by decide) go _ O.length (iv O) (by rfl) hownX _ 1 (iv [n]) (by rfl) hRd (iv_one _) (by omega) (by decide) hgX ?_))
        intro ad7 cap7 w7 hown7 hg7 hat7
        have HR6 := hide (BY.out.row.kept (hg7.block g6 BY.out.row.lt (fun e => by have := (HOB.out _ e.symm).1; omega)))
        replace BZ := hide (BZ.out.grown hg7 (fun z hz => by have := HOB.out z hz; omega))
        replace HW := hide (HW.out.grown hg7 (by omega) (fun z hz => by have := HOB.out z hz; omega))
        have HO : Hid (w7.ownsRow go 2 1 (.slice ad7 (O ++ [n]).length cap7) (O ++ [n]).length (iv (O ++ [n]))) := by
          show World.ownsRow _ _ _ _ _ _ _
          rw [iv_app]
          simpa using hown7
        have sg7 := hg7.size
        clear hown7 hg7 hat7 hownX hRd hgX BY
        have HP := hide (BxN.putR HR6.out BZ.out.own (.inl (by omega)))
        have HW9 := hide (below_put HW.out (Nat.le_refl g6) (.int .i64 yd2.turn) (.bool yd2.given) (.slice ab yd2.ls.length pb))
        have hgo9 : ∀ z, (Value.slice ad7 (O ++ [n]).length cap7).ownBlock = some z → go ≤ z := fun z hz => (HO.out.lt z hz).1
        have HO9 : Hid ((((w7.setCell ⟨g6, 0, none⟩ (.int .i64 yd2.turn)).setCell ⟨g6, 1, none⟩ (.bool yd2.given)).setCell ⟨g6, 2, none⟩ (.slice ab yd2.ls.length pb)).ownsRow go 2 1 (.slice ad7 (O ++ [n]).length cap7) (O ++ [n]).length (iv (O ++ [n]))) := by
          show World.ownsRow _ _ _ _ _ _ _
          exact owns_far go (owns_far go (owns_far go HO.out hgo9 _ _ (by show g6 < go; omega)) hgo9 _ _ (by show g6 < go; omega)) hgo9 _ _ (by show g6 < go; omega)
        have x0 := BZ.out.row.cell (j := 0) rfl
        have x1 := BZ.out.row.cell (j := 1) rfl
        have x2 := BZ.out.row.cell (j := 2) rfl
        have xl := BZ.out.row.lt
        have y0 := HR6.out.cell (j := 0) rfl
        have y1 := HR6.out.cell (j := 1) rfl
        have y2 := HR6.out.cell (j := 2) rfl
        have y3 := HR6.out.frozen 0
        have y4 := HR6.out.frozen 1
        have y5 := HR6.out.frozen 2
        have yl := HR6.out.lt
        have hzg : gz ≠ g6 := by omega
        clear hgo9 BZ HO HW HR6
        go_wp2_with fail
        go_roundw
        case rel => exact ⟨m + 1, yd2, _, _, ab, pb, O ++ [n], ad7, cap7, by go_num, by simp, by omega, by simp; omega, HYN, HP, HO9, HW9⟩
        case measure => simp [intOf]; omega
      · have HYN : Hid (okRn yd2 = true ∧ yd2.ls.length = d.ls.length ∧ O ++ (ln yd2.ls kl).sz = (ln d.ls kl).sz ++ [size]) := by
          refine ⟨HRS.out.ok, HYL.out.trans HY.out.2.1, ?_⟩
          rw [← HY.out.2.2, HRS.out.other kl (fun e => hkk e.symm)]
        have hkk' : ((k : Int) == (kl : Int)) = false := by simp; omega
        have HR6 := hide BY.out.row
        clear HHD HRS hkk BY
        have HP := hide (BxN.putR HR6.out BZ.out.own (.inl (by omega)))
        have HW9 := hide (below_put HW.out (Nat.le_refl g6) (.int .i64 yd2.turn) (.bool yd2.given) (.slice ab yd2.ls.length pb))
        have hgo9 : ∀ z, (Value.slice ao O.length po).ownBlock = some z → go ≤ z := fun z hz => (HO.out.lt z hz).1
        have HO9 : Hid ((((we.setCell ⟨g6, 0, none⟩ (.int .i64 yd2.turn)).setCell ⟨g6, 1, none⟩ (.bool yd2.given)).setCell ⟨g6, 2, none⟩ (.slice ab yd2.ls.length pb)).ownsRow go 2 1 (.slice ao O.length po) (O).length (iv (O))) := by
          show World.ownsRow _ _ _ _ _ _ _
          exact owns_far go (owns_far go (owns_far go HO.out hgo9 _ _ (by show g6 < go; omega)) hgo9 _ _ (by show g6 < go; omega)) hgo9 _ _ (by show g6 < go; omega)
        have x0 := BZ.out.row.cell (j := 0) rfl
        have x1 := BZ.out.row.cell (j := 1) rfl
        have x2 := BZ.out.row.cell (j := 2) rfl
        have xl := BZ.out.row.lt
        have y0 := HR6.out.cell (j := 0) rfl
        have y1 := HR6.out.cell (j := 1) rfl
        have y2 := HR6.out.cell (j := 2) rfl
        have y3 := HR6.out.frozen 0
        have y4 := HR6.out.frozen 1
        have y5 := HR6.out.frozen 2
        have yl := HR6.out.lt
        have hzg : gz ≠ g6 := by omega
        clear hgo9 BZ HO HW HR6
        go_wp2_with fail
        go_roundw
        case rel => exact ⟨m + 1, yd2, _, _, ab, pb, O, ao, po, by go_num, by rfl, by omega, by omega, HYN, HP, HO9, HW9⟩
        case measure => simp [intOf]; omega

open Go.ChangeShapes Go.WideShapes Go.ChangeAt Go.Joins
open Go.ChangeMaps (open_string shut_string)


theorem own : ownKnob Try.prog.godebug = none := by kernel_rfl
theorem laidOut : laidOutB Try.prog = true := by kernel_rfl

set_option maxRecDepth 100000 in
theorem lifted (os : Os) (started : os.Started) (H : Type) (enc : TypeId × Value → H) :
    ReturnsInHanded {} Try.checked os 4 .any (Rows.fnQueuesSpec.pre6 enc Try.prog Try.f4 Rows.fnQueuesRow.domain false) (Rows.fnQueuesSpec.post enc Try.prog Try.f4 false true false false) := by
  refine returnsInHanded_of_change (C := Try.checked) own started (by kernel_rfl) Try.func4
    (ChangeSpec.witness6 (enc := enc) (C := Try.checked) false ⟨#[], #[.slice none 0 0], []⟩ 8 (by kernel_rfl) (by kernel_rfl) (by kernel_rfl) (by kernel_rfl)) ?_
  intro W base args ds gs before hval0 hW hcnd _
  have hval : ∀ (j : Nat) t v, Try.f4.params[j]? = some t → args[j]? = some v → Value.okWide Try.prog W .any base t v := hval0
  have hW' := hW
  obtain ⟨p, q, hA0, hV, rfl, hfz, hnd⟩ := hW
  have hA : DataW.TrodAll enc Try.prog W 0 (fun _ => true) true Try.f4.params.toList args.toList ds p := hA0
  rw [Try.params4] at hA hval
  obtain ⟨v0, vs0, d0, ds0, p0, q0, hargs, rfl, rfl, h0, r0⟩ := trodAll_cons hA
  obtain ⟨rfl, rfl, rfl⟩ := trodAll_nil r0
  obtain rfl : args = #[v0] := by cases args; simp_all
  obtain ⟨rfl, rfl⟩ := trodVars_none hV
  have k0 := h0
  have lt0 : ∀ x ∈ p0, x.block < W.heap.size := by obtain ⟨m, hm⟩ := k0; exact DataW.trod_lt m _ _ _ hm
  obtain ⟨a0, len0, cap0, rfl⟩ := okWide_slice Try.underlying22 (hval 0 22 v0 rfl rfl); obtain ⟨hl0, hc0⟩ := open_code h0
  clear hA0 hval0
  refine (walk a0 len0 cap0 W hl0 hc0).mono fun e W' ⟨he, bel⟩ => ?_
  subst he
  exact ⟨_, rfl, _, _, _, [], _, [], hW', trodAll_mk1 (shut_bool Try.underlying4 _), (trodAll_cons_mk (Below.trod laidOut (by kernel_rfl) (of_decide_eq_true (by kernel_rfl)) k0 bel lt0) trodAll_mk0), rfl, bel.frame _, fun h => by cases h⟩

theorem over : Rows.fnQueuesRow.holds Try.pinned (OpenSpec.ofChange Rows.fnQueuesSpec) :=
  OpenClaim.holds_of_wide 4 Try.f4 rfl rfl rfl rfl rfl rfl rfl ⟨rfl, rfl, rfl, rfl, rfl⟩ rfl rfl rfl rfl rfl (by kernel_rfl) Try.func4 (by kernel_rfl)
    (of_decide_eq_true (by kernel_rfl)) (by unfold Func.isWrapper; first | (rw [if_pos (by decide +kernel)]; kernel_rfl) | (rw [if_neg (by decide +kernel)]; exact ⟨rfl, rfl⟩))
    (fun os started H enc _ => lifted os started H enc)

end lawQueues

theorem lawQueues_proved : Rows.FnQueuesSaid := lawQueues.over
#print axioms lawQueues_proved
end Go.Proofs.Yteojibdnphaooaa
