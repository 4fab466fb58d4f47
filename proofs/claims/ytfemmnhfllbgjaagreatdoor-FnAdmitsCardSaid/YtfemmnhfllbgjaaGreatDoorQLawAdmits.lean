/- The law FnAdmits returns true at every argument and leaves it as it was. The listed package-level variables of the library (tables; strconv has two errors) begin as their text lays them: the card ties that. -/
import Derived.Test.YtfemmnhfllbgjaaGreatDoorQTenDraw3
import Derived.Test.YtfemmnhfllbgjaaGreatDoorQG10
import Derived.Test.YtfemmnhfllbgjaaGreatDoorQG14
import Derived.Deep.DeepCutAuto
import Derived.Deep.RegionHeld3
import Derived.Test.YtfemmnhfllbgjaaGreatDoorQG7
import Derived.Test.YtfemmnhfllbgjaaGreatDoorTie
import Derived.Test.YtfemmnhfllbgjaaGreatDoorCards
import Derived.Deep.DeepHandedRow
import Derived.Deep.DeepWitnessRowRef
import Derived.JoinedCond
import Derived.SevenTiedAt
import Derived.WalkKit
import Derived.ProofKit
import Derived.OpenShut
import Derived.ShutString
import Derived.ChangeOld
import Derived.Below
import Derived.Lib.SmallJoins
namespace Go.Proofs.YtfemmnhfllbgjaaGreatDoor
open Go.RowKit
set_option maxRecDepth 100000
set_option linter.unusedSimpArgs false
set_option linter.unusedVariables false
theorem ten_sm {L : List TenantD} (h : ∀ x ∈ L, smT x) (name : ByteArray) : smT (tenantV L name).1 := by
  unfold tenantV
  split
  · rename_i hh
    obtain ⟨k, hk, he, _⟩ := at_found hh.2
    rw [he]
    show smT (tn L k)
    rw [tn_get hk]
    exact h _ (List.getElem_mem hk)
  · exact ⟨by decide, by decide, by decide⟩
theorem reach_len {L : List TenantD} {t : ByteArray} (h : L.length ≤ 9) : (reachV L t).length ≤ 9 := by
  unfold reachV
  split
  · rw [List.length_map]; exact Nat.le_trans (List.length_filter_le _ _) h
  · simp
namespace lawAdmits
set_option maxHeartbeats 8000000 in
set_option maxRecDepth 100000 in
theorem walk (a : Option Addr) (len cap : Nat) (w : World) (hl : len ≤ maxLen) (hcode : CodeAt w a len w.heap.size) (hlib : TabV w ∧ ErrV w) :
    Calls Tryz.prog 3 #[.slice a len cap] w fun x w' => x = .returned (.bool true) ∧ Below w.heap.size w w' := by
  unfold maxLen at hl
  by_cases hbig : (4096 : Int) < len
  · go_enter Tryz.func3, Tryz.ntmps3
    go_wp2_with fail
    refine (big1 a len cap _).mono ?_; rw [decide_eq_true hbig]; rintro x w1 ⟨rfl, rfl⟩
    go_wp2_with fail
    go_ret
    exact ⟨rfl, Below.refl _ _⟩
  have hl' : len ≤ 4096 := by omega
  have HCODE := hide hcode; have HLB := hide hlib
  clear hcode hlib
  go_enter Tryz.func3, Tryz.ntmps3
  go_wp2_with fail
  refine (big1 a len cap _).mono ?_; rw [decide_eq_false (by omega)]; rintro x w0 ⟨rfl, rfl⟩
  have HBW := hide (Below.refl w0.heap.size w0)
  have HCODE0 := HCODE
  go_wp2_with fail
  refine (drawAdmitted a len cap _ hl' (HCODE.out.behind HBW.out)).mono ?_; rintro e w1 ⟨v, L, token, target, now, op, rfl, hr, hL, hsm, ht, hx, hb⟩
  replace HBW := hide (bchain HBW.out hb)
  clear hb
  obtain ⟨av, pv, rfl⟩ := strd_form hr
  have HL := hide hr
  have HSM := hide hsm
  clear hr hsm
  have hL2 : L.length ≤ 1048576 := by omega
  have ht2 : token.size ≤ 2000000 := by omega
  have hx2 : target.size ≤ maxLen := by unfold maxLen; omega
  have hcd := @admit_codes L token target now op
  have cAd := fun w h (hb : Below w0.heap.size w0 w) => implAdmitted L token target now op (.slice av L.length pv) w h hL2 ht2 hx2 (HLB.out.1.new hb) (HLB.out.2.new hb)
  have sAd := fun w h => specAdmitted L token target now op (.slice av L.length pv) w h hL2 ht2 hx2
  have cOk := fun w h => implTenantsOk L (.slice av L.length pv) w h
  have sOk := fun w h => specTenantsOk L (.slice av L.length pv) w h
  have cRe := fun w (hb : Below w0.heap.size w0 w) => implReadToken token w ht2 (HLB.out.1.new hb) (HLB.out.2.new hb)
  unfold rightV at hcd
  obtain ⟨A, hA⟩ : ∃ A, admitV L token target now op = A := ⟨_, rfl⟩
  rw [hA] at hcd cAd sAd
  clear hA
  obtain ⟨okl, hokl⟩ : ∃ x, okTs L = x := ⟨_, rfl⟩
  rw [hokl] at hcd cOk sOk
  clear hokl
  obtain ⟨⟨who, unt, rdb⟩, hrv⟩ : ∃ x, readV token = x := ⟨_, rfl⟩
  rw [hrv] at hcd cRe
  dsimp only at hcd cRe
  have cTe := fun w h => implTenantOf L who (.slice av L.length pv) w h hL2
  have hsx := ten_sm HSM.out who
  obtain ⟨⟨⟨xn, xk, xl, xq⟩, xb⟩, hxv⟩ : ∃ x, tenantV L who = x := ⟨_, rfl⟩
  rw [hxv] at hcd cTe hsx
  dsimp only at hcd cTe
  have hxk : xk.size ≤ 100 := hsx.2.1
  have hxl : xl.length ≤ 21 := hsx.2.2
  have hxk2 : xk.size ≤ maxLen := by unfold maxLen; omega
  have cSi := fun w (hb : Below w0.heap.size w0 w) => implSigned token xk now w ht2 hxk2 (HLB.out.1.new hb) (HLB.out.2.new hb)
  obtain ⟨sg, hsg⟩ : ∃ x, signV token xk now = x := ⟨_, rfl⟩
  rw [hsg] at hcd cSi
  have cLi := fun v w h hs => implListed xl target v w h hs hx2
  obtain ⟨li, hli⟩ : ∃ x, listV xl target = x := ⟨_, rfl⟩
  rw [hli] at hcd cLi
  have HCD := hide hcd
  clear hcd hrv hxv hsg hli hsx HSM
  have hAA : (A != A) = false := by simp
  have hoo : (okl != okl) = false := by simp
  go_wp2_with fail
  refine (cAd _ HL.out HBW.out).mono ?_; rintro e w2 ⟨rfl, hb⟩
  replace HL := hide (HL.out.new hb)
  replace HBW := hide (bchain HBW.out hb)
  clear hb
  go_wp2_with fail
  refine (drawTenantOf a len cap _ hl' (HCODE.out.behind HBW.out)).mono ?_; rintro e w3 ⟨v2, M, name, rfl, hr, hM, hsm, hnm, hb⟩
  replace HL := hide (HL.out.new hb)
  replace HBW := hide (bchain HBW.out hb)
  clear hb
  obtain ⟨av2, pv2, rfl⟩ := strd_form hr
  have HM := hide hr
  have hM2 : M.length ≤ 1048576 := by omega
  have cTm := fun w h => implTenantOf M name (.slice av2 M.length pv2) w h hM2
  have sTm := fun w h => specTenantOf M name (.slice av2 M.length pv2) w h hM2
  have hsy := ten_sm hsm name
  clear hr hsm
  obtain ⟨⟨⟨yn, yk, yl, yq⟩, yb⟩, hyv⟩ : ∃ x, tenantV M name = x := ⟨_, rfl⟩
  rw [hyv] at cTm sTm hsy
  dsimp only at cTm sTm
  have hyl : yl.length ≤ 21 := hsy.2.2
  have hyy : (yb != yb) = false := by simp
  clear hyv hsy
  go_wp2_with fail
  refine (cTm _ HM.out).mono ?_; rintro e w4 ⟨vl1, rfl, hol, hb⟩
  replace HL := hide (HL.out.new hb)
  replace HM := hide (HM.out.new hb)
  replace HBW := hide (bchain HBW.out hb)
  clear hb
  obtain ⟨al1, pl1, rfl, _⟩ := hol.rd.form
  have HY := hide hol.rd
  clear hol
  go_upto_region 7 with fail
  have hbV : Below w4.heap.size w4 (w4.alloc (.cells #[.string yn, .string yk, .slice al1 yl.length pl1, .int .i64 yq] 32)) := (Below.refl _ _).alloc (Nat.le_refl _) _
  have HT : Hid (RowIs (w4.alloc (.cells #[.string yn, .string yk, .slice al1 yl.length pl1, .int .i64 yq] 32)) w4.heap.size 32 [.string yn, .string yk, .slice al1 yl.length pl1, .int .i64 yq]) := rowIs_new w4 _ _
  replace HL := hide (HL.out.new hbV)
  replace HM := hide (HM.out.new hbV)
  replace HY := hide (HY.out.new hbV)
  replace HBW := hide (bchain HBW.out hbV)
  clear hbV
  generalize hV : w4.alloc (.cells #[.string yn, .string yk, .slice al1 yl.length pl1, .int .i64 yq] 32) = VHT at *
  clear hV
  generalize w4.heap.size = gHT at *
  go_wp2_with fail
  refine (drawReaches a len cap _ hl' (HCODE.out.behind HBW.out)).mono ?_; rintro e w5 ⟨v3, N, wh, rfl, hr, hN, hsm, hwh, hb⟩
  replace HL := hide (HL.out.new hb)
  replace HM := hide (HM.out.new hb)
  replace HY := hide (HY.out.new hb)
  replace HT := hide (HT.out.new hb)
  replace HBW := hide (bchain HBW.out hb)
  clear hb
  obtain ⟨av3, pv3, rfl⟩ := strd_form hr
  have HN := hide hr
  have HSM := hide hsm
  have hN2 : N.length ≤ 1048576 := by omega
  have hwh2 : wh.size ≤ maxLen := by unfold maxLen; omega
  clear hr hsm
  have cRc := fun w h => implReaches N wh (.slice av3 N.length pv3) w h hwh2
  have sRc := fun w h => specReaches N wh (.slice av3 N.length pv3) w h hwh2
  have HRI : Hid (∀ nm ∈ reachV N wh, (tenantV N nm).2 = true ∧ listV (tenantV N nm).1.list wh = true) := fun nm h => reach_is h
  have hRl := reach_len (t := wh) hN
  obtain ⟨R, hR⟩ : ∃ x, reachV N wh = x := ⟨_, rfl⟩
  rw [hR] at cRc sRc HRI hRl
  clear hR
  go_wp2_with fail
  refine (cRc _ HN.out).mono ?_; rintro e w6 ⟨vr, rfl, hor, hb⟩
  replace HL := hide (HL.out.new hb)
  replace HM := hide (HM.out.new hb)
  replace HY := hide (HY.out.new hb)
  replace HT := hide (HT.out.new hb)
  replace HN := hide (HN.out.new hb)
  replace HBW := hide (bchain HBW.out hb)
  clear hb
  obtain ⟨ar, pr, rfl, _⟩ := hor.rd.form
  have HR := hide hor.rd
  clear hor
  go_wp2_with fail
  refine (sTm _ HM.out).mono ?_; rintro e w7 ⟨vl2, rfl, hol, hb⟩
  replace HL := hide (HL.out.new hb)
  replace HM := hide (HM.out.new hb)
  replace HY := hide (HY.out.new hb)
  replace HT := hide (HT.out.new hb)
  replace HN := hide (HN.out.new hb)
  replace HR := hide (HR.out.new hb)
  replace HBW := hide (bchain HBW.out hb)
  clear hb
  obtain ⟨al2, pl2, rfl, _⟩ := hol.rd.form
  have HZ := hide hol.rd
  clear hol
  go_upto_region 10 with fail
  have hbV : Below w7.heap.size w7 (w7.alloc (.cells #[.string yn, .string yk, .slice al2 yl.length pl2, .int .i64 yq] 32)) := (Below.refl _ _).alloc (Nat.le_refl _) _
  have HX : Hid (RowIs (w7.alloc (.cells #[.string yn, .string yk, .slice al2 yl.length pl2, .int .i64 yq] 32)) w7.heap.size 32 [.string yn, .string yk, .slice al2 yl.length pl2, .int .i64 yq]) := rowIs_new w7 _ _
  replace HL := hide (HL.out.new hbV)
  replace HM := hide (HM.out.new hbV)
  replace HY := hide (HY.out.new hbV)
  replace HT := hide (HT.out.new hbV)
  replace HN := hide (HN.out.new hbV)
  replace HR := hide (HR.out.new hbV)
  replace HZ := hide (HZ.out.new hbV)
  replace HBW := hide (bchain HBW.out hbV)
  clear hbV
  generalize hV : w7.alloc (.cells #[.string yn, .string yk, .slice al2 yl.length pl2, .int .i64 yq] 32) = VHX at *
  clear hV
  generalize w7.heap.size = gHX at *
  have ca0 := HT.out.cell (j := 0) rfl; have ca1 := HT.out.cell (j := 1) rfl; have ca2 := HT.out.cell (j := 2) rfl; have ca3 := HT.out.cell (j := 3) rfl; have cal := HT.out.lt
  have cb0 := HX.out.cell (j := 0) rfl; have cb1 := HX.out.cell (j := 1) rfl; have cb2 := HX.out.cell (j := 2) rfl; have cb3 := HX.out.cell (j := 3) rfl; have cbl := HX.out.lt
  go_wp2_with fail
  refine (likeTenant1 ⟨yn, yk, yl, yq⟩ _ _ _ HY.out HZ.out (by show yl.length ≤ _; omega)).mono ?_; rintro e w8 ⟨rfl, hb⟩
  replace HL := hide (HL.out.new hb)
  replace HM := hide (HM.out.new hb)
  replace HY := hide (HY.out.new hb)
  replace HT := hide (HT.out.new hb)
  replace HN := hide (HN.out.new hb)
  replace HR := hide (HR.out.new hb)
  replace HZ := hide (HZ.out.new hb)
  replace HX := hide (HX.out.new hb)
  replace HBW := hide (bchain HBW.out hb)
  clear hb
  clear ca0 ca1 ca2 ca3 cal
  clear cb0 cb1 cb2 cb3 cbl
  clear HT HX HY HZ HM cTm sTm hyl
  go_wp2_with fail
  refine (sAd _ HL.out).mono ?_; rintro e w9 ⟨rfl, hb⟩
  replace HL := hide (HL.out.new hb)
  replace HN := hide (HN.out.new hb)
  replace HR := hide (HR.out.new hb)
  replace HBW := hide (bchain HBW.out hb)
  clear hb
  go_wp2_with fail
  refine (cOk _ HL.out).mono ?_; rintro e w10 ⟨rfl, hb⟩
  replace HL := hide (HL.out.new hb)
  replace HN := hide (HN.out.new hb)
  replace HR := hide (HR.out.new hb)
  replace HBW := hide (bchain HBW.out hb)
  clear hb
  go_wp2_with fail
  refine (sOk _ HL.out).mono ?_; rintro e w11 ⟨rfl, hb⟩
  replace HL := hide (HL.out.new hb)
  replace HN := hide (HN.out.new hb)
  replace HR := hide (HR.out.new hb)
  replace HBW := hide (bchain HBW.out hb)
  clear hb
  go_wp2_with fail
  refine (sRc _ HN.out).mono ?_; rintro e w12 ⟨vr2, rfl, hor, hb⟩
  replace HL := hide (HL.out.new hb)
  replace HN := hide (HN.out.new hb)
  replace HR := hide (HR.out.new hb)
  replace HBW := hide (bchain HBW.out hb)
  clear hb
  obtain ⟨ar2, pr2, rfl, _⟩ := hor.rd.form
  have HR2 := hide hor.rd
  clear hor
  go_wp2_with fail
  refine (likeTexts1 R _ _ _ HR.out HR2.out (by omega)).mono ?_; rintro e w13 ⟨rfl, hb⟩
  replace HL := hide (HL.out.new hb)
  replace HN := hide (HN.out.new hb)
  replace HR := hide (HR.out.new hb)
  replace HR2 := hide (HR2.out.new hb)
  replace HBW := hide (bchain HBW.out hb)
  clear hb
  clear HR2 cAd sAd cOk cRc sRc HCODE HCODE0
  go_wp2_with fail
  go_loopw [18] (fun i wr => ∃ k : Nat, i = .int .i64 (k : Int) ∧ k ≤ R.length ∧ Hid (Below w13.heap.size w13 wr)) (fun i _ => R.length - (intOf i).toNat)
  case atStart => exact ⟨0, rfl, Nat.zero_le _, Below.refl _ _⟩
  case round =>
    obtain ⟨k, rfl, hk, HB⟩ := hrel
    by_cases hlt : k < R.length
    · have hltI : (k : Int) < R.length := by omega
      obtain ⟨b, o, rfl, hbw, cx, hsz⟩ := strs_at (HR.out.new HB.out) hlt
      have hri := HRI.out R[k] (List.getElem_mem hlt)
      obtain ⟨nm, hnm⟩ : ∃ x, R[k] = x := ⟨_, rfl⟩
      rw [hnm] at cx hsz hri
      clear hnm
      have cTn := fun w h => implTenantOf N nm (.slice av3 N.length pv3) w h hN2
      obtain ⟨⟨⟨zn, zk, zl, zq⟩, zb⟩, hzv⟩ : ∃ x, tenantV N nm = x := ⟨_, rfl⟩
      rw [hzv] at cTn hri
      dsimp only at cTn hri
      obtain ⟨rfl, hzl⟩ := hri
      have cLz := fun v w h hs => implListed zl wh v w h hs hwh2
      rw [hzl] at cLz
      clear hzv hzl
      go_wp2_with fail
      refine (cTn _ (HN.out.new HB.out)).mono ?_; rintro e y1 ⟨vz, rfl, hoz, hb⟩
      obtain ⟨az, pz, rfl, _⟩ := hoz.rd.form
      have HZ := hide hoz.rd
      have HB2 := hide (bchain HB.out hb)
      clear hoz hb cx
      go_upto_region 16 with fail
      have hbV : Below y1.heap.size y1 (y1.alloc (.cells #[.string zn, .string zk, .slice az zl.length pz, .int .i64 zq] 32)) := (Below.refl _ _).alloc (Nat.le_refl _) _
      have RZ := rowIs_new y1 32 [.string zn, .string zk, .slice az zl.length pz, .int .i64 zq]
      replace HZ := hide (HZ.out.new hbV)
      replace HB2 := hide (bchain HB2.out hbV)
      clear hbV
      generalize hV : y1.alloc (.cells #[.string zn, .string zk, .slice az zl.length pz, .int .i64 zq] 32) = VZ at *
      clear hV
      have z2 := RZ.cell (j := 2) rfl
      have zl9 := RZ.lt
      go_wp2_with fail
      refine (cLz _ _ (rd_strs HZ.out) (fun x hx => by unfold maxLen; have := rd_small HZ.out x hx; omega)).mono ?_; rintro e y2 ⟨rfl, hb⟩
      have HB3 := hide (bchain HB2.out hb)
      clear hb HZ RZ z2 HB2 HB
      go_wp2_with fail
      go_roundw
      case rel => exact ⟨k + 1, by go_num, by omega, HB3⟩
      case measure => simp [intOf]; omega
    have hltI : ¬ (k : Int) < R.length := by omega
    replace HL := hide (HL.out.new HB.out)
    replace HN := hide (HN.out.new HB.out)
    replace HR := hide (HR.out.new HB.out)
    replace HBW := hide (bchain HBW.out HB.out)
    clear HB HR HN HRI HSM
    rcases HCD.out with ⟨rfl, hc⟩ | hcd
    · skip
      clear HCD
      go_wp2_with fail
      refine (sOk _ HL.out).mono ?_; rintro e y1 ⟨rfl, hb⟩
      replace HBW := hide (bchain HBW.out hb)
      clear hb
      cases okl
      · go_wp2_with fail
        go_ret
        exact ⟨rfl, HBW.out⟩
      by_cases h1 : now < 0
      · go_wp2_with fail
        go_ret
        exact ⟨rfl, HBW.out⟩
      by_cases h2 : 1000000 < now
      · go_wp2_with fail
        go_ret
        exact ⟨rfl, HBW.out⟩
      have h3 : op < 0 := by
        rcases hc with hc | hc | hc | hc
        · cases hc
        · exact absurd hc h1
        · exact absurd hc h2
        · exact hc
      go_wp2_with fail
      go_ret
      exact ⟨rfl, HBW.out⟩
    clear HCD
    have hn5 : A ≠ 500 := by
      rcases hcd with ⟨h, _⟩ | ⟨h, _⟩ | ⟨h, _⟩ | ⟨h, _⟩ <;> omega
    have hn6 : (A == 500) = false := by simpa using hn5
    go_wp2_with fail
    refine (cRe _ HBW.out).mono ?_; rintro e y1 ⟨rfl, hb⟩
    replace HL := hide (HL.out.new hb)
    replace HBW := hide (bchain HBW.out hb)
    clear hb
    go_wp2_with fail
    refine (cTe _ HL.out).mono ?_; rintro e y2 ⟨vx, rfl, hox, hb⟩
    obtain ⟨ax, px, rfl, _⟩ := hox.rd.form
    have HXL := hide hox.rd
    clear hox
    replace HL := hide (HL.out.new hb)
    replace HBW := hide (bchain HBW.out hb)
    clear hb
    go_upto_region 22 with fail
    have hbV : Below y2.heap.size y2 (y2.alloc (.cells #[.string xn, .string xk, .slice ax xl.length px, .int .i64 xq] 32)) := (Below.refl _ _).alloc (Nat.le_refl _) _
    have HX : Hid (RowIs (y2.alloc (.cells #[.string xn, .string xk, .slice ax xl.length px, .int .i64 xq] 32)) y2.heap.size 32 [.string xn, .string xk, .slice ax xl.length px, .int .i64 xq]) := rowIs_new y2 _ _
    replace HL := hide (HL.out.new hbV)
    replace HXL := hide (HXL.out.new hbV)
    replace HBW := hide (bchain HBW.out hbV)
    clear hbV
    generalize hV : y2.alloc (.cells #[.string xn, .string xk, .slice ax xl.length px, .int .i64 xq] 32) = VHX at *
    clear hV
    generalize y2.heap.size = gHX at *
    clear HL
    rcases hcd with ⟨rfl, hc⟩ | hcd
    · skip
      cases rdb
      · go_wp2_with fail
        go_ret
        exact ⟨rfl, HBW.out⟩
      cases xb
      · go_wp2_with fail
        go_ret
        exact ⟨rfl, HBW.out⟩
      by_cases hu : unt > now
      rotate_left
      · go_wp2_with fail
        go_ret
        exact ⟨rfl, HBW.out⟩
      have hsf : sg = false := by simpa [hu] using hc
      subst hsf
      have x1 := HX.out.cell (j := 1) rfl
      have xl9 := HX.out.lt
      go_wp2_with fail
      refine (cSi _ HBW.out).mono ?_; rintro e y3 ⟨rfl, hb⟩
      replace HBW := hide (bchain HBW.out hb)
      clear hb x1 xl9
      go_wp2_with fail
      go_ret
      exact ⟨rfl, HBW.out⟩
    have hrt : rdb = true ∧ xb = true ∧ now < unt ∧ sg = true := by
      rcases hcd with ⟨_, h, _⟩ | ⟨_, h, _⟩ | ⟨_, h, _⟩ <;> (simp at h; exact ⟨h.1.1.1, h.1.1.2, h.1.2, h.2⟩)
    obtain ⟨rfl, rfl, hu0, rfl⟩ := hrt
    have hu : unt > now := hu0
    have x1 := HX.out.cell (j := 1) rfl
    have xl9 := HX.out.lt
    go_wp2_with fail
    refine (cSi _ HBW.out).mono ?_; rintro e y3 ⟨rfl, hb⟩
    replace HXL := hide (HXL.out.new hb)
    replace HX := hide (HX.out.new hb)
    replace HBW := hide (bchain HBW.out hb)
    clear hb x1 xl9
    rcases hcd with ⟨rfl, _, hc⟩ | hcd
    · skip
      subst hc
      have x2 := HX.out.cell (j := 2) rfl
      have x3 := HX.out.cell (j := 3) rfl
      have xl9 := HX.out.lt
      go_wp2_with fail
      refine (cLi _ _ (rd_strs HXL.out) (fun x hx => by unfold maxLen; have := rd_small HXL.out x hx; omega)).mono ?_; rintro e y4 ⟨rfl, hb⟩
      replace HX := hide (HX.out.new hb)
      replace HBW := hide (bchain HBW.out hb)
      clear hb x2 x3 xl9
      have x3 := HX.out.cell (j := 3) rfl
      have xl9 := HX.out.lt
      go_wp2_with fail
      go_ret
      exact ⟨rfl, HBW.out⟩
    rcases hcd with ⟨rfl, _, hc⟩ | hcd
    · skip
      obtain ⟨rfl, hq⟩ := hc
      have hq2 : op ≥ xq := hq
      have x2 := HX.out.cell (j := 2) rfl
      have x3 := HX.out.cell (j := 3) rfl
      have xl9 := HX.out.lt
      go_wp2_with fail
      refine (cLi _ _ (rd_strs HXL.out) (fun x hx => by unfold maxLen; have := rd_small HXL.out x hx; omega)).mono ?_; rintro e y4 ⟨rfl, hb⟩
      replace HX := hide (HX.out.new hb)
      replace HBW := hide (bchain HBW.out hb)
      clear hb x2 x3 xl9
      have x3 := HX.out.cell (j := 3) rfl
      have xl9 := HX.out.lt
      go_wp2_with fail
      go_ret
      exact ⟨rfl, HBW.out⟩
    obtain ⟨rfl, _, hc⟩ := hcd
    obtain ⟨rfl, hq⟩ := hc
    have x2 := HX.out.cell (j := 2) rfl
    have x3 := HX.out.cell (j := 3) rfl
    have xl9 := HX.out.lt
    go_wp2_with fail
    refine (cLi _ _ (rd_strs HXL.out) (fun x hx => by unfold maxLen; have := rd_small HXL.out x hx; omega)).mono ?_; rintro e y4 ⟨rfl, hb⟩
    replace HX := hide (HX.out.new hb)
    replace HBW := hide (bchain HBW.out hb)
    clear hb x2 x3 xl9
    have x3 := HX.out.cell (j := 3) rfl
    have xl9 := HX.out.lt
    go_wp2_with fail
    go_ret
    exact ⟨rfl, HBW.out⟩

open Go.ChangeShapes Go.WideShapes Go.ChangeAt Go.Joins
open Go.ChangeMaps (open_string shut_string)


theorem own : ownKnob Tryz.prog.godebug = none := by kernel_rfl
theorem laidOut : laidOutB Tryz.prog = true := by kernel_rfl

theorem witness_row (os : Os) {H : Type} (enc : TypeId × Value → H) :
    (OpenSpec.ofChange Rows.fnAdmitsSpec).preRow enc Tryz.prog Tryz.f3 Rows.fnAdmitsRow.domain false Rows.fnAdmitsRow.laid ((({ World.holding Tryz.prog os ⟨#[.cells #[.string ⟨#[118, 97, 108, 117, 101, 32, 111, 117, 116, 32, 111, 102, 32, 114, 97, 110, 103, 101]⟩] 161, .cells #[.string ⟨#[105, 110, 118, 97, 108, 105, 100, 32, 115, 121, 110, 116, 97, 120]⟩] 161], #[], []⟩ with heap := putAll (World.holding Tryz.prog os ⟨#[.cells #[.string ⟨#[118, 97, 108, 117, 101, 32, 111, 117, 116, 32, 111, 102, 32, 114, 97, 110, 103, 101]⟩] 161, .cells #[.string ⟨#[105, 110, 118, 97, 108, 105, 100, 32, 115, 121, 110, 116, 97, 120]⟩] 161], #[], []⟩).heap (World.settled Tryz.prog os).heap.size } : World)).forCall (fun _ _ => 0) ⟨#[], #[.slice none 0 0], []⟩).memory #[.slice none 0 0] := by
  have hw : (DataW.whole enc Tryz.prog ((({ World.holding Tryz.prog os ⟨#[.cells #[.string ⟨#[118, 97, 108, 117, 101, 32, 111, 117, 116, 32, 111, 102, 32, 114, 97, 110, 103, 101]⟩] 161, .cells #[.string ⟨#[105, 110, 118, 97, 108, 105, 100, 32, 115, 121, 110, 116, 97, 120]⟩] 161], #[], []⟩ with heap := putAll (World.holding Tryz.prog os ⟨#[.cells #[.string ⟨#[118, 97, 108, 117, 101, 32, 111, 117, 116, 32, 111, 102, 32, 114, 97, 110, 103, 101]⟩] 161, .cells #[.string ⟨#[105, 110, 118, 97, 108, 105, 100, 32, 115, 121, 110, 116, 97, 120]⟩] 161], #[], []⟩).heap (World.settled Tryz.prog os).heap.size } : World)).forCall (fun _ _ => 0) ⟨#[], #[.slice none 0 0], []⟩).memory Tryz.f3.params.toList (OpenSpec.ofChange Rows.fnAdmitsSpec).vars false (#[.slice none 0 0] : Array Value).toList 8).isSome = true := by kernel_rfl
  obtain ⟨x, hx⟩ := Option.isSome_iff_exists.1 hw
  exact OpenSpec.preRow_of_cond 8 hx rfl (fun k hk => by cases hk) (by kernel_rfl) (laid7 os _)

set_option maxRecDepth 100000 in
theorem lifted (os : Os) (started : os.Started) (H : Type) (enc : TypeId × Value → H) (F : Stop.Interp) :
    ReturnsInHanded {} Tryz.checked os 3 .any ((OpenSpec.ofChange Rows.fnAdmitsSpec).preRow enc Tryz.prog Tryz.f3 Rows.fnAdmitsRow.domain false Rows.fnAdmitsRow.laid) (((OpenSpec.ofChange Rows.fnAdmitsSpec).at F).post enc Tryz.prog Tryz.f3 false true false false) := by
  refine returnsInHanded_of_row (C := Tryz.checked) (s := OpenSpec.ofChange Rows.fnAdmitsSpec) own started (by kernel_rfl) Tryz.func3
    (witness_row_atRef (enc := enc) (C := Tryz.checked) false (({ World.holding Tryz.prog os ⟨#[.cells #[.string ⟨#[118, 97, 108, 117, 101, 32, 111, 117, 116, 32, 111, 102, 32, 114, 97, 110, 103, 101]⟩] 161, .cells #[.string ⟨#[105, 110, 118, 97, 108, 105, 100, 32, 115, 121, 110, 116, 97, 120]⟩] 161], #[], []⟩ with heap := putAll (World.holding Tryz.prog os ⟨#[.cells #[.string ⟨#[118, 97, 108, 117, 101, 32, 111, 117, 116, 32, 111, 102, 32, 114, 97, 110, 103, 101]⟩] 161, .cells #[.string ⟨#[105, 110, 118, 97, 108, 105, 100, 32, 115, 121, 110, 116, 97, 120]⟩] 161], #[], []⟩).heap (World.settled Tryz.prog os).heap.size } : World)) #[.slice none 0 0] rfl (by kernel_rfl) (by kernel_rfl) (by kernel_rfl) (witness_row os enc)) ?_
  intro W base args ds gs before hval0 hW hcnd _ _ hL hSO _
  have hval : ∀ (j : Nat) t v, Tryz.f3.params[j]? = some t → args[j]? = some v → Value.okWide Tryz.prog W .any base t v := hval0
  have hW' := hW
  obtain ⟨p, q, hA0, hV, rfl, hfz, hnd⟩ := hW
  have hA : DataW.TrodAll enc Tryz.prog W 0 (fun _ => true) true Tryz.f3.params.toList args.toList ds p := hA0
  rw [Tryz.params3] at hA hval
  obtain ⟨v0, vs0, d0, ds0, p0, q0, hargs, rfl, rfl, h0, r0⟩ := trodAll_cons hA
  obtain ⟨rfl, rfl, rfl⟩ := trodAll_nil r0
  obtain rfl : args = #[v0] := by cases args; simp_all
  obtain ⟨rfl, rfl⟩ := trodVars_none hV
  have hlib := libs_of7 hL hSO
  have k0 := h0
  have lt0 : ∀ x ∈ p0, x.block < W.heap.size := by obtain ⟨m, hm⟩ := k0; exact DataW.trod_lt m _ _ _ hm
  obtain ⟨a0, len0, cap0, rfl⟩ := okWide_slice Tryz.underlying22 (hval 0 22 v0 rfl rfl); obtain ⟨hl0, hc0⟩ := open_code h0
  clear hA0 hval0
  refine (walk a0 len0 cap0 W hl0 hc0 hlib).mono fun e W' ⟨he, bel⟩ => ?_
  subst he
  exact ⟨_, rfl, _, _, _, [], _, [], hW', trodAll_mk1 (shut_bool Tryz.underlying4 _), (trodAll_cons_mk (Below.trod laidOut (by kernel_rfl) (of_decide_eq_true (by kernel_rfl)) k0 bel lt0) trodAll_mk0), rfl, bel.frame _, fun h => by cases h⟩

theorem over : Rows.fnAdmitsRow.holds Tryz.pinned (OpenSpec.ofChange Rows.fnAdmitsSpec) :=
  OpenClaim.holds_of_cond 3 Tryz.f3 rfl rfl rfl rfl rfl rfl rfl ⟨rfl, rfl, rfl, rfl, rfl⟩ rfl rfl rfl rfl rfl (by kernel_rfl) Tryz.func3 (by kernel_rfl)
    (of_decide_eq_true (by kernel_rfl)) (by unfold Func.isWrapper; first | (rw [if_pos (by decide +kernel)]; kernel_rfl) | (rw [if_neg (by decide +kernel)]; exact ⟨rfl, rfl⟩))
    (fun os started H enc _ F => by rw [OpenClaim.pre_eq_preRow]; exact lifted os started H enc F)

theorem card : Rows.FnAdmitsCardSaid :=
  Claim7.holds_tied_plain_at .later [] [.data, .data, .data, .data, .sentinel, .sentinel, .pinned] true (true, "18c0c22fb6843d6723af6af8fc5d231ba9bbfcc513b0587a2b6f2d28f790867a") true
    over (fun _ h => by cases h) (by kernel_rfl) (fun _ h => by cases h) fnAdmits_row_tie rfl ⟨rfl, rfl⟩ (by kernel_rfl) rfl
    (fun f fn hf hfn => by
      obtain rfl : f = 3 := Option.some.inj ((show Tryz.prog.funcNamed "loop.example/g00296/laws.FnAdmits" = some 3 by kernel_rfl).symm.trans hf) |>.symm
      obtain rfl : fn = Tryz.f3 := (Option.some.inj (Tryz.func3.symm.trans hfn)).symm
      exact ⟨by kernel_rfl, fun j t ht => by
        rw [Tryz.params3] at ht
        have hm : t ∈ [22] := by simpa using Array.mem_of_getElem? ht
        have hall : ([22].all fun u => !Tryz.prog.wantsStandIn u) = true := by kernel_rfl
        exact (show Tryz.prog.wantsStandIn t = false by simpa using List.all_eq_true.1 hall t hm)⟩)
    (by kernel_rfl)

end lawAdmits

theorem lawAdmits_proved : Rows.FnAdmitsCardSaid := lawAdmits.card
#print axioms lawAdmits_proved
end Go.Proofs.YtfemmnhfllbgjaaGreatDoor
