/- The law FnExactServed returns true at every argument and leaves it as it was: impl.Served answers as its model, writes into no argument, and its answer owns its memory. No condition. -/
import Derived.Test.YteojibdnphaooaaTurnSpec2
import Derived.Test.YteojibdnphaooaaTurnQueue
import Derived.Test.YteojibdnphaooaaTurnServed
import Derived.Test.YteojibdnphaooaaTurnSize
import Derived.Test.YteojibdnphaooaaTurnImpl
import Derived.Test.YteojibdnphaooaaShRound
import Derived.Test.YteojibdnphaooaaRowIs
import Derived.WalkKit
import Derived.ProofKit
import Derived.OpenShut
import Derived.ShutString
import Derived.ChangeOld
import Derived.Below
import Derived.Lib.SmallJoins
import Derived.Deep.RegionHeld3
import Derived.Deep.Cut
import Derived.Deep.DeepCutAuto


namespace Go.Proofs.Yteojibdnphaooaa
open Go.RowKit
set_option maxRecDepth 100000
namespace exactServed
open Go.ChangeShapes Go.WideShapes Go.ChangeAt Go.RowKit Go.Joins
set_option linter.unusedVariables false
set_option linter.unusedSimpArgs false

set_option maxRecDepth 100000 in
set_option maxHeartbeats 8000000 in
theorem walk (d : RoundD) (vls : Value) (w : World) (hr : RdR lineS w vls d.ls) :
    Calls Try.prog 7 #[.agg #[.int .i64 d.turn, .bool d.given, vls]] w fun x w' => x = .returned (.bool true) ∧ Below w.heap.size w w' := by
  have HR := hide hr
  obtain ⟨ad, cap, rfl, _⟩ := hr.form
  clear hr
  obtain ⟨⟨dr, dk⟩, hD⟩ : ∃ y, y = servedD d := ⟨_, rfl⟩
  have HD := hide hD
  clear hD
  go_enter Try.func7, Try.ntmps7
  go_wp2_with fail
  generalize hV : w.alloc (.cells #[.int .i64 d.turn, .bool d.given, .slice ad d.ls.length cap] 43) = V
  have HBW : Hid (Below w.heap.size w V) := by show Below _ _ _; rw [← hV]; exact (Below.refl _ _).alloc (Nat.le_refl _) _
  have HA : Hid (RowIs V w.heap.size 43 [.int .i64 d.turn, .bool d.given, .slice ad d.ls.length cap]) := by show RowIs _ _ _ _; rw [← hV]; exact rowIs_new w 43 [.int .i64 d.turn, .bool d.given, .slice ad d.ls.length cap]
  have hlV := HA.out.lt
  clear hV
  obtain ⟨left, hleft⟩ : ∃ left, (1048576 : Int) - szRound d = left := ⟨_, rfl⟩
  have hcall := fun w h => szRound1 d (.slice ad d.ls.length cap) 1048576 w h (by omega) (by omega)
  rw [hleft] at hcall
  refine (hcall _ (HR.out.new HBW.out)).mono ?_; clear hcall
  rintro x w0 ⟨rfl | ⟨rfl, hp⟩, hb0⟩
  · go_wp2_with fail
    go_ret
    exact ⟨rfl, bchain HBW.out hb0⟩
  have hs : szRound d ≤ 1048576 := by omega
  have hl0 : ¬ left < 0 := by omega
  have hlu : left ≤ 1048576 := by have := szRound_nn d; omega
  clear hleft
  replace HA := hide (HA.out.new hb0)
  replace HBW := hide (bchain HBW.out hb0)
  have zhb0 := hb0.size
  clear hb0
  have x0 := HA.out.cell (j := 0) rfl
  have x1 := HA.out.cell (j := 1) rfl
  have x2 := HA.out.cell (j := 2) rfl
  have lx := HA.out.lt
  go_wp2_with fail
  refine (toRound1 d _ _ (HR.out.new HBW.out) hs).mono ?_
  rintro x w1 ⟨vt, rfl, hot, hbw1⟩
  obtain ⟨a6, p6, rfl, _⟩ := hot.form
  clear x0 x1 x2 lx
  have O6 := hide hot
  clear hot
  replace HA := hide (HA.out.new hbw1)
  replace HBW := hide (bchain HBW.out hbw1)
  have zhbw1 := hbw1.size
  clear hbw1
  go_wp2_with fail
  have hc := specServed d (.slice a6 d.ls.length p6)  w1 O6.out.rd
  rw [← HD.out] at hc
  dsimp only at hc
  refine hc.mono ?_; rintro x w2 ⟨vz, rfl, hoz, hbw2⟩
  clear hc
  obtain ⟨aS, pS, rfl, _⟩ := hoz.form
  have OS := hide hoz
  clear hoz
  replace HA := hide (HA.out.new hbw2)
  replace O6 := hide (O6.out.new hbw2)
  replace HBW := hide (bchain HBW.out hbw2)
  have zhbw2 := hbw2.size
  clear hbw2
  clear O6
  go_upto_region 6 with fail
  have hbw3 : Below w2.heap.size w2 (w2.alloc (.cells #[.int .i64 dr.turn, .bool dr.given, .slice aS dr.ls.length pS] 26)) := (Below.refl _ _).alloc (Nat.le_refl _) _
  have BS : Hid (RowIs (w2.alloc (.cells #[.int .i64 dr.turn, .bool dr.given, .slice aS dr.ls.length pS] 26)) w2.heap.size 26 [.int .i64 dr.turn, .bool dr.given, .slice aS dr.ls.length pS]) := rowIs_new w2 26 [.int .i64 dr.turn, .bool dr.given, .slice aS dr.ls.length pS]
  generalize w2.alloc (.cells #[.int .i64 dr.turn, .bool dr.given, .slice aS dr.ls.length pS] 26) = w3 at *
  have ltBS := BS.out.lt
  replace HA := hide (HA.out.new hbw3)
  replace OS := hide (OS.out.new hbw3)
  replace HBW := hide (bchain HBW.out hbw3)
  have zhbw3 := hbw3.size
  clear hbw3
  generalize hgBS : w2.heap.size = gBS at *
  have x0 := HA.out.cell (j := 0) rfl
  have x1 := HA.out.cell (j := 1) rfl
  have x2 := HA.out.cell (j := 2) rfl
  have lx := HA.out.lt
  go_wp2_with fail
  refine (toRound1 d _ _ (HR.out.new HBW.out) hs).mono ?_
  rintro x w4 ⟨vt, rfl, hot, hbw4⟩
  obtain ⟨a8, p8, rfl, _⟩ := hot.form
  clear x0 x1 x2 lx
  have O8 := hide hot
  clear hot
  replace HA := hide (HA.out.new hbw4)
  replace BS := hide (BS.out.new hbw4)
  replace OS := hide (OS.out.new hbw4)
  replace HBW := hide (bchain HBW.out hbw4)
  have zhbw4 := hbw4.size
  clear hbw4
  go_upto_region 7 with fail
  have hbw5 : Below w4.heap.size w4 (w4.alloc (.cells #[.int .i64 d.turn, .bool d.given, .slice a8 d.ls.length p8] 26)) := (Below.refl _ _).alloc (Nat.le_refl _) _
  have B8 : Hid (RowIs (w4.alloc (.cells #[.int .i64 d.turn, .bool d.given, .slice a8 d.ls.length p8] 26)) w4.heap.size 26 [.int .i64 d.turn, .bool d.given, .slice a8 d.ls.length p8]) := rowIs_new w4 26 [.int .i64 d.turn, .bool d.given, .slice a8 d.ls.length p8]
  generalize w4.alloc (.cells #[.int .i64 d.turn, .bool d.given, .slice a8 d.ls.length p8] 26) = w5 at *
  have ltB8 := B8.out.lt
  replace HA := hide (HA.out.new hbw5)
  replace BS := hide (BS.out.new hbw5)
  replace OS := hide (OS.out.new hbw5)
  replace O8 := hide (O8.out.new hbw5)
  replace HBW := hide (bchain HBW.out hbw5)
  have zhbw5 := hbw5.size
  clear hbw5
  generalize hgB8 : w4.heap.size = gB8 at *
  have t0 := B8.out.cell (j := 0) rfl
  have t1 := B8.out.cell (j := 1) rfl
  have t2 := B8.out.cell (j := 2) rfl
  have lt := B8.out.lt
  go_wp2_with fail
  have hc := implServed d (.slice a8 d.ls.length p8)  w5 O8.out.rd
  rw [← HD.out] at hc
  dsimp only at hc
  refine hc.mono ?_; rintro x w6 ⟨vz, rfl, hoz, hbw6⟩
  clear hc
  obtain ⟨aI, pI, rfl, _⟩ := hoz.form
  have OI := hide hoz
  clear hoz
  replace HA := hide (HA.out.new hbw6)
  replace BS := hide (BS.out.new hbw6)
  replace B8 := hide (B8.out.new hbw6)
  replace OS := hide (OS.out.new hbw6)
  replace O8 := hide (O8.out.new hbw6)
  replace HBW := hide (bchain HBW.out hbw6)
  have zhbw6 := hbw6.size
  clear hbw6
  clear t0 t1 t2 lt
  go_upto_region 8 with fail
  have hbw7 : Below w6.heap.size w6 (w6.alloc (.cells #[.int .i64 dr.turn, .bool dr.given, .slice aI dr.ls.length pI] 26)) := (Below.refl _ _).alloc (Nat.le_refl _) _
  have BI : Hid (RowIs (w6.alloc (.cells #[.int .i64 dr.turn, .bool dr.given, .slice aI dr.ls.length pI] 26)) w6.heap.size 26 [.int .i64 dr.turn, .bool dr.given, .slice aI dr.ls.length pI]) := rowIs_new w6 26 [.int .i64 dr.turn, .bool dr.given, .slice aI dr.ls.length pI]
  generalize w6.alloc (.cells #[.int .i64 dr.turn, .bool dr.given, .slice aI dr.ls.length pI] 26) = w7 at *
  have ltBI := BI.out.lt
  replace HA := hide (HA.out.new hbw7)
  replace BS := hide (BS.out.new hbw7)
  replace B8 := hide (B8.out.new hbw7)
  replace OS := hide (OS.out.new hbw7)
  replace O8 := hide (O8.out.new hbw7)
  replace OI := hide (OI.out.new hbw7)
  replace HBW := hide (bchain HBW.out hbw7)
  have zhbw7 := hbw7.size
  clear hbw7
  generalize hgBI : w6.heap.size = gBI at *
  have hcnt : 1 + cntLineS dr.ls ≤ 1000000000 := by have h1 := served_small d; rw [← HD.out] at h1; (try dsimp only at h1); omega
  have hcn2 : 1 + cntLineS d.ls ≤ 1000000000 := by have h2 := cnt_lines d.ls; have h3 : szRound d = szLineS d.ls := rfl; omega
  have t0 := BI.out.cell (j := 0) rfl
  have t1 := BI.out.cell (j := 1) rfl
  have t2 := BI.out.cell (j := 2) rfl
  have lt := BI.out.lt
  have s0 := BS.out.cell (j := 0) rfl
  have s1 := BS.out.cell (j := 1) rfl
  have s2 := BS.out.cell (j := 2) rfl
  have ls := BS.out.lt
  go_wp2_with fail
  refine (eqRound1 dr _ _ _ OI.out.rd OS.out.rd).mono ?_; rintro x w8 ⟨rfl, hbw8⟩
  clear t0 t1 t2 lt
  clear s0 s1 s2 ls
  replace HA := hide (HA.out.new hbw8)
  replace BS := hide (BS.out.new hbw8)
  replace B8 := hide (B8.out.new hbw8)
  replace BI := hide (BI.out.new hbw8)
  replace OS := hide (OS.out.new hbw8)
  replace O8 := hide (O8.out.new hbw8)
  replace OI := hide (OI.out.new hbw8)
  replace HBW := hide (bchain HBW.out hbw8)
  have zhbw8 := hbw8.size
  clear hbw8
  go_upto_region 10 with fail
  have t0 := B8.out.cell (j := 0) rfl
  have t1 := B8.out.cell (j := 1) rfl
  have t2 := B8.out.cell (j := 2) rfl
  have lt := B8.out.lt
  have x0 := HA.out.cell (j := 0) rfl
  have x1 := HA.out.cell (j := 1) rfl
  have x2 := HA.out.cell (j := 2) rfl
  have lx := HA.out.lt
  go_region_held3 (fun w' => w'.cell? ⟨gB8, 0, none⟩ = some (.int .i64 d.turn) ∧ w'.cell? ⟨gB8, 1, none⟩ = some (.bool d.given) ∧ w'.cell? ⟨gB8, 2, none⟩ = some (.slice a8 d.ls.length p8) ∧ w'.cell? ⟨w.heap.size, 0, none⟩ = some (.int .i64 d.turn) ∧ w'.cell? ⟨w.heap.size, 1, none⟩ = some (.bool d.given) ∧ w'.cell? ⟨w.heap.size, 2, none⟩ = some (.slice ad d.ls.length cap)) (first | go_keep | (simp [*, go_sem]; done))
    (first
      | (go_at_call 25; refine (toRound1 d _ _ (HR.out.new (bo_drewN _ HBW.out)) hs).mono ?_; rintro x wa ⟨va, rfl, hoa, hba⟩; obtain ⟨aa, pa, rfl, _⟩ := hoa.form; have HOa := hide hoa.rd; clear hoa; have hza := hba.size; (try simp at hza); have k0 := fun o => hba.cell (p := ⟨w.heap.size, o, none⟩) (by first | (simp; done) | (simp; omega) | omega); have k1 := fun o => hba.cell (p := ⟨gB8, o, none⟩) (by first | (simp; done) | (simp; omega) | omega))
      | (go_at_call 26; refine (eqRound1 d _ _ _ (O8.out.rd.new (bchain (bo_drewN _ (Below.refl _ _)) hba)) HOa.out).mono ?_; rintro x wb ⟨rfl, hbb⟩; have hzb := hbb.size; (try simp at hzb); have k2 := fun o => hbb.cell (p := ⟨w.heap.size, o, none⟩) (by first | (simp; done) | (simp; omega) | omega); have k3 := fun o => hbb.cell (p := ⟨gB8, o, none⟩) (by first | (simp; done) | (simp; omega) | omega)))
  have hbq : Below w8.heap.size w8 wb := bchain (bchain (bo_drewN _ (Below.refl _ _)) hba) hbb
  clear k0 k1 k2 k3 hba hbb HOa
  clear t0 t1 t2 lt
  clear x0 x1 x2 lx
  replace HA := hide (HA.out.new hbq)
  replace BS := hide (BS.out.new hbq)
  replace B8 := hide (B8.out.new hbq)
  replace BI := hide (BI.out.new hbq)
  replace OS := hide (OS.out.new hbq)
  replace O8 := hide (O8.out.new hbq)
  replace OI := hide (OI.out.new hbq)
  replace HBW := hide (bchain HBW.out hbq)
  have zhbq := hbq.size
  clear hbq
  have t0 := B8.out.cell (j := 0) rfl
  have t1 := B8.out.cell (j := 1) rfl
  have t2 := B8.out.cell (j := 2) rfl
  have lt := B8.out.lt
  go_wp2_with fail
  clear t0 t1 t2 lt
  obtain ⟨bs, hob, hnb, hbd⟩ := O8.out
  refine (markRound1 d _ 1 bs _ hob hnb hcn2).mono ?_; rintro x w9 ⟨rfl, hm, htb⟩
  have htw9 := htb.turn (lo := w3.heap.size) (hi := gB8) hbd
  clear hm htb hob hnb hbd bs O8
  clear B8
  replace HA := hide (HA.out.kept (htw9.block _ HA.out.lt (by omega)))
  replace BS := hide (BS.out.kept (htw9.block _ BS.out.lt (by omega)))
  replace BI := hide (BI.out.kept (htw9.block _ BI.out.lt (by omega)))
  replace OS := hide (OS.out.turn htw9 (by omega))
  replace OI := hide (OI.out.turn htw9 (by omega))
  replace HBW := hide (HBW.out.trans (htw9.below (by omega) HBW.out.size))
  have zhtw9 := htw9.size
  clear htw9
  obtain ⟨m8, hm8⟩ : ∃ m : Int, m = ((1 + cntLineS d.ls : Nat) : Int) := ⟨_, rfl⟩
  rw [← hm8]
  have hn8 : 0 ≤ m8 := by omega
  have HN8 := hide hm8
  clear hm8
  have t0 := BI.out.cell (j := 0) rfl
  have t1 := BI.out.cell (j := 1) rfl
  have t2 := BI.out.cell (j := 2) rfl
  have lt := BI.out.lt
  have s0 := BS.out.cell (j := 0) rfl
  have s1 := BS.out.cell (j := 1) rfl
  have s2 := BS.out.cell (j := 2) rfl
  have ls := BS.out.lt
  go_wp2_with fail
  refine (eqRound1 dr _ _ _ OI.out.rd OS.out.rd).mono ?_; rintro x w10 ⟨rfl, hbw10⟩
  clear t0 t1 t2 lt
  clear s0 s1 s2 ls
  replace HA := hide (HA.out.new hbw10)
  replace BS := hide (BS.out.new hbw10)
  replace BI := hide (BI.out.new hbw10)
  replace OS := hide (OS.out.new hbw10)
  replace OI := hide (OI.out.new hbw10)
  replace HBW := hide (bchain HBW.out hbw10)
  have zhbw10 := hbw10.size
  clear hbw10
  have t0 := BI.out.cell (j := 0) rfl
  have t1 := BI.out.cell (j := 1) rfl
  have t2 := BI.out.cell (j := 2) rfl
  have lt := BI.out.lt
  go_wp2_with fail
  clear t0 t1 t2 lt
  obtain ⟨bs, hob, hnb, hbd⟩ := OI.out
  refine (markRoundT dr _ 1 bs _ hob hnb hcnt).mono ?_; rintro x w11 ⟨rfl, hm, htb⟩
  have htw11 := htb.turn (lo := w5.heap.size) (hi := gBI) hbd
  have HM := hide hm.rd
  clear hm htb hob hnb hbd bs OI
  replace HA := hide (HA.out.kept (htw11.block _ HA.out.lt (by omega)))
  replace BS := hide (BS.out.kept (htw11.block _ BS.out.lt (by omega)))
  replace BI := hide (BI.out.kept (htw11.block _ BI.out.lt (by omega)))
  replace OS := hide (OS.out.turn htw11 (by omega))
  replace HBW := hide (HBW.out.trans (htw11.below (by omega) HBW.out.size))
  have zhtw11 := htw11.size
  clear htw11
  obtain ⟨mI, hmI⟩ : ∃ m : Int, m = ((1 + cntLineS dr.ls : Nat) : Int) := ⟨_, rfl⟩
  rw [← hmI]
  have hnI : 0 ≤ mI := by omega
  have HNI := hide hmI
  clear hmI
  have t0 := BI.out.cell (j := 0) rfl
  have t1 := BI.out.cell (j := 1) rfl
  have t2 := BI.out.cell (j := 2) rfl
  have lt := BI.out.lt
  go_wp2_with fail
  clear t0 t1 t2 lt
  refine (heldRound1 dr _ 1 _ dr.ls HM.out hcnt).mono ?_; rw [← HNI.out]; rintro x w12 ⟨rfl, hbw12⟩
  replace HA := hide (HA.out.new hbw12)
  replace BS := hide (BS.out.new hbw12)
  replace BI := hide (BI.out.new hbw12)
  replace OS := hide (OS.out.new hbw12)
  replace HM := hide (HM.out.new hbw12)
  replace HBW := hide (bchain HBW.out hbw12)
  have zhbw12 := hbw12.size
  clear hbw12
  have x0 := HA.out.cell (j := 0) rfl
  have x1 := HA.out.cell (j := 1) rfl
  have x2 := HA.out.cell (j := 2) rfl
  have lx := HA.out.lt
  go_wp2_with fail
  refine (toRound1 d _ _ (HR.out.new HBW.out) hs).mono ?_
  rintro x w13 ⟨vt, rfl, hot, hbw13⟩
  obtain ⟨a9, p9, rfl, _⟩ := hot.form
  clear x0 x1 x2 lx
  have O9 := hide hot
  clear hot
  replace HA := hide (HA.out.new hbw13)
  replace BS := hide (BS.out.new hbw13)
  replace BI := hide (BI.out.new hbw13)
  replace OS := hide (OS.out.new hbw13)
  replace HM := hide (HM.out.new hbw13)
  replace HBW := hide (bchain HBW.out hbw13)
  have zhbw13 := hbw13.size
  clear hbw13
  go_wp2_with fail
  have hc := implServed d (.slice a9 d.ls.length p9)  w13 O9.out.rd
  rw [← HD.out] at hc
  dsimp only at hc
  refine hc.mono ?_; rintro x w14 ⟨vz, rfl, hoz, hbw14⟩
  clear hc
  obtain ⟨aJ, pJ, rfl, _⟩ := hoz.form
  have OJ := hide hoz
  clear hoz
  replace HA := hide (HA.out.new hbw14)
  replace BS := hide (BS.out.new hbw14)
  replace BI := hide (BI.out.new hbw14)
  replace OS := hide (OS.out.new hbw14)
  replace O9 := hide (O9.out.new hbw14)
  replace HM := hide (HM.out.new hbw14)
  replace HBW := hide (bchain HBW.out hbw14)
  have zhbw14 := hbw14.size
  clear hbw14
  clear O9
  go_upto_region 25 with fail
  have hbw15 : Below w14.heap.size w14 (w14.alloc (.cells #[.int .i64 dr.turn, .bool dr.given, .slice aJ dr.ls.length pJ] 26)) := (Below.refl _ _).alloc (Nat.le_refl _) _
  have BJ : Hid (RowIs (w14.alloc (.cells #[.int .i64 dr.turn, .bool dr.given, .slice aJ dr.ls.length pJ] 26)) w14.heap.size 26 [.int .i64 dr.turn, .bool dr.given, .slice aJ dr.ls.length pJ]) := rowIs_new w14 26 [.int .i64 dr.turn, .bool dr.given, .slice aJ dr.ls.length pJ]
  generalize w14.alloc (.cells #[.int .i64 dr.turn, .bool dr.given, .slice aJ dr.ls.length pJ] 26) = w15 at *
  have ltBJ := BJ.out.lt
  replace HA := hide (HA.out.new hbw15)
  replace BS := hide (BS.out.new hbw15)
  replace BI := hide (BI.out.new hbw15)
  replace OS := hide (OS.out.new hbw15)
  replace OJ := hide (OJ.out.new hbw15)
  replace HM := hide (HM.out.new hbw15)
  replace HBW := hide (bchain HBW.out hbw15)
  have zhbw15 := hbw15.size
  clear hbw15
  generalize hgBJ : w14.heap.size = gBJ at *
  have t0 := BJ.out.cell (j := 0) rfl
  have t1 := BJ.out.cell (j := 1) rfl
  have t2 := BJ.out.cell (j := 2) rfl
  have lt := BJ.out.lt
  have s0 := BS.out.cell (j := 0) rfl
  have s1 := BS.out.cell (j := 1) rfl
  have s2 := BS.out.cell (j := 2) rfl
  have ls := BS.out.lt
  go_wp2_with fail
  refine (eqRound1 dr _ _ _ OJ.out.rd OS.out.rd).mono ?_; rintro x w16 ⟨rfl, hbw16⟩
  clear t0 t1 t2 lt
  clear s0 s1 s2 ls
  replace HA := hide (HA.out.new hbw16)
  replace BS := hide (BS.out.new hbw16)
  replace BI := hide (BI.out.new hbw16)
  replace BJ := hide (BJ.out.new hbw16)
  replace OS := hide (OS.out.new hbw16)
  replace OJ := hide (OJ.out.new hbw16)
  replace HM := hide (HM.out.new hbw16)
  replace HBW := hide (bchain HBW.out hbw16)
  have zhbw16 := hbw16.size
  clear hbw16
  have t0 := BI.out.cell (j := 0) rfl
  have t1 := BI.out.cell (j := 1) rfl
  have t2 := BI.out.cell (j := 2) rfl
  have lt := BI.out.lt
  go_wp2_with fail
  clear t0 t1 t2 lt
  refine (heldRound1 dr _ 1 _ dr.ls HM.out hcnt).mono ?_; rw [← HNI.out]; rintro x w17 ⟨rfl, hbw17⟩
  replace HA := hide (HA.out.new hbw17)
  replace BS := hide (BS.out.new hbw17)
  replace BI := hide (BI.out.new hbw17)
  replace BJ := hide (BJ.out.new hbw17)
  replace OS := hide (OS.out.new hbw17)
  replace OJ := hide (OJ.out.new hbw17)
  replace HM := hide (HM.out.new hbw17)
  replace HBW := hide (bchain HBW.out hbw17)
  have zhbw17 := hbw17.size
  clear hbw17
  go_wp2_with fail
  go_ret
  exact ⟨rfl, HBW.out⟩


theorem own : ownKnob Try.prog.godebug = none := by kernel_rfl
theorem laidOut : laidOutB Try.prog = true := by kernel_rfl

set_option maxRecDepth 100000 in
theorem lifted (os : Os) (started : os.Started) (H : Type) (enc : TypeId × Value → H) :
    ReturnsInHanded {} Try.checked os 7 .any (Rows.fnExactServedSpec.pre6 enc Try.prog Try.f7 Rows.fnExactServedRow.domain false) (Rows.fnExactServedSpec.post enc Try.prog Try.f7 false true false false) := by
  refine returnsInHanded_of_change (C := Try.checked) own started (by kernel_rfl) Try.func7
    (ChangeSpec.witness6 (enc := enc) (C := Try.checked) false ⟨#[], #[.agg #[.int .i64 0, .bool false, .slice none 0 0]], []⟩ 8 (by kernel_rfl) (by kernel_rfl) (by kernel_rfl) (by kernel_rfl)) ?_
  intro W base args ds gs before hval0 hW hcnd _
  have hval : ∀ (j : Nat) t v, Try.f7.params[j]? = some t → args[j]? = some v → Value.okWide Try.prog W .any base t v := hval0
  have hW' := hW
  obtain ⟨p, q, hA0, hV, rfl, hfz, hnd⟩ := hW
  have hA : DataW.TrodAll enc Try.prog W 0 (fun _ => true) true Try.f7.params.toList args.toList ds p := hA0
  rw [Try.params7] at hA hval
  obtain ⟨v0, vs0, d0, ds0, p0, q0, hargs, rfl, rfl, h0, r0⟩ := trodAll_cons hA
  obtain ⟨rfl, rfl, rfl⟩ := trodAll_nil r0
  obtain rfl : args = #[v0] := by cases args; simp_all
  obtain ⟨rfl, rfl⟩ := trodVars_none hV
  have k0 := h0
  have lt0 : ∀ x ∈ p0, x.block < W.heap.size := by obtain ⟨m, hm⟩ := k0; exact DataW.trod_lt m _ _ _ hm
  obtain ⟨d, vls, rfl, hrd⟩ := open_Round (hval 0 43 v0 rfl rfl) h0
  clear hA0 hval0
  refine (walk d vls W hrd).mono fun e W' ⟨he, bel⟩ => ?_
  subst he
  exact ⟨_, rfl, _, _, _, [], _, [], hW', trodAll_mk1 (shut_bool Try.underlying4 _), (trodAll_cons_mk (Below.trod laidOut (by kernel_rfl) (of_decide_eq_true (by kernel_rfl)) k0 bel lt0) trodAll_mk0), rfl, bel.frame _, fun h => by cases h⟩

theorem over : Rows.fnExactServedRow.holds Try.pinned (OpenSpec.ofChange Rows.fnExactServedSpec) :=
  OpenClaim.holds_of_wide 7 Try.f7 rfl rfl rfl rfl rfl rfl rfl ⟨rfl, rfl, rfl, rfl, rfl⟩ rfl rfl rfl rfl rfl (by kernel_rfl) Try.func7 (by kernel_rfl)
    (of_decide_eq_true (by kernel_rfl)) (by unfold Func.isWrapper; first | (rw [if_pos (by decide +kernel)]; kernel_rfl) | (rw [if_neg (by decide +kernel)]; exact ⟨rfl, rfl⟩))
    (fun os started H enc _ => lifted os started H enc)

end exactServed

theorem exactServed_proved : Rows.FnExactServedSaid := exactServed.over
#print axioms exactServed_proved
end Go.Proofs.Yteojibdnphaooaa
