/- The law FnBlocks returns true at every argument and leaves it as it was. No condition. -/
import Derived.Test.YtejmnkabmajebaaQDrawBlk3
import Derived.Test.YtejmnkabmajebaaQSpecBlk5
import Derived.Test.YtejmnkabmajebaaQLikeTab
import Derived.WalkKit
import Derived.ProofKit
import Derived.OpenShut
import Derived.ShutString
import Derived.ChangeOld
import Derived.Below
import Derived.Lib.SmallJoins
namespace Go.Proofs.Ytejmnkabmajebaa
open Go.RowKit
set_option maxRecDepth 100000
set_option linter.unusedSimpArgs false
set_option linter.unusedVariables false

theorem decodedD_ok (room : Int) (L : List Fd) (s : ByteArray) : ∀ f ∈ (decodedD room L s).1, okF f = true := by
  cases h : okT room L
  · simp [decodedD, h]
  · rw [dec_both s h]
    cases e : decI room s.size L [] s with
    | none => simp
    | some X =>
      obtain ⟨l, e1, e2, e3, e4⟩ := decI_is _ _ _ _ _ h e
      subst e1
      simpa using e3
theorem encodedD_no {room : Int} {L l : List Fd} {ds : ByteArray} {y : Int × List Fd} (h : encodedD room L l = (ds, y, false)) : ds = ⟨#[]⟩ := by
  unfold encodedD at h
  split at h
  · split at h
    · simp at h
    · simp only [Prod.mk.injEq] at h; exact h.1.symm
  · simp only [Prod.mk.injEq] at h; exact h.1.symm
theorem encodedD_yes {room : Int} {L l : List Fd} {ds : ByteArray} {y : Int × List Fd} (h : encodedD room L l = (ds, y, true)) : okT room L = true ∧ okFs l = true := by
  unfold encodedD at h
  split at h
  · rename_i h1
    split at h
    · rename_i h2; exact ⟨h1, h2⟩
    · simp at h
  · simp at h

namespace lawBlocks
set_option maxHeartbeats 8000000 in
set_option maxRecDepth 100000 in
theorem walk (a : Option Addr) (len cap : Nat) (w : World) (hl : len ≤ maxLen) (hcode : CodeAt w a len w.heap.size) :
    Calls Try.prog 3 #[.slice a len cap] w fun x w' => x = .returned (.bool true) ∧ Below w.heap.size w w' := by
  unfold maxLen at hl
  by_cases hbig : (4096 : Int) < len
  · go_enter Try.func3, Try.ntmps3
    go_wp2_with fail
    refine (big1 a len cap _).mono ?_; rw [decide_eq_true hbig]; rintro x w1 ⟨rfl, rfl⟩
    go_wp2_with fail
    go_ret
    exact ⟨rfl, Below.refl _ _⟩
  have hl' : len ≤ 4096 := by omega
  have HCODE := hide hcode
  clear hcode
  go_enter Try.func3, Try.ntmps3
  go_wp2_with fail
  refine (big1 a len cap _).mono ?_; rw [decide_eq_false (by omega)]; rintro x w0 ⟨rfl, rfl⟩
  have HBW := hide (Below.refl w0.heap.size w0)
  go_wp2_with fail
  refine (drawEncoded a len cap _ hl' HCODE.out).mono ?_; rintro x w1 ⟨rt, vt, lv, Lt, l, rfl, hrt, hrl, hst, hsl, hlt, h21, hb1⟩
  obtain ⟨at1, pt, rfl, _⟩ := hrt.2
  obtain ⟨la, lp, rfl, _⟩ := hrl.2
  have HST : Hid (∀ u ∈ Lt, u.fine) := fun u hu => (hst u hu).fine
  have HSL : Hid (∀ u ∈ l, u.fine) := fun u hu => (hsl u hu).fine
  clear hst hsl
  replace HBW := hide (bchain HBW.out hb1)
  clear hb1
  have RT := hide hrt
  clear hrt
  have RL := hide hrl
  clear hrl
  obtain ⟨v2, hv2⟩ : ∃ V, w1.alloc (.cells #[.int .i64 rt, .slice at1 Lt.length pt] 26) = V := ⟨_, rfl⟩
  have hbv2 : Below w1.heap.size w1 v2 := by rw [← hv2]; exact (Below.refl _ _).alloc (Nat.le_refl _) _
  have B3 : Hid (RowIs v2 w1.heap.size 26 [.int .i64 rt, .slice at1 Lt.length pt]) := by show RowIs _ _ _ _; rw [← hv2]; exact rowIs_new w1 _ _
  replace RT := hide (RT.out.new hbv2)
  replace RL := hide (RL.out.new hbv2)
  replace HBW := hide (bchain HBW.out hbv2)
  clear hbv2
  obtain ⟨⟨ds, ⟨dr, dL⟩, db⟩, hD1⟩ : ∃ D, encodedD rt Lt l = D := ⟨_, rfl⟩
  have hdz := encodedD_size rt Lt l
  rw [hD1] at hdz
  simp only at hdz
  have HD1 := hide hD1
  clear hD1
  have x0 := B3.out.cell (j := 0) rfl
  have x1 := B3.out.cell (j := 1) rfl
  go_wp2_with fail
  clear hv2
  clear x0 x1
  have hcl := implEncoded Lt l rt _ _ _ RT.out HST.out RL.out HSL.out
  rw [HD1.out] at hcl
  dsimp only at hcl
  refine hcl.mono ?_; clear hcl; rintro x w3 ⟨u3, rfl, ho3, hb3⟩
  obtain ⟨a3, p3, rfl, _⟩ := owns_form ho3
  have hr3 := reads_of_owns ho3
  clear ho3
  replace RT := hide (RT.out.new hb3)
  replace RL := hide (RL.out.new hb3)
  replace B3 := hide (B3.out.new hb3)
  replace HBW := hide (bchain HBW.out hb3)
  clear hb3
  have R6 := hide hr3
  clear hr3
  obtain ⟨v4, hv4⟩ : ∃ V, w3.alloc (.cells #[.int .i64 dr, .slice a3 dL.length p3] 26) = V := ⟨_, rfl⟩
  have hbv4 : Below w3.heap.size w3 v4 := by rw [← hv4]; exact (Below.refl _ _).alloc (Nat.le_refl _) _
  have B6 : Hid (RowIs v4 w3.heap.size 26 [.int .i64 dr, .slice a3 dL.length p3]) := by show RowIs _ _ _ _; rw [← hv4]; exact rowIs_new w3 _ _
  replace RT := hide (RT.out.new hbv4)
  replace RL := hide (RL.out.new hbv4)
  replace B3 := hide (B3.out.new hbv4)
  replace R6 := hide (R6.out.new hbv4)
  replace HBW := hide (bchain HBW.out hbv4)
  clear hbv4
  go_wp2_with fail
  clear hv4
  refine (drawDecoded a len cap _ hl' (HCODE.out.behind HBW.out)).mono ?_; rintro x w5 ⟨ra, va, La, s, rfl, hra, hsa, hla, hsz, hb5⟩
  obtain ⟨aa, pa, rfl, _⟩ := hra.2
  have HSA : Hid (∀ u ∈ La, u.fine) := fun u hu => (hsa u hu).fine
  have hsm : s.size ≤ maxLen := by unfold maxLen; omega
  clear hsa
  replace RT := hide (RT.out.new hb5)
  replace RL := hide (RL.out.new hb5)
  replace B3 := hide (B3.out.new hb5)
  replace R6 := hide (R6.out.new hb5)
  replace B6 := hide (B6.out.new hb5)
  replace HBW := hide (bchain HBW.out hb5)
  clear hb5
  have R8 := hide hra
  clear hra
  obtain ⟨v6, hv6⟩ : ∃ V, w5.alloc (.cells #[.int .i64 ra, .slice aa La.length pa] 26) = V := ⟨_, rfl⟩
  have hbv6 : Below w5.heap.size w5 v6 := by rw [← hv6]; exact (Below.refl _ _).alloc (Nat.le_refl _) _
  have B8 : Hid (RowIs v6 w5.heap.size 26 [.int .i64 ra, .slice aa La.length pa]) := by show RowIs _ _ _ _; rw [← hv6]; exact rowIs_new w5 _ _
  replace RT := hide (RT.out.new hbv6)
  replace RL := hide (RL.out.new hbv6)
  replace B3 := hide (B3.out.new hbv6)
  replace R6 := hide (R6.out.new hbv6)
  replace B6 := hide (B6.out.new hbv6)
  replace R8 := hide (R8.out.new hbv6)
  replace HBW := hide (bchain HBW.out hbv6)
  clear hbv6
  obtain ⟨⟨gl, ⟨yr, yL⟩, fb⟩, hD2⟩ : ∃ D, decodedD ra La s = D := ⟨_, rfl⟩
  have hgk := decodedD_ok ra La s
  rw [hD2] at hgk
  have HGL : Hid (∀ u ∈ gl, u.fine) := fun u hu => fine_of (hgk u hu)
  have HD2 := hide hD2
  clear hD2 hgk
  have x0 := B8.out.cell (j := 0) rfl
  have x1 := B8.out.cell (j := 1) rfl
  go_wp2_with fail
  clear hv6
  clear x0 x1
  have hcl := implDecoded La ra _ s _ R8.out HSA.out hsm
  rw [HD2.out] at hcl
  dsimp only at hcl
  refine hcl.mono ?_; clear hcl; rintro x w7 ⟨t7, u7, rfl, hk7, ho7, _, hb7⟩
  obtain ⟨a7, p7, rfl, _⟩ := owns_form ho7
  obtain ⟨c7, q7, rfl, _⟩ := owns_form hk7
  have hr7 := reads_of_owns ho7
  have hs7 := reads_of_owns hk7
  clear ho7 hk7
  replace RT := hide (RT.out.new hb7)
  replace RL := hide (RL.out.new hb7)
  replace B3 := hide (B3.out.new hb7)
  replace R6 := hide (R6.out.new hb7)
  replace B6 := hide (B6.out.new hb7)
  replace R8 := hide (R8.out.new hb7)
  replace B8 := hide (B8.out.new hb7)
  replace HBW := hide (bchain HBW.out hb7)
  clear hb7
  have R10 := hide hs7
  clear hs7
  have R11 := hide hr7
  clear hr7
  obtain ⟨v8, hv8⟩ : ∃ V, w7.alloc (.cells #[.int .i64 yr, .slice a7 yL.length p7] 26) = V := ⟨_, rfl⟩
  have hbv8 : Below w7.heap.size w7 v8 := by rw [← hv8]; exact (Below.refl _ _).alloc (Nat.le_refl _) _
  have B11 : Hid (RowIs v8 w7.heap.size 26 [.int .i64 yr, .slice a7 yL.length p7]) := by show RowIs _ _ _ _; rw [← hv8]; exact rowIs_new w7 _ _
  replace RT := hide (RT.out.new hbv8)
  replace RL := hide (RL.out.new hbv8)
  replace B3 := hide (B3.out.new hbv8)
  replace R6 := hide (R6.out.new hbv8)
  replace B6 := hide (B6.out.new hbv8)
  replace R8 := hide (R8.out.new hbv8)
  replace B8 := hide (B8.out.new hbv8)
  replace R10 := hide (R10.out.new hbv8)
  replace R11 := hide (R11.out.new hbv8)
  replace HBW := hide (bchain HBW.out hbv8)
  clear hbv8
  go_wp2_with fail
  clear hv8
  refine (drawPlain a len cap _ hl' (HCODE.out.behind HBW.out)).mono ?_; rintro x w9 ⟨vp, P, rfl, hrp, hsp, hlp, hb9⟩
  obtain ⟨ap, pp, rfl, _⟩ := hrp.2
  have HSP : Hid (∀ u ∈ P, u.fine) := fun u hu => (hsp u hu).fine
  clear hsp
  replace RT := hide (RT.out.new hb9)
  replace RL := hide (RL.out.new hb9)
  replace B3 := hide (B3.out.new hb9)
  replace R6 := hide (R6.out.new hb9)
  replace B6 := hide (B6.out.new hb9)
  replace R8 := hide (R8.out.new hb9)
  replace B8 := hide (B8.out.new hb9)
  replace R10 := hide (R10.out.new hb9)
  replace R11 := hide (R11.out.new hb9)
  replace B11 := hide (B11.out.new hb9)
  replace HBW := hide (bchain HBW.out hb9)
  clear hb9
  have RP := hide hrp
  clear hrp
  go_wp2_with fail
  refine (drawFieldOf a len cap _ hl' (HCODE.out.behind HBW.out)).mono ?_; rintro x w10 ⟨vf, F, nm, rfl, hrf, hsf, hlf, hb10⟩
  obtain ⟨af, pf, rfl, _⟩ := hrf.2
  have HSF : Hid (∀ u ∈ F, u.v.size ≤ 281474976710656) := fun u hu => by have := (hsf u hu).2; omega
  clear hsf
  replace RT := hide (RT.out.new hb10)
  replace RL := hide (RL.out.new hb10)
  replace B3 := hide (B3.out.new hb10)
  replace R6 := hide (R6.out.new hb10)
  replace B6 := hide (B6.out.new hb10)
  replace R8 := hide (R8.out.new hb10)
  replace B8 := hide (B8.out.new hb10)
  replace R10 := hide (R10.out.new hb10)
  replace R11 := hide (R11.out.new hb10)
  replace B11 := hide (B11.out.new hb10)
  replace RP := hide (RP.out.new hb10)
  replace HBW := hide (bchain HBW.out hb10)
  clear hb10
  have RF := hide hrf
  clear hrf
  obtain ⟨⟨fv1, fb1⟩, hFV⟩ : ∃ D, firstV nm F = D := ⟨_, rfl⟩
  have HFV := hide hFV
  clear hFV
  go_wp2_with fail
  have hcl := implFieldOf F nm _ _ RF.out HSF.out
  rw [HFV.out] at hcl
  try dsimp only at hcl
  refine hcl.mono ?_; clear hcl; rintro x w11 ⟨rfl, hb11⟩
  replace RT := hide (RT.out.new hb11)
  replace RL := hide (RL.out.new hb11)
  replace B3 := hide (B3.out.new hb11)
  replace R6 := hide (R6.out.new hb11)
  replace B6 := hide (B6.out.new hb11)
  replace R8 := hide (R8.out.new hb11)
  replace B8 := hide (B8.out.new hb11)
  replace R10 := hide (R10.out.new hb11)
  replace R11 := hide (R11.out.new hb11)
  replace B11 := hide (B11.out.new hb11)
  replace RP := hide (RP.out.new hb11)
  replace RF := hide (RF.out.new hb11)
  replace HBW := hide (bchain HBW.out hb11)
  clear hb11
  have x0 := B3.out.cell (j := 0) rfl
  have x1 := B3.out.cell (j := 1) rfl
  go_wp2_with fail
  clear x0 x1
  have hcl := specEncoded Lt l rt _ _ _ RT.out HST.out RL.out HSL.out
  rw [HD1.out] at hcl
  dsimp only at hcl
  refine hcl.mono ?_; clear hcl; rintro x w12 ⟨u12, rfl, ho12, hb12⟩
  obtain ⟨a12, p12, rfl, _⟩ := owns_form ho12
  have hr12 := reads_of_owns ho12
  clear ho12
  replace RT := hide (RT.out.new hb12)
  replace RL := hide (RL.out.new hb12)
  replace B3 := hide (B3.out.new hb12)
  replace R6 := hide (R6.out.new hb12)
  replace B6 := hide (B6.out.new hb12)
  replace R8 := hide (R8.out.new hb12)
  replace B8 := hide (B8.out.new hb12)
  replace R10 := hide (R10.out.new hb12)
  replace R11 := hide (R11.out.new hb12)
  replace B11 := hide (B11.out.new hb12)
  replace RP := hide (RP.out.new hb12)
  replace RF := hide (RF.out.new hb12)
  replace HBW := hide (bchain HBW.out hb12)
  clear hb12
  have R19 := hide hr12
  clear hr12
  obtain ⟨v13, hv13⟩ : ∃ V, w12.alloc (.cells #[.int .i64 dr, .slice a12 dL.length p12] 26) = V := ⟨_, rfl⟩
  have hbv13 : Below w12.heap.size w12 v13 := by rw [← hv13]; exact (Below.refl _ _).alloc (Nat.le_refl _) _
  have B19 : Hid (RowIs v13 w12.heap.size 26 [.int .i64 dr, .slice a12 dL.length p12]) := by show RowIs _ _ _ _; rw [← hv13]; exact rowIs_new w12 _ _
  replace RT := hide (RT.out.new hbv13)
  replace RL := hide (RL.out.new hbv13)
  replace B3 := hide (B3.out.new hbv13)
  replace R6 := hide (R6.out.new hbv13)
  replace B6 := hide (B6.out.new hbv13)
  replace R8 := hide (R8.out.new hbv13)
  replace B8 := hide (B8.out.new hbv13)
  replace R10 := hide (R10.out.new hbv13)
  replace R11 := hide (R11.out.new hbv13)
  replace B11 := hide (B11.out.new hbv13)
  replace RP := hide (RP.out.new hbv13)
  replace RF := hide (RF.out.new hbv13)
  replace R19 := hide (R19.out.new hbv13)
  replace HBW := hide (bchain HBW.out hbv13)
  clear hbv13
  have x0 := B6.out.cell (j := 0) rfl
  have x1 := B6.out.cell (j := 1) rfl
  have y0 := B19.out.cell (j := 0) rfl
  have y1 := B19.out.cell (j := 1) rfl
  go_wp2_with fail
  clear hv13
  clear x0 x1 y0 y1
  have hcl := likeTable1 dL dr _ _ _ R6.out R19.out
  refine hcl.mono ?_; clear hcl; rintro x w14 ⟨rfl, hb14⟩
  replace RT := hide (RT.out.new hb14)
  replace RL := hide (RL.out.new hb14)
  replace B3 := hide (B3.out.new hb14)
  replace R6 := hide (R6.out.new hb14)
  replace B6 := hide (B6.out.new hb14)
  replace R8 := hide (R8.out.new hb14)
  replace B8 := hide (B8.out.new hb14)
  replace R10 := hide (R10.out.new hb14)
  replace R11 := hide (R11.out.new hb14)
  replace B11 := hide (B11.out.new hb14)
  replace RP := hide (RP.out.new hb14)
  replace RF := hide (RF.out.new hb14)
  replace R19 := hide (R19.out.new hb14)
  replace B19 := hide (B19.out.new hb14)
  replace HBW := hide (bchain HBW.out hb14)
  clear hb14
  clear B19 R19
  obtain ⟨pv, hPV⟩ : ∃ D, plainV P = D := ⟨_, rfl⟩
  have HPV := hide hPV
  clear hPV
  go_wp2_with fail
  have hcl := implPlain P _ _ RP.out HSP.out (by omega)
  rw [HPV.out] at hcl
  try dsimp only at hcl
  refine hcl.mono ?_; clear hcl; rintro x w15 ⟨rfl, hb15⟩
  replace RT := hide (RT.out.new hb15)
  replace RL := hide (RL.out.new hb15)
  replace B3 := hide (B3.out.new hb15)
  replace R6 := hide (R6.out.new hb15)
  replace B6 := hide (B6.out.new hb15)
  replace R8 := hide (R8.out.new hb15)
  replace B8 := hide (B8.out.new hb15)
  replace R10 := hide (R10.out.new hb15)
  replace R11 := hide (R11.out.new hb15)
  replace B11 := hide (B11.out.new hb15)
  replace RP := hide (RP.out.new hb15)
  replace RF := hide (RF.out.new hb15)
  replace HBW := hide (bchain HBW.out hb15)
  clear hb15
  go_wp2_with fail
  have hcl := specPlain P _ _ RP.out HSP.out (by omega)
  rw [HPV.out] at hcl
  try dsimp only at hcl
  refine hcl.mono ?_; clear hcl; rintro x w16 ⟨rfl, hb16⟩
  replace RT := hide (RT.out.new hb16)
  replace RL := hide (RL.out.new hb16)
  replace B3 := hide (B3.out.new hb16)
  replace R6 := hide (R6.out.new hb16)
  replace B6 := hide (B6.out.new hb16)
  replace R8 := hide (R8.out.new hb16)
  replace B8 := hide (B8.out.new hb16)
  replace R10 := hide (R10.out.new hb16)
  replace R11 := hide (R11.out.new hb16)
  replace B11 := hide (B11.out.new hb16)
  replace RP := hide (RP.out.new hb16)
  replace RF := hide (RF.out.new hb16)
  replace HBW := hide (bchain HBW.out hb16)
  clear hb16
  clear RP
  have x0 := B8.out.cell (j := 0) rfl
  have x1 := B8.out.cell (j := 1) rfl
  go_wp2_with fail
  clear x0 x1
  have hcl := specDecoded La ra _ s _ R8.out HSA.out hsm
  rw [HD2.out] at hcl
  dsimp only at hcl
  refine hcl.mono ?_; clear hcl; rintro x w17 ⟨t17, u17, rfl, hk17, ho17, _, hb17⟩
  obtain ⟨a17, p17, rfl, _⟩ := owns_form ho17
  obtain ⟨c17, q17, rfl, _⟩ := owns_form hk17
  have hr17 := reads_of_owns ho17
  have hs17 := reads_of_owns hk17
  clear ho17 hk17
  replace RT := hide (RT.out.new hb17)
  replace RL := hide (RL.out.new hb17)
  replace B3 := hide (B3.out.new hb17)
  replace R6 := hide (R6.out.new hb17)
  replace B6 := hide (B6.out.new hb17)
  replace R8 := hide (R8.out.new hb17)
  replace B8 := hide (B8.out.new hb17)
  replace R10 := hide (R10.out.new hb17)
  replace R11 := hide (R11.out.new hb17)
  replace B11 := hide (B11.out.new hb17)
  replace RF := hide (RF.out.new hb17)
  replace HBW := hide (bchain HBW.out hb17)
  clear hb17
  have R21 := hide hs17
  clear hs17
  have R22 := hide hr17
  clear hr17
  obtain ⟨v18, hv18⟩ : ∃ V, w17.alloc (.cells #[.int .i64 yr, .slice a17 yL.length p17] 26) = V := ⟨_, rfl⟩
  have hbv18 : Below w17.heap.size w17 v18 := by rw [← hv18]; exact (Below.refl _ _).alloc (Nat.le_refl _) _
  have B22 : Hid (RowIs v18 w17.heap.size 26 [.int .i64 yr, .slice a17 yL.length p17]) := by show RowIs _ _ _ _; rw [← hv18]; exact rowIs_new w17 _ _
  replace RT := hide (RT.out.new hbv18)
  replace RL := hide (RL.out.new hbv18)
  replace B3 := hide (B3.out.new hbv18)
  replace R6 := hide (R6.out.new hbv18)
  replace B6 := hide (B6.out.new hbv18)
  replace R8 := hide (R8.out.new hbv18)
  replace B8 := hide (B8.out.new hbv18)
  replace R10 := hide (R10.out.new hbv18)
  replace R11 := hide (R11.out.new hbv18)
  replace B11 := hide (B11.out.new hbv18)
  replace RF := hide (RF.out.new hbv18)
  replace R21 := hide (R21.out.new hbv18)
  replace R22 := hide (R22.out.new hbv18)
  replace HBW := hide (bchain HBW.out hbv18)
  clear hbv18
  go_wp2_with fail
  clear hv18
  have hcl := likeFields1 gl _ _ _ R10.out R21.out
  refine hcl.mono ?_; clear hcl; rintro x w19 ⟨rfl, hb19⟩
  replace RT := hide (RT.out.new hb19)
  replace RL := hide (RL.out.new hb19)
  replace B3 := hide (B3.out.new hb19)
  replace R6 := hide (R6.out.new hb19)
  replace B6 := hide (B6.out.new hb19)
  replace R8 := hide (R8.out.new hb19)
  replace B8 := hide (B8.out.new hb19)
  replace R10 := hide (R10.out.new hb19)
  replace R11 := hide (R11.out.new hb19)
  replace B11 := hide (B11.out.new hb19)
  replace RF := hide (RF.out.new hb19)
  replace R21 := hide (R21.out.new hb19)
  replace R22 := hide (R22.out.new hb19)
  replace B22 := hide (B22.out.new hb19)
  replace HBW := hide (bchain HBW.out hb19)
  clear hb19
  have x0 := B11.out.cell (j := 0) rfl
  have x1 := B11.out.cell (j := 1) rfl
  have y0 := B22.out.cell (j := 0) rfl
  have y1 := B22.out.cell (j := 1) rfl
  go_wp2_with fail
  clear x0 x1 y0 y1
  have hcl := likeTable1 yL yr _ _ _ R11.out R22.out
  refine hcl.mono ?_; clear hcl; rintro x w20 ⟨rfl, hb20⟩
  replace RT := hide (RT.out.new hb20)
  replace RL := hide (RL.out.new hb20)
  replace B3 := hide (B3.out.new hb20)
  replace R6 := hide (R6.out.new hb20)
  replace B6 := hide (B6.out.new hb20)
  replace R8 := hide (R8.out.new hb20)
  replace B8 := hide (B8.out.new hb20)
  replace R10 := hide (R10.out.new hb20)
  replace R11 := hide (R11.out.new hb20)
  replace B11 := hide (B11.out.new hb20)
  replace RF := hide (RF.out.new hb20)
  replace R21 := hide (R21.out.new hb20)
  replace R22 := hide (R22.out.new hb20)
  replace B22 := hide (B22.out.new hb20)
  replace HBW := hide (bchain HBW.out hb20)
  clear hb20
  clear B22 R22 R21
  go_wp2_with fail
  have hcl := specFieldOf F nm _ _ RF.out
  rw [HFV.out] at hcl
  try dsimp only at hcl
  refine hcl.mono ?_; clear hcl; rintro x w21 ⟨rfl, hb21⟩
  replace RT := hide (RT.out.new hb21)
  replace RL := hide (RL.out.new hb21)
  replace B3 := hide (B3.out.new hb21)
  replace R6 := hide (R6.out.new hb21)
  replace B6 := hide (B6.out.new hb21)
  replace R8 := hide (R8.out.new hb21)
  replace B8 := hide (B8.out.new hb21)
  replace R10 := hide (R10.out.new hb21)
  replace R11 := hide (R11.out.new hb21)
  replace B11 := hide (B11.out.new hb21)
  replace RF := hide (RF.out.new hb21)
  replace HBW := hide (bchain HBW.out hb21)
  clear hb21
  clear RF
  cases fb
  · skip
    cases db
    · have hds := encodedD_no HD1.out
      subst hds
      go_wp2_with fail
      go_ret
      exact ⟨rfl, HBW.out⟩
    · obtain ⟨hokT, hokl⟩ := encodedD_yes HD1.out
      have hld := law_dec hokT hokl
      rw [HD1.out] at hld
      simp only at hld
      have HLD := hide hld
      have hdm : ds.size ≤ maxLen := by unfold maxLen; omega
      clear hld
      have x0 := B3.out.cell (j := 0) rfl
      have x1 := B3.out.cell (j := 1) rfl
      go_wp2_with fail
      clear x0 x1
      have hcl := implDecoded Lt rt _ ds _ RT.out HST.out hdm
      rw [HLD.out] at hcl
      dsimp only at hcl
      refine hcl.mono ?_; clear hcl; rintro x w22 ⟨t22, u22, rfl, hk22, ho22, _, hb22⟩
      obtain ⟨a22, p22, rfl, _⟩ := owns_form ho22
      obtain ⟨c22, q22, rfl, _⟩ := owns_form hk22
      have hr22 := reads_of_owns ho22
      have hs22 := reads_of_owns hk22
      clear ho22 hk22
      replace RT := hide (RT.out.new hb22)
      replace RL := hide (RL.out.new hb22)
      replace B3 := hide (B3.out.new hb22)
      replace R6 := hide (R6.out.new hb22)
      replace B6 := hide (B6.out.new hb22)
      replace R8 := hide (R8.out.new hb22)
      replace B8 := hide (B8.out.new hb22)
      replace R10 := hide (R10.out.new hb22)
      replace R11 := hide (R11.out.new hb22)
      replace B11 := hide (B11.out.new hb22)
      replace HBW := hide (bchain HBW.out hb22)
      clear hb22
      have R29 := hide hs22
      clear hs22
      have R30 := hide hr22
      clear hr22
      obtain ⟨v23, hv23⟩ : ∃ V, w22.alloc (.cells #[.int .i64 dr, .slice a22 dL.length p22] 26) = V := ⟨_, rfl⟩
      have hbv23 : Below w22.heap.size w22 v23 := by rw [← hv23]; exact (Below.refl _ _).alloc (Nat.le_refl _) _
      have B30 : Hid (RowIs v23 w22.heap.size 26 [.int .i64 dr, .slice a22 dL.length p22]) := by show RowIs _ _ _ _; rw [← hv23]; exact rowIs_new w22 _ _
      replace RT := hide (RT.out.new hbv23)
      replace RL := hide (RL.out.new hbv23)
      replace B3 := hide (B3.out.new hbv23)
      replace R6 := hide (R6.out.new hbv23)
      replace B6 := hide (B6.out.new hbv23)
      replace R8 := hide (R8.out.new hbv23)
      replace B8 := hide (B8.out.new hbv23)
      replace R10 := hide (R10.out.new hbv23)
      replace R11 := hide (R11.out.new hbv23)
      replace B11 := hide (B11.out.new hbv23)
      replace R29 := hide (R29.out.new hbv23)
      replace R30 := hide (R30.out.new hbv23)
      replace HBW := hide (bchain HBW.out hbv23)
      clear hbv23
      go_wp2_with fail
      clear hv23
      have hcl := likeFields1 l _ _ _ R29.out RL.out
      refine hcl.mono ?_; clear hcl; rintro x w24 ⟨rfl, hb24⟩
      replace RT := hide (RT.out.new hb24)
      replace RL := hide (RL.out.new hb24)
      replace B3 := hide (B3.out.new hb24)
      replace R6 := hide (R6.out.new hb24)
      replace B6 := hide (B6.out.new hb24)
      replace R8 := hide (R8.out.new hb24)
      replace B8 := hide (B8.out.new hb24)
      replace R10 := hide (R10.out.new hb24)
      replace R11 := hide (R11.out.new hb24)
      replace B11 := hide (B11.out.new hb24)
      replace R29 := hide (R29.out.new hb24)
      replace R30 := hide (R30.out.new hb24)
      replace B30 := hide (B30.out.new hb24)
      replace HBW := hide (bchain HBW.out hb24)
      clear hb24
      have x0 := B30.out.cell (j := 0) rfl
      have x1 := B30.out.cell (j := 1) rfl
      have y0 := B6.out.cell (j := 0) rfl
      have y1 := B6.out.cell (j := 1) rfl
      go_wp2_with fail
      clear x0 x1 y0 y1
      have hcl := likeTable1 dL dr _ _ _ R30.out R6.out
      refine hcl.mono ?_; clear hcl; rintro x w25 ⟨rfl, hb25⟩
      replace RT := hide (RT.out.new hb25)
      replace RL := hide (RL.out.new hb25)
      replace B3 := hide (B3.out.new hb25)
      replace R6 := hide (R6.out.new hb25)
      replace B6 := hide (B6.out.new hb25)
      replace R8 := hide (R8.out.new hb25)
      replace B8 := hide (B8.out.new hb25)
      replace R10 := hide (R10.out.new hb25)
      replace R11 := hide (R11.out.new hb25)
      replace B11 := hide (B11.out.new hb25)
      replace R29 := hide (R29.out.new hb25)
      replace R30 := hide (R30.out.new hb25)
      replace B30 := hide (B30.out.new hb25)
      replace HBW := hide (bchain HBW.out hb25)
      clear hb25
      go_wp2_with fail
      go_ret
      exact ⟨rfl, HBW.out⟩
  · have hle := law_enc HD2.out
    have HLE := hide hle
    clear hle
    have x0 := B8.out.cell (j := 0) rfl
    have x1 := B8.out.cell (j := 1) rfl
    go_wp2_with fail
    clear x0 x1
    have hcl := implEncoded La gl ra _ _ _ R8.out HSA.out R10.out HGL.out
    rw [HLE.out] at hcl
    dsimp only at hcl
    refine hcl.mono ?_; clear hcl; rintro x w22 ⟨u22, rfl, ho22, hb22⟩
    obtain ⟨a22, p22, rfl, _⟩ := owns_form ho22
    have hr22 := reads_of_owns ho22
    clear ho22
    replace RT := hide (RT.out.new hb22)
    replace RL := hide (RL.out.new hb22)
    replace B3 := hide (B3.out.new hb22)
    replace R6 := hide (R6.out.new hb22)
    replace B6 := hide (B6.out.new hb22)
    replace R8 := hide (R8.out.new hb22)
    replace B8 := hide (B8.out.new hb22)
    replace R10 := hide (R10.out.new hb22)
    replace R11 := hide (R11.out.new hb22)
    replace B11 := hide (B11.out.new hb22)
    replace HBW := hide (bchain HBW.out hb22)
    clear hb22
    have R27 := hide hr22
    clear hr22
    obtain ⟨v23, hv23⟩ : ∃ V, w22.alloc (.cells #[.int .i64 yr, .slice a22 yL.length p22] 26) = V := ⟨_, rfl⟩
    have hbv23 : Below w22.heap.size w22 v23 := by rw [← hv23]; exact (Below.refl _ _).alloc (Nat.le_refl _) _
    have B27 : Hid (RowIs v23 w22.heap.size 26 [.int .i64 yr, .slice a22 yL.length p22]) := by show RowIs _ _ _ _; rw [← hv23]; exact rowIs_new w22 _ _
    replace RT := hide (RT.out.new hbv23)
    replace RL := hide (RL.out.new hbv23)
    replace B3 := hide (B3.out.new hbv23)
    replace R6 := hide (R6.out.new hbv23)
    replace B6 := hide (B6.out.new hbv23)
    replace R8 := hide (R8.out.new hbv23)
    replace B8 := hide (B8.out.new hbv23)
    replace R10 := hide (R10.out.new hbv23)
    replace R11 := hide (R11.out.new hbv23)
    replace B11 := hide (B11.out.new hbv23)
    replace R27 := hide (R27.out.new hbv23)
    replace HBW := hide (bchain HBW.out hbv23)
    clear hbv23
    have x0 := B27.out.cell (j := 0) rfl
    have x1 := B27.out.cell (j := 1) rfl
    have y0 := B11.out.cell (j := 0) rfl
    have y1 := B11.out.cell (j := 1) rfl
    go_wp2_with fail
    clear hv23
    clear x0 x1 y0 y1
    have hcl := likeTable1 yL yr _ _ _ R27.out R11.out
    refine hcl.mono ?_; clear hcl; rintro x w24 ⟨rfl, hb24⟩
    replace RT := hide (RT.out.new hb24)
    replace RL := hide (RL.out.new hb24)
    replace B3 := hide (B3.out.new hb24)
    replace R6 := hide (R6.out.new hb24)
    replace B6 := hide (B6.out.new hb24)
    replace R8 := hide (R8.out.new hb24)
    replace B8 := hide (B8.out.new hb24)
    replace R10 := hide (R10.out.new hb24)
    replace R11 := hide (R11.out.new hb24)
    replace B11 := hide (B11.out.new hb24)
    replace R27 := hide (R27.out.new hb24)
    replace B27 := hide (B27.out.new hb24)
    replace HBW := hide (bchain HBW.out hb24)
    clear hb24
    cases db
    · have hds := encodedD_no HD1.out
      subst hds
      go_wp2_with fail
      go_ret
      exact ⟨rfl, HBW.out⟩
    · obtain ⟨hokT, hokl⟩ := encodedD_yes HD1.out
      have hld := law_dec hokT hokl
      rw [HD1.out] at hld
      simp only at hld
      have HLD := hide hld
      have hdm : ds.size ≤ maxLen := by unfold maxLen; omega
      clear hld
      have x0 := B3.out.cell (j := 0) rfl
      have x1 := B3.out.cell (j := 1) rfl
      go_wp2_with fail
      clear x0 x1
      have hcl := implDecoded Lt rt _ ds _ RT.out HST.out hdm
      rw [HLD.out] at hcl
      dsimp only at hcl
      refine hcl.mono ?_; clear hcl; rintro x w25 ⟨t25, u25, rfl, hk25, ho25, _, hb25⟩
      obtain ⟨a25, p25, rfl, _⟩ := owns_form ho25
      obtain ⟨c25, q25, rfl, _⟩ := owns_form hk25
      have hr25 := reads_of_owns ho25
      have hs25 := reads_of_owns hk25
      clear ho25 hk25
      replace RT := hide (RT.out.new hb25)
      replace RL := hide (RL.out.new hb25)
      replace B3 := hide (B3.out.new hb25)
      replace R6 := hide (R6.out.new hb25)
      replace B6 := hide (B6.out.new hb25)
      replace R8 := hide (R8.out.new hb25)
      replace B8 := hide (B8.out.new hb25)
      replace R10 := hide (R10.out.new hb25)
      replace R11 := hide (R11.out.new hb25)
      replace B11 := hide (B11.out.new hb25)
      replace R27 := hide (R27.out.new hb25)
      replace B27 := hide (B27.out.new hb25)
      replace HBW := hide (bchain HBW.out hb25)
      clear hb25
      have R29 := hide hs25
      clear hs25
      have R30 := hide hr25
      clear hr25
      obtain ⟨v26, hv26⟩ : ∃ V, w25.alloc (.cells #[.int .i64 dr, .slice a25 dL.length p25] 26) = V := ⟨_, rfl⟩
      have hbv26 : Below w25.heap.size w25 v26 := by rw [← hv26]; exact (Below.refl _ _).alloc (Nat.le_refl _) _
      have B30 : Hid (RowIs v26 w25.heap.size 26 [.int .i64 dr, .slice a25 dL.length p25]) := by show RowIs _ _ _ _; rw [← hv26]; exact rowIs_new w25 _ _
      replace RT := hide (RT.out.new hbv26)
      replace RL := hide (RL.out.new hbv26)
      replace B3 := hide (B3.out.new hbv26)
      replace R6 := hide (R6.out.new hbv26)
      replace B6 := hide (B6.out.new hbv26)
      replace R8 := hide (R8.out.new hbv26)
      replace B8 := hide (B8.out.new hbv26)
      replace R10 := hide (R10.out.new hbv26)
      replace R11 := hide (R11.out.new hbv26)
      replace B11 := hide (B11.out.new hbv26)
      replace R27 := hide (R27.out.new hbv26)
      replace B27 := hide (B27.out.new hbv26)
      replace R29 := hide (R29.out.new hbv26)
      replace R30 := hide (R30.out.new hbv26)
      replace HBW := hide (bchain HBW.out hbv26)
      clear hbv26
      go_wp2_with fail
      clear hv26
      have hcl := likeFields1 l _ _ _ R29.out RL.out
      refine hcl.mono ?_; clear hcl; rintro x w27 ⟨rfl, hb27⟩
      replace RT := hide (RT.out.new hb27)
      replace RL := hide (RL.out.new hb27)
      replace B3 := hide (B3.out.new hb27)
      replace R6 := hide (R6.out.new hb27)
      replace B6 := hide (B6.out.new hb27)
      replace R8 := hide (R8.out.new hb27)
      replace B8 := hide (B8.out.new hb27)
      replace R10 := hide (R10.out.new hb27)
      replace R11 := hide (R11.out.new hb27)
      replace B11 := hide (B11.out.new hb27)
      replace R27 := hide (R27.out.new hb27)
      replace B27 := hide (B27.out.new hb27)
      replace R29 := hide (R29.out.new hb27)
      replace R30 := hide (R30.out.new hb27)
      replace B30 := hide (B30.out.new hb27)
      replace HBW := hide (bchain HBW.out hb27)
      clear hb27
      have x0 := B30.out.cell (j := 0) rfl
      have x1 := B30.out.cell (j := 1) rfl
      have y0 := B6.out.cell (j := 0) rfl
      have y1 := B6.out.cell (j := 1) rfl
      go_wp2_with fail
      clear x0 x1 y0 y1
      have hcl := likeTable1 dL dr _ _ _ R30.out R6.out
      refine hcl.mono ?_; clear hcl; rintro x w28 ⟨rfl, hb28⟩
      replace RT := hide (RT.out.new hb28)
      replace RL := hide (RL.out.new hb28)
      replace B3 := hide (B3.out.new hb28)
      replace R6 := hide (R6.out.new hb28)
      replace B6 := hide (B6.out.new hb28)
      replace R8 := hide (R8.out.new hb28)
      replace B8 := hide (B8.out.new hb28)
      replace R10 := hide (R10.out.new hb28)
      replace R11 := hide (R11.out.new hb28)
      replace B11 := hide (B11.out.new hb28)
      replace R27 := hide (R27.out.new hb28)
      replace B27 := hide (B27.out.new hb28)
      replace R29 := hide (R29.out.new hb28)
      replace R30 := hide (R30.out.new hb28)
      replace B30 := hide (B30.out.new hb28)
      replace HBW := hide (bchain HBW.out hb28)
      clear hb28
      go_wp2_with fail
      go_ret
      exact ⟨rfl, HBW.out⟩

open Go.ChangeShapes Go.WideShapes Go.ChangeAt Go.Joins
open Go.ChangeMaps (open_string shut_string)


theorem own : ownKnob Try.prog.godebug = none := by kernel_rfl
theorem laidOut : laidOutB Try.prog = true := by kernel_rfl

set_option maxRecDepth 100000 in
theorem lifted (os : Os) (started : os.Started) (H : Type) (enc : TypeId × Value → H) :
    ReturnsInHanded {} Try.checked os 3 .any (Rows.fnBlocksSpec.pre6 enc Try.prog Try.f3 Rows.fnBlocksRow.domain false) (Rows.fnBlocksSpec.post enc Try.prog Try.f3 false true false false) := by
  refine returnsInHanded_of_change (C := Try.checked) own started (by kernel_rfl) Try.func3
    (ChangeSpec.witness6 (enc := enc) (C := Try.checked) false ⟨#[], #[.slice none 0 0], []⟩ 8 (by kernel_rfl) (by kernel_rfl) (by kernel_rfl) (by kernel_rfl)) ?_
  intro W base args ds gs before hval0 hW hcnd _
  have hval : ∀ (j : Nat) t v, Try.f3.params[j]? = some t → args[j]? = some v → Value.okWide Try.prog W .any base t v := hval0
  have hW' := hW
  obtain ⟨p, q, hA0, hV, rfl, hfz, hnd⟩ := hW
  have hA : DataW.TrodAll enc Try.prog W 0 (fun _ => true) true Try.f3.params.toList args.toList ds p := hA0
  rw [Try.params3] at hA hval
  obtain ⟨v0, vs0, d0, ds0, p0, q0, hargs, rfl, rfl, h0, r0⟩ := trodAll_cons hA
  obtain ⟨rfl, rfl, rfl⟩ := trodAll_nil r0
  obtain rfl : args = #[v0] := by cases args; simp_all
  obtain ⟨rfl, rfl⟩ := trodVars_none hV
  have k0 := h0
  have lt0 : ∀ x ∈ p0, x.block < W.heap.size := by obtain ⟨m, hm⟩ := k0; exact DataW.trod_lt m _ _ _ hm
  obtain ⟨a0, len0, cap0, rfl⟩ := okWide_slice Try.underlying22 (hval 0 22 v0 rfl rfl); obtain ⟨hl0, hc0⟩ := open_code h0
  clear hA0 hval0
  refine (walk a0 len0 cap0 W hl0 hc0).mono fun e W' ⟨he, bel⟩ => ?_
  subst he
  exact ⟨_, rfl, _, _, _, [], _, [], hW', trodAll_mk1 (shut_bool Try.underlying4 _), (trodAll_cons_mk (Below.trod laidOut (by kernel_rfl) (of_decide_eq_true (by kernel_rfl)) k0 bel lt0) trodAll_mk0), rfl, bel.frame _, fun h => by cases h⟩

theorem over : Rows.fnBlocksRow.holds Try.pinned (OpenSpec.ofChange Rows.fnBlocksSpec) :=
  OpenClaim.holds_of_wide 3 Try.f3 rfl rfl rfl rfl rfl rfl rfl ⟨rfl, rfl, rfl, rfl, rfl⟩ rfl rfl rfl rfl rfl (by kernel_rfl) Try.func3 (by kernel_rfl)
    (of_decide_eq_true (by kernel_rfl)) (by unfold Func.isWrapper; first | (rw [if_pos (by decide +kernel)]; kernel_rfl) | (rw [if_neg (by decide +kernel)]; exact ⟨rfl, rfl⟩))
    (fun os started H enc _ => lifted os started H enc)

end lawBlocks

theorem lawBlocks_proved : Rows.FnBlocksSaid := lawBlocks.over
#print axioms lawBlocks_proved
end Go.Proofs.Ytejmnkabmajebaa
