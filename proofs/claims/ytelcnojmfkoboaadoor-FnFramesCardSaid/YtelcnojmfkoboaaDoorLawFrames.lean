/- The law FnFrames returns true at every argument and leaves it as it was. The listed package-level variables (the program's two errors, package errors' handle of the type error) begin as the program's text lays them: the card ties that. -/
import Derived.Test.YtelcnojmfkoboaaDoorFrDraw2
import Derived.Test.YtelcnojmfkoboaaDoorFrReads
import Derived.Test.YtelcnojmfkoboaaDoorFrSpec
import Derived.Test.YtelcnojmfkoboaaDoorFrLaid
import Derived.Test.YtelcnojmfkoboaaDoorFrLen
import Derived.Test.YtelcnojmfkoboaaDoorLater
import Derived.Test.YtelcnojmfkoboaaDoorTie
import Derived.Test.YtelcnojmfkoboaaDoorCards
import Derived.WalkKit
import Derived.ProofKit
import Derived.OpenShut
import Derived.ShutString
import Derived.ChangeOld
import Derived.Below
import Derived.Lib.SmallJoins
import Derived.SevenTiedAt


namespace Go.Proofs.YtelcnojmfkoboaaDoor
open Go.RowKit
set_option maxRecDepth 100000
set_option linter.unusedSimpArgs false
set_option linter.unusedVariables false

theorem catV_app (A B : List Fr) : catV (A ++ B) = catV A ++ catV B := by
  induction A with
  | nil => rw [List.nil_append]; exact (ba_nil_append _).symm
  | cons f A ih => rw [List.cons_append, catV_cons, catV_cons, ih, ba_append_assoc]
theorem catV_one (f : Fr) : catV [f] = shwV f := by rw [catV_cons]; exact ba_append_nil _
theorem catV_take (L : List Fr) (k : Nat) (h : k < L.length) : catV (L.take (k + 1)) = catV (L.take k) ++ shwV L[k] := by
  rw [List.take_succ_eq_append_getElem h, catV_app, catV_one]
theorem catV_take_le (L : List Fr) (k : Nat) : (catV (L.take k)).size ≤ (catV L).size := by
  conv => rhs; rw [← List.take_append_drop k L, catV_app, ba_size_append]
  omega
theorem body_le (f : Fr) (h : okFr f = true) : f.b.size ≤ 1000 := by have := hd_parts (ok_head h); omega

namespace lawFrames
set_option maxHeartbeats 8000000 in
set_option maxRecDepth 100000 in
theorem walk (a : Option Addr) (len cap : Nat) (a0 a2 : Addr) (w : World) (hl : len ≤ maxLen) (hcode : CodeAt w a len w.heap.size) (he : Errs w a0 a2) :
    Calls Tryd.prog 3 #[.slice a len cap] w fun x w' => x = .returned (.bool true) ∧ Below w.heap.size w w' := by
  unfold maxLen at hl
  by_cases hbig : (4096 : Int) < len
  · go_enter Tryd.func3, Tryd.ntmps3
    go_wp2_with fail
    refine (big1 a len cap _).mono ?_; rw [decide_eq_true hbig]; rintro x w1 ⟨rfl, rfl⟩
    go_wp2_with fail
    go_ret
    exact ⟨rfl, Below.refl _ _⟩
  have hl' : len ≤ 4096 := by omega
  have HCODE := hide hcode
  have HE := hide he
  clear hcode he
  go_enter Tryd.func3, Tryd.ntmps3
  go_wp2_with fail
  refine (big1 a len cap _).mono ?_; rw [decide_eq_false (by omega)]; rintro x w0 ⟨rfl, rfl⟩
  have HBW := hide (Below.refl w0.heap.size w0)
  go_wp2_with fail
  refine (drawFrames a len cap _ hl' HCODE.out).mono ?_; rintro x w1 ⟨s, sz, rfl, hb1⟩
  replace HBW := hide (bchain HBW.out hb1)
  clear hb1
  obtain ⟨⟨L, rest, ok⟩, hF⟩ : ∃ F, frmV s = F := ⟨_, rfl⟩
  have hLn := frm_len s.size s (Nat.le_refl _)
  have htold := law_told s.size s (Nat.le_refl _)
  rw [hF] at hLn htold
  dsimp only at hLn htold
  have HOK : Hid (∀ f ∈ L, okFr f = true) := htold.1
  have HCAT : Hid (catV L ++ rest = s) := htold.2
  have hcz : (catV L).size + rest.size = s.size := by have := congrArg ByteArray.size htold.2; rw [ba_size_append] at this; exact this
  have hoo : (ok != ok) = false := by cases ok <;> rfl
  have HF := hide hF
  clear hF htold
  go_wp2_with fail
  have hcl := implFrames s a0 a2 _ (by omega) (HE.out.new HBW.out)
  rw [HF.out] at hcl
  dsimp only at hcl
  refine hcl.mono ?_; clear hcl; rintro x w2 ⟨v2, rfl, ho2, hb2⟩
  obtain ⟨ca2, cp2, rfl, _⟩ := owns_form ho2
  have hr2 := reads_of_owns ho2
  clear ho2
  replace HBW := hide (bchain HBW.out hb2)
  clear hb2
  have RL := hide hr2
  clear hr2
  go_wp2_with fail
  refine (drawShown a len cap _ hl' (HCODE.out.behind HBW.out)).mono ?_; rintro x w3 ⟨⟨fk, ff, fs, fb⟩, fz, rfl, hb3⟩
  replace RL := hide (RL.out.new hb3)
  replace HBW := hide (bchain HBW.out hb3)
  clear hb3
  dsimp only at fz ⊢
  have hfm : fb.size ≤ maxLen := by unfold maxLen; omega
  go_wp2_with fail
  obtain ⟨V3, hV3⟩ : ∃ V, w3.alloc (.cells #[.int .i64 fk, .int .i64 ff, .int .i64 fs, .string fb] 29) = V := ⟨_, rfl⟩
  have hbV3 : Below w3.heap.size w3 V3 := by rw [← hV3]; exact (Below.refl _ _).alloc (Nat.le_refl _) _
  have hnV3 : RowIs V3 w3.heap.size 29 [.int .i64 fk, .int .i64 ff, .int .i64 fs, .string fb] := by rw [← hV3]; exact rowIs_new w3 _ _
  obtain ⟨b7, hb7⟩ : ∃ b, b = w3.heap.size := ⟨_, rfl⟩
  rw [← hb7] at hnV3
  rw [hV3, ← hb7]
  clear hV3 hb7
  replace RL := hide (RL.out.new hbV3)
  replace HBW := hide (bchain HBW.out hbV3)
  clear hbV3
  have B7 := hide hnV3
  clear hnV3
  obtain ⟨t, ht⟩ : ∃ t, shwV ⟨fk, ff, fs, fb⟩ = t := ⟨_, rfl⟩
  have htz : t.size ≤ 1107 := by rw [← ht]; have := shw_size ⟨fk, ff, fs, fb⟩; dsimp only at this; omega
  have hsI := fun w => implShown fk ff fs fb w hfm
  have hsS := fun w => specShown fk ff fs fb w hfm
  rw [ht] at hsI hsS
  have HT := hide ht
  clear ht
  obtain ⟨fo, hfo⟩ : ∃ v, okFr ⟨fk, ff, fs, fb⟩ = v := ⟨_, rfl⟩
  have hoI := fun w => implFrameOk fk ff fs fb w hfm
  have hoS := fun w => specFrameOk fk ff fs fb w hfm
  rw [hfo] at hoI hoS
  have HFO := hide hfo
  clear hfo
  have hff : (fo != fo) = false := by cases fo <;> rfl
  refine (hsI _).mono ?_; rintro x w4 ⟨rfl, hb4⟩
  replace RL := hide (RL.out.new hb4)
  replace B7 := hide (B7.out.new hb4)
  replace HBW := hide (bchain HBW.out hb4)
  clear hb4
  go_wp2_with fail
  refine (drawPayload a len cap _ hl' (HCODE.out.behind HBW.out)).mono ?_; rintro x w5 ⟨⟨pk, pf, ps, pb⟩, pz, rfl, hb5⟩
  replace RL := hide (RL.out.new hb5)
  replace B7 := hide (B7.out.new hb5)
  replace HBW := hide (bchain HBW.out hb5)
  clear hb5
  dsimp only at pz ⊢
  have hpm : pb.size ≤ maxLen := by unfold maxLen; omega
  go_wp2_with fail
  obtain ⟨V5, hV5⟩ : ∃ V, w5.alloc (.cells #[.int .i64 pk, .int .i64 pf, .int .i64 ps, .string pb] 29) = V := ⟨_, rfl⟩
  have hbV5 : Below w5.heap.size w5 V5 := by rw [← hV5]; exact (Below.refl _ _).alloc (Nat.le_refl _) _
  have hnV5 : RowIs V5 w5.heap.size 29 [.int .i64 pk, .int .i64 pf, .int .i64 ps, .string pb] := by rw [← hV5]; exact rowIs_new w5 _ _
  obtain ⟨b9, hb9⟩ : ∃ b, b = w5.heap.size := ⟨_, rfl⟩
  rw [← hb9] at hnV5
  rw [hV5, ← hb9]
  clear hV5 hb9
  replace RL := hide (RL.out.new hbV5)
  replace B7 := hide (B7.out.new hbV5)
  replace HBW := hide (bchain HBW.out hbV5)
  clear hbV5
  have B9 := hide hnV5
  clear hnV5
  obtain ⟨pay, hpay⟩ : ∃ v, payV ⟨pk, pf, ps, pb⟩ = v := ⟨_, rfl⟩
  have hpI := fun w => implPayload pk pf ps pb w hpm
  have hpS := fun w => specPayload pk pf ps pb w hpm
  rw [hpay] at hpI hpS
  clear hpay
  have hcl := specFrames s V5 (by omega)
  rw [HF.out] at hcl
  dsimp only at hcl
  refine hcl.mono ?_; clear hcl; rintro x w6 ⟨v6, rfl, ho6, hb6⟩
  obtain ⟨ca6, cp6, rfl, _⟩ := owns_form ho6
  have hr6 := reads_of_owns ho6
  clear ho6
  replace RL := hide (RL.out.new hb6)
  replace B7 := hide (B7.out.new hb6)
  replace B9 := hide (B9.out.new hb6)
  replace HBW := hide (bchain HBW.out hb6)
  clear hb6
  have RM := hide hr6
  clear hr6
  go_wp2_with fail
  have l7 := B7.out.lt
  have l9 := B9.out.lt
  have hrr : (rest.toList == rest.toList) = true := beq_self_eq_true _
  have q0 : ∀ y : Later w6, y.w.cell? ⟨b7, 0, none⟩ = some (.int .i64 fk) := fun y => (y.b.cell (p := ⟨b7, 0, none⟩) l7).trans (RowIs.cell (j := 0) B7.out rfl); have q1 : ∀ y : Later w6, y.w.cell? ⟨b7, 1, none⟩ = some (.int .i64 ff) := fun y => (y.b.cell (p := ⟨b7, 1, none⟩) l7).trans (RowIs.cell (j := 1) B7.out rfl); have q2 : ∀ y : Later w6, y.w.cell? ⟨b7, 2, none⟩ = some (.int .i64 fs) := fun y => (y.b.cell (p := ⟨b7, 2, none⟩) l7).trans (RowIs.cell (j := 2) B7.out rfl); have q3 : ∀ y : Later w6, y.w.cell? ⟨b7, 3, none⟩ = some (.string fb) := fun y => (y.b.cell (p := ⟨b7, 3, none⟩) l7).trans (RowIs.cell (j := 3) B7.out rfl)
  have r0 : ∀ y : Later w6, y.w.cell? ⟨b9, 0, none⟩ = some (.int .i64 pk) := fun y => (y.b.cell (p := ⟨b9, 0, none⟩) l9).trans (RowIs.cell (j := 0) B9.out rfl); have r1 : ∀ y : Later w6, y.w.cell? ⟨b9, 1, none⟩ = some (.int .i64 pf) := fun y => (y.b.cell (p := ⟨b9, 1, none⟩) l9).trans (RowIs.cell (j := 1) B9.out rfl); have r2 : ∀ y : Later w6, y.w.cell? ⟨b9, 2, none⟩ = some (.int .i64 ps) := fun y => (y.b.cell (p := ⟨b9, 2, none⟩) l9).trans (RowIs.cell (j := 2) B9.out rfl); have r3 : ∀ y : Later w6, y.w.cell? ⟨b9, 3, none⟩ = some (.string pb) := fun y => (y.b.cell (p := ⟨b9, 3, none⟩) l9).trans (RowIs.cell (j := 3) B9.out rfl)
  have hne : Nonempty (Later w6) := ⟨⟨w6, Below.refl _ _⟩⟩; refine region_later (by kernel_rfl) (by kernel_rfl) ?_
  repeat (go_big_quiet_step (fail))
  go_big_quiet_want; go_big_quiet_op; refine ⟨.bool true, fun y => later_calls (x := y) ((fun y => likeFrames1 L _ _ y.w (RL.out.new y.b) (RM.out.new y.b)) y), ?_⟩; go_big_quiet_on
  repeat (go_big_quiet_step (fail))
  go_big_quiet_want; go_big_quiet_op; refine ⟨.string t, fun y => later_calls (x := y) (hsS y.w), ?_⟩; go_big_quiet_on
  repeat (go_big_quiet_step (fail))
  go_big_quiet_want; go_big_quiet_op; refine ⟨.bool fo, fun y => later_calls (x := y) (hoI y.w), ?_⟩; go_big_quiet_on
  repeat (go_big_quiet_step (fail))
  go_big_quiet_want; go_big_quiet_op; refine ⟨.bool fo, fun y => later_calls (x := y) (hoS y.w), ?_⟩; go_big_quiet_on
  repeat (go_big_quiet_step (fail))
  go_big_quiet_want; go_big_quiet_op; refine ⟨.string pay, fun y => later_calls (x := y) (hpI y.w), ?_⟩; go_big_quiet_on
  repeat (go_big_quiet_step (fail))
  go_big_quiet_want; go_big_quiet_op; refine ⟨.string pay, fun y => later_calls (x := y) (hpS y.w), ?_⟩; go_big_quiet_on
  repeat (go_big_quiet_step (fail))
  refine wpQuiet_nil ?_; intro _ hw'; obtain ⟨y, hw''⟩ := hw'; subst hw''; have hby := y.b
  obtain ⟨w20, hw20⟩ : ∃ u, u = y.w := ⟨_, rfl⟩
  rw [← hw20] at hby ⊢
  clear q0 q1 q2 q3 r0 r1 r2 r3 hne hw20 y hpI hpS hsS hoS
  clear RM B9
  replace RL := hide (RL.out.new hby)
  replace B7 := hide (B7.out.new hby)
  replace HBW := hide (bchain HBW.out hby)
  clear hby
  go_wp2_with fail
  obtain ⟨ca, cp, hcv, _⟩ := RL.out.2
  go_loopw [13, 14] (fun v n wr => ∃ (k : Nat), n = .int .i64 k ∧ k ≤ L.length ∧ v = .string (catV (L.take k)) ∧ Below w20.heap.size w20 wr) (fun _ n _ => L.length - (intOf n).toNat)
  case atStart => exact ⟨0, rfl, Nat.zero_le _, rfl, Below.refl _ _⟩
  case round =>
    obtain ⟨k, rfl, hk, rfl, hbr⟩ := hrel
    by_cases hlt : k < L.length
    · have hok := HOK.out L[k] (List.getElem_mem hlt)
      have hct := catV_take L k hlt
      have hcl := catV_take_le L (k + 1)
      rw [hct, ba_size_append] at hcl
      have HCT := hide hct
      have hbz := body_le L[k] hok
      obtain ⟨_, adL, capL, eL, _, _, hrd⟩ := RL.out.new hbr
      obtain ⟨bl, ol, e2, hbl, hcell⟩ := hrd (by omega)
      simp only [Value.slice.injEq] at eL
      obtain ⟨e3, _, e4⟩ := eL
      subst e2
      obtain ⟨s0, s1, s2, s3⟩ := fr_get L k hlt
      obtain ⟨fe, hfe⟩ : ∃ f, L[k] = f := ⟨_, rfl⟩
      obtain ⟨ek, ef, es, eb⟩ := fe
      rw [hfe] at s0 s1 s2 s3 hok hbz hcl
      rw [hfe] at HCT
      dsimp only at s0 s1 s2 s3 hbz
      have k0 : wr.cell? ⟨bl, ol + k * 4, none⟩ = some (.int .i64 ek) := hcell _ _ s0
      have k1 : wr.cell? ⟨bl, ol + k * 4 + 1, none⟩ = some (.int .i64 ef) := hcell _ _ s1
      have k2 : wr.cell? ⟨bl, ol + k * 4 + 2, none⟩ = some (.int .i64 es) := hcell _ _ s2
      have k3 : wr.cell? ⟨bl, ol + k * 4 + 3, none⟩ = some (.string eb) := hcell _ _ s3
      have hem : eb.size ≤ maxLen := by unfold maxLen; omega
      obtain ⟨S, hS⟩ : ∃ S, shwV ⟨ek, ef, es, eb⟩ = S := ⟨_, rfl⟩
      have hsh := fun w => implShown ek ef es eb w hem
      rw [hS] at hcl HCT hsh
      obtain ⟨C, hC⟩ : ∃ C, catV (L.take k) = C := ⟨_, rfl⟩
      rw [hC] at hcl HCT ⊢
      subst e3
      clear hcell hrd s0 s1 s2 s3 hfe hS hC hct e4
      have hs1 : ¬ 9223372036854775807 < C.size + S.size := by omega
      have hkI : (k : Int) < L.length := by omega
      have hbl2 := hbl
      go_wp2_with fail
      refine (implFrameOk ek ef es eb _ hem).mono ?_; rw [hok]; rintro x w21 ⟨rfl, hb21⟩
      replace k0 := (hb21.cell (p := ⟨bl, ol + k * 4, none⟩) hbl).trans k0
      replace k1 := (hb21.cell (p := ⟨bl, ol + k * 4 + 1, none⟩) hbl).trans k1
      replace k2 := (hb21.cell (p := ⟨bl, ol + k * 4 + 2, none⟩) hbl).trans k2
      replace k3 := (hb21.cell (p := ⟨bl, ol + k * 4 + 3, none⟩) hbl).trans k3
      replace hbl2 : bl < w21.heap.size := Nat.lt_of_lt_of_le hbl hb21.size
      replace hbr := bchain hbr hb21
      clear hb21 hok
      go_wp2_with fail
      refine (hsh _).mono ?_; rintro x w22 ⟨rfl, hb22⟩
      replace hbr := bchain hbr hb22
      clear hb22 hsh k0 k1 k2 k3
      go_wp2_with fail
      go_roundw
      case rel => exact ⟨k + 1, by go_num, by omega, by rw [HCT.out], hbr⟩
      case measure => simp [intOf]; omega
    · obtain rfl : k = L.length := by omega
      rw [List.take_length]
      have hcat := HCAT.out
      replace B7 := hide (B7.out.new hbr)
      replace HBW := hide (bchain HBW.out hbr)
      have hs1 : ¬ 9223372036854775807 < (catV L).size + rest.size := by omega
      obtain ⟨C, hC⟩ : ∃ C, catV L = C := ⟨_, rfl⟩
      rw [hC] at hcat hs1 ⊢
      clear HCAT HOK hcz hC RL hcv
      have x7 := B7.out.lt
      have x0 := RowIs.cell (j := 0) B7.out rfl
      have x1 := RowIs.cell (j := 1) B7.out rfl
      have x2 := RowIs.cell (j := 2) B7.out rfl
      have x3 := RowIs.cell (j := 3) B7.out rfl
      cases fo
      · have hte : t = ⟨#[]⟩ := by rw [← HT.out]; unfold shwV; rw [HFO.out]; rfl
        subst hte
        go_wp2_with fail
        refine (hoI _).mono ?_; rintro x w23 ⟨rfl, hb23⟩
        replace HBW := hide (bchain HBW.out hb23)
        go_wp2_with fail
        go_ret
        exact ⟨rfl, HBW.out⟩
      · have htt := shw_ok HFO.out
        rw [HT.out] at htt
        have ht7 : 7 ≤ t.size := by rw [htt, ba_size_append, hdV_size]; omega
        have htl := list_ne (s := t) (by omega)
        have htl2 := list_isEmpty (s := t) (by omega)
        obtain ⟨t1, ht1⟩ : ∃ x, t.extract 0 (t.size - 1) = x := ⟨_, rfl⟩
        have ht1z : t1.size = t.size - 1 := by rw [← ht1, ba_extract_size (by omega) (by omega)]; omega
        have htw := law_twice HFO.out
        rw [HT.out, ht1, ← ba_append_assoc] at htw
        have hsl : ∀ w, (Instr.slice 9 (.string t) none (some (.int .i64 ((t.size : Int) - 1))) none).run Tryd.prog w = .ok (.string t1) w := fun w => by
          rw [run_slice_string_to_if (P := Tryd.prog) w 9 t .i64 _ Tryd.underlying9, if_pos ⟨by omega, by omega⟩, ← ht1]; congr 3; omega
        have ha1 : ¬ 9223372036854775807 < t.size + t.size := by omega
        have ha2 : ¬ 9223372036854775807 < (t ++ t).size + t1.size := by rw [ba_size_append]; omega
        have ha3 : ¬ 9223372036854775807 < t.size + t.size + t1.size := by omega
        have hfz2 : (t ++ t ++ t1).size ≤ 2097152 := by rw [ba_size_append, ba_size_append]; omega
        have HTW := hide htw
        have h7I : (7 : Int) ≤ t.size := by omega
        clear htt htw ht1 ht1z
        go_wp2_with fail
        have hcl := implFrames (t ++ t ++ t1) a0 a2 _ hfz2 (HE.out.new HBW.out)
        rw [HTW.out] at hcl
        dsimp only at hcl
        refine hcl.mono ?_; clear hcl; rintro x w24 ⟨v24, rfl, ho24, hb24⟩
        obtain ⟨ca24, cp24, rfl, _⟩ := owns_form ho24
        obtain ⟨_, adN, capN, eN, _, _, hrdN⟩ := reads_of_owns ho24
        obtain ⟨bn, on, eN2, hbn, hcellN⟩ := hrdN (by show 0 < 2; decide)
        simp only [Value.slice.injEq] at eN
        obtain ⟨eN3, _, _⟩ := eN
        subst eN2
        subst eN3
        replace B7 := hide (B7.out.new hb24)
        replace HBW := hide (bchain HBW.out hb24)
        clear hb24 x0 x1 x2 x3 x7 ho24 hrdN
        have m0 : w24.cell? ⟨bn, on, none⟩ = some (.int .i64 fk) := hcellN 0 _ rfl
        have m1 : w24.cell? ⟨bn, on + 1, none⟩ = some (.int .i64 ff) := hcellN 1 _ rfl
        have m2 : w24.cell? ⟨bn, on + 2, none⟩ = some (.int .i64 fs) := hcellN 2 _ rfl
        have m3 : w24.cell? ⟨bn, on + 3, none⟩ = some (.string fb) := hcellN 3 _ rfl
        have m4 : w24.cell? ⟨bn, on + 4, none⟩ = some (.int .i64 fk) := hcellN 4 _ rfl
        have m5 : w24.cell? ⟨bn, on + 4 + 1, none⟩ = some (.int .i64 ff) := hcellN 5 _ rfl
        have m6 : w24.cell? ⟨bn, on + 4 + 2, none⟩ = some (.int .i64 fs) := hcellN 6 _ rfl
        have m7 : w24.cell? ⟨bn, on + 4 + 3, none⟩ = some (.string fb) := hcellN 7 _ rfl
        clear hcellN
        have l7b := B7.out.lt
        have hpl := pay_le ⟨fk, ff, fs, fb⟩
        dsimp only at hpl
        obtain ⟨pay2, hpay2⟩ : ∃ v, payV ⟨fk, ff, fs, fb⟩ = v := ⟨_, rfl⟩
        have hp2 := fun w => implPayload fk ff fs fb w hfm
        rw [hpay2] at hp2 hpl
        have hplI : (pay2.size : Int) ≤ fb.size := by omega
        clear hpay2
        go_wp2_with fail
        have q0 : ∀ y : Later w24, y.w.cell? ⟨b7, 0, none⟩ = some (.int .i64 fk) := fun y => (y.b.cell (p := ⟨b7, 0, none⟩) l7b).trans (RowIs.cell (j := 0) B7.out rfl); have q1 : ∀ y : Later w24, y.w.cell? ⟨b7, 1, none⟩ = some (.int .i64 ff) := fun y => (y.b.cell (p := ⟨b7, 1, none⟩) l7b).trans (RowIs.cell (j := 1) B7.out rfl); have q2 : ∀ y : Later w24, y.w.cell? ⟨b7, 2, none⟩ = some (.int .i64 fs) := fun y => (y.b.cell (p := ⟨b7, 2, none⟩) l7b).trans (RowIs.cell (j := 2) B7.out rfl); have q3 : ∀ y : Later w24, y.w.cell? ⟨b7, 3, none⟩ = some (.string fb) := fun y => (y.b.cell (p := ⟨b7, 3, none⟩) l7b).trans (RowIs.cell (j := 3) B7.out rfl)
        have m0' : ∀ y : Later w24, y.w.cell? ⟨bn, on, none⟩ = some (.int .i64 fk) := fun y => (y.b.cell (p := ⟨bn, on, none⟩) hbn).trans m0
        have m1' : ∀ y : Later w24, y.w.cell? ⟨bn, on + 1, none⟩ = some (.int .i64 ff) := fun y => (y.b.cell (p := ⟨bn, on + 1, none⟩) hbn).trans m1
        have m2' : ∀ y : Later w24, y.w.cell? ⟨bn, on + 2, none⟩ = some (.int .i64 fs) := fun y => (y.b.cell (p := ⟨bn, on + 2, none⟩) hbn).trans m2
        have m3' : ∀ y : Later w24, y.w.cell? ⟨bn, on + 3, none⟩ = some (.string fb) := fun y => (y.b.cell (p := ⟨bn, on + 3, none⟩) hbn).trans m3
        have m4' : ∀ y : Later w24, y.w.cell? ⟨bn, on + 4, none⟩ = some (.int .i64 fk) := fun y => (y.b.cell (p := ⟨bn, on + 4, none⟩) hbn).trans m4
        have m5' : ∀ y : Later w24, y.w.cell? ⟨bn, on + 4 + 1, none⟩ = some (.int .i64 ff) := fun y => (y.b.cell (p := ⟨bn, on + 4 + 1, none⟩) hbn).trans m5
        have m6' : ∀ y : Later w24, y.w.cell? ⟨bn, on + 4 + 2, none⟩ = some (.int .i64 fs) := fun y => (y.b.cell (p := ⟨bn, on + 4 + 2, none⟩) hbn).trans m6
        have m7' : ∀ y : Later w24, y.w.cell? ⟨bn, on + 4 + 3, none⟩ = some (.string fb) := fun y => (y.b.cell (p := ⟨bn, on + 4 + 3, none⟩) hbn).trans m7
        have hne : Nonempty (Later w24) := ⟨⟨w24, Below.refl _ _⟩⟩; refine region_later (by kernel_rfl) (by kernel_rfl) ?_
        repeat (go_big_quiet_step (fail))
        go_big_quiet_want; go_big_quiet_op; refine ⟨.string pay2, fun y => later_calls (x := y) (hp2 y.w), ?_⟩; go_big_quiet_on
        repeat (go_big_quiet_step (fail))
        refine wpQuiet_nil ?_; intro _ hw'; obtain ⟨y, hw''⟩ := hw'; subst hw''; have hby := y.b
        go_wp2_with fail
        go_ret
        exact ⟨by simp [hpl], bchain HBW.out hby⟩

open Go.ChangeShapes Go.WideShapes Go.ChangeAt Go.Joins
open Go.ChangeMaps (open_string shut_string)


theorem own : ownKnob Tryd.prog.godebug = none := by kernel_rfl
theorem laidOut : laidOutB Tryd.prog = true := by kernel_rfl

set_option maxRecDepth 100000 in
theorem lifted (os : Os) (started : os.Started) (H : Type) (enc : TypeId × Value → H) :
    ReturnsInHanded {} Tryd.checked os 3 .any (fun w args => (Rows.fnFramesSpec.pre enc Tryd.prog Tryd.f3 [] false w args ∧ laidMetH Tryd.prog [("errors.errorType", Rows.laid_errors_errorType), ("loop.example/g00296/impl.errNoFrame", Rows.laid_loop_example_g00296_impl_errNoFrame), ("loop.example/g00296/impl.errNotYet", Rows.laid_loop_example_g00296_impl_errNotYet)] w) ∧ sizedMet enc Tryd.prog Tryd.f3 (OpenSpec.ofChange Rows.fnFramesSpec) false w args)
      (Rows.fnFramesSpec.post enc Tryd.prog Tryd.f3 false true false false) := by
  refine returnsInHanded_of_change_and (C := Tryd.checked) (X := fun w _ => laidMetH Tryd.prog [("errors.errorType", Rows.laid_errors_errorType), ("loop.example/g00296/impl.errNoFrame", Rows.laid_loop_example_g00296_impl_errNoFrame), ("loop.example/g00296/impl.errNotYet", Rows.laid_loop_example_g00296_impl_errNotYet)] w) (fun _ _ _ hh h => h.of_heap hh) own started (by kernel_rfl) Tryd.func3
    (ChangeSpec.witness_at (enc := enc) (C := Tryd.checked) (os := os) (X := fun w _ => laidMetH Tryd.prog [("errors.errorType", Rows.laid_errors_errorType), ("loop.example/g00296/impl.errNoFrame", Rows.laid_loop_example_g00296_impl_errNoFrame), ("loop.example/g00296/impl.errNotYet", Rows.laid_loop_example_g00296_impl_errNotYet)] w) false (({ World.holding Tryd.prog os ⟨#[.cells #[.string ⟨#[110, 111, 32, 114, 105, 103, 104, 116, 32, 102, 114, 97, 109, 101, 32, 98, 101, 103, 105, 110, 115, 32, 115, 111]⟩] 126, .cells #[.string ⟨#[116, 104, 101, 32, 102, 114, 97, 109, 101, 32, 105, 115, 32, 110, 111, 116, 32, 119, 104, 111, 108, 101, 32, 121, 101, 116]⟩] 126], #[], []⟩ with heap := (((World.holding Tryd.prog os ⟨#[.cells #[.string ⟨#[110, 111, 32, 114, 105, 103, 104, 116, 32, 102, 114, 97, 109, 101, 32, 98, 101, 103, 105, 110, 115, 32, 115, 111]⟩] 126, .cells #[.string ⟨#[116, 104, 101, 32, 102, 114, 97, 109, 101, 32, 105, 115, 32, 110, 111, 116, 32, 119, 104, 111, 108, 101, 32, 121, 101, 116]⟩] 126], #[], []⟩).heap.modify 0 fun | .cells _ t frozen => .cells #[.iface 105 (.pointer (some (⟨8, 0, none⟩)))] t frozen | o => o).modify 2 fun | .cells _ t frozen => .cells #[.iface 105 (.pointer (some (⟨8 + 1, 0, none⟩)))] t frozen | o => o).modify 1 fun | .cells _ t frozen => .cells #[.iface 89 (.agg #[.pointer (some ⟨3, 48, none⟩)])] t frozen | o => o } : World)) #[.slice none 0 0] 8 rfl (by kernel_rfl) (by kernel_rfl) (by kernel_rfl) (by kernel_rfl) (by kernel_rfl)
      (laidMetH_of_parts (laidMet_of_run (ps := [.cell 0 0, .cell 8 0, .cell 2 0, .cell (8 + 1) 0]) 8 (by kernel_rfl) (by kernel_rfl) (by kernel_rfl)) (by kernel_rfl))) ?_
  intro W base args ds gs before hval0 hW hcnd hwt hL _
  have hval : ∀ (j : Nat) t v, Tryd.f3.params[j]? = some t → args[j]? = some v → Value.okWide Tryd.prog W .any base t v := hval0
  have hW' := hW
  obtain ⟨p, q, hA0, hV0, rfl, hfz, hnd⟩ := hW
  have hA : DataW.TrodAll enc Tryd.prog W 0 (fun _ => true) true Tryd.f3.params.toList args.toList ds p := hA0
  have hV : DataW.TrodVars enc Tryd.prog W (fun _ => true) ["loop.example/g00296/impl.errNoFrame", "loop.example/g00296/impl.errNotYet"] gs q := hV0
  rw [Tryd.params3] at hA hval
  obtain ⟨v0, vs0, d0, ds0, p0, q0, hargs, rfl, rfl, h0, r0⟩ := trodAll_cons hA
  obtain ⟨rfl, rfl, rfl⟩ := trodAll_nil r0
  obtain rfl : args = #[v0] := by cases args; simp_all
  obtain ⟨a0, a2, hv0, hv2, herrs⟩ := errs_of_laid hL
  obtain ⟨rfl, rfl⟩ := hV.unique (vars_read2 enc hv0 hv2 trivial trivial _)
  have k0 := h0
  have lt0 : ∀ x ∈ p0, x.block < W.heap.size := by obtain ⟨m, hm⟩ := k0; exact DataW.trod_lt m _ _ _ hm
  obtain ⟨a9, len0, cap0, rfl⟩ := okWide_slice Tryd.underlying22 (hval 0 22 v0 rfl rfl); obtain ⟨hl0, hc0⟩ := open_code h0
  clear hA0 hval0 hV0
  refine (walk a9 len0 cap0 a0 a2 W hl0 hc0 herrs).mono fun e W' ⟨he, bel⟩ => ?_
  subst he
  exact ⟨_, rfl, _, _, _, [], _, [.cell 0 0, .cell 2 0], hW', trodAll_mk1 (shut_bool Tryd.underlying4 _), (trodAll_cons_mk (Below.trod laidOut (by kernel_rfl) (of_decide_eq_true (by kernel_rfl)) k0 bel lt0) trodAll_mk0), vars_read2 enc (var_below bel hv0) (var_below bel hv2) trivial trivial _, bel.frame _, fun h => by cases h⟩

theorem over : Rows.fnFramesRow.holds Tryd.pinned (OpenSpec.ofChange Rows.fnFramesSpec) :=
  OpenClaim.holds_of_wide 3 Tryd.f3 rfl rfl rfl rfl rfl rfl rfl ⟨rfl, rfl, rfl, rfl, rfl⟩ rfl rfl rfl rfl rfl (by kernel_rfl) Tryd.func3 (by kernel_rfl)
    (of_decide_eq_true (by kernel_rfl)) (by unfold Func.isWrapper; first | (rw [if_pos (by decide +kernel)]; kernel_rfl) | (rw [if_neg (by decide +kernel)]; exact ⟨rfl, rfl⟩))
    (fun os started H enc _ => lifted os started H enc)

theorem card : Rows.FnFramesCardSaid :=
  Claim7.holds_tied_plain_at .later [] [.handle, .sentinel, .sentinel] true (true, "3dfbc58254e7635a0db15b8d9f745f5f5b065571958f57a52a6a07e023aa5fe4") true
    over (fun _ h => by cases h) (by kernel_rfl) (fun _ h => by cases h) fnFrames_row_tie rfl ⟨rfl, rfl⟩ (by kernel_rfl) rfl
    (fun f fn hf hfn => by
      obtain rfl : f = 3 := Option.some.inj ((show Tryd.prog.funcNamed "loop.example/g00296/laws.FnFrames" = some 3 by kernel_rfl).symm.trans hf) |>.symm
      obtain rfl : fn = Tryd.f3 := (Option.some.inj (Tryd.func3.symm.trans hfn)).symm
      exact ⟨by kernel_rfl, fun j t ht => by
        rw [Tryd.params3] at ht
        have hm : t ∈ [22] := by simpa using Array.mem_of_getElem? ht
        have hall : ([22].all fun u => !Tryd.prog.wantsStandIn u) = true := by kernel_rfl
        exact (show Tryd.prog.wantsStandIn t = false by simpa using List.all_eq_true.1 hall t hm)⟩)
    (by kernel_rfl)

end lawFrames

theorem lawFrames_proved : Rows.FnFramesCardSaid := lawFrames.card
#print axioms lawFrames_proved
end Go.Proofs.YtelcnojmfkoboaaDoor
