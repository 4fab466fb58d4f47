/- The law FnStates returns true at every argument and leaves it as it was. No condition. -/
import Derived.Test.YteomijcplmkphaaStateSpec
import Derived.Test.YteomijcplmkphaaStateImpl
import Derived.Test.YteomijcplmkphaaStateDraw
import Derived.Deep.DeepCutAuto
import Derived.WalkKit
import Derived.ProofKit
import Derived.OpenShut
import Derived.ShutString
import Derived.ChangeOld
import Derived.Below
import Derived.Lib.SmallJoins

namespace Go.Proofs.Yteomijcplmkphaa
open Go.RowKit
set_option maxRecDepth 100000
set_option linter.unusedSimpArgs false
set_option linter.unusedVariables false
namespace lawStates
set_option maxHeartbeats 4000000 in
set_option maxRecDepth 100000 in
theorem walk (a : Option Addr) (len cap : Nat) (w : World) (hl : len ≤ maxLen) (hcode : CodeAt w a len w.heap.size) :
    Calls Try.prog 3 #[.slice a len cap] w fun x w' => x = .returned (.bool true) ∧ Below w.heap.size w w' := by
  unfold maxLen at hl
  by_cases hbig : (4096 : Int) < len
  · go_enter Try.func3, Try.ntmps3
    go_wp2_with fail
    refine (big1 a len cap _).mono ?_; rw [decide_eq_true hbig]; rintro x w1 ⟨rfl, rfl⟩
    go_wp2_with fail
    go_ret
    exact ⟨rfl, Below.refl _ _⟩
  have hl' : len ≤ 4096 := by omega
  have HCODE := hide hcode
  clear hcode
  go_enter Try.func3, Try.ntmps3
  go_wp2_with fail
  refine (big1 a len cap _).mono ?_; rw [decide_eq_false (by omega)]; rintro x w0 ⟨rfl, rfl⟩
  have HBW := hide (Below.refl w0.heap.size w0)
  go_wp2_with fail
  refine (drawNext a len cap _ hl' (HCODE.out.behind HBW.out)).mono ?_; rintro e w1 ⟨s, ev, rfl, hb⟩
  replace HBW := hide (bchain HBW.out hb)
  clear hb
  obtain ⟨⟨n, is⟩, hN⟩ : ∃ y, nxV s ev = y := ⟨_, rfl⟩
  have iN := fun w => implNext s ev w
  have sN := fun w => specNext s ev w
  rw [hN] at iN sN
  dsimp only at iN sN
  have HN := hide hN
  clear hN
  go_wp2_with fail
  refine (iN _).mono ?_; rintro e w2 ⟨rfl, hb⟩
  replace HBW := hide (bchain HBW.out hb)
  clear hb
  go_wp2_with fail
  refine (drawAfter a len cap _ hl' (HCODE.out.behind HBW.out)).mono ?_; rintro e w3 ⟨v, l, rfl, hov, hl9, hb⟩
  replace HBW := hide (bchain HBW.out hb)
  clear hb
  obtain ⟨la, lp, rfl, _, _⟩ := owns_form hov
  have HO := hide hov
  clear hov
  obtain ⟨⟨av, al⟩, hA⟩ : ∃ y, afV 0 l = y := ⟨_, rfl⟩
  have iA := fun v w h => implAfter l v w h
  have sA := fun v w h => specAfter l v w h
  rw [hA] at iA sA
  dsimp only at iA sA
  have HA0 : Hid (afV 0 (l.drop 0) = (av, al)) := hA
  clear hA
  go_wp2_with fail
  refine (iA _ _ (reads_of_owns HO.out)).mono ?_; rintro e w4 ⟨rfl, hb⟩
  replace HBW := hide (bchain HBW.out hb)
  replace HO := hide (owns_new HO.out hb)
  clear hb
  go_wp2_with fail
  refine (drawMaySend a len cap _ hl' (HCODE.out.behind HBW.out)).mono ?_; rintro e w5 ⟨m, rfl, hb⟩
  replace HBW := hide (bchain HBW.out hb)
  replace HO := hide (owns_new HO.out hb)
  clear hb
  go_wp2_with fail
  refine (drawMayGet a len cap _ hl' (HCODE.out.behind HBW.out)).mono ?_; rintro e w6 ⟨g, rfl, hb⟩
  replace HBW := hide (bchain HBW.out hb)
  replace HO := hide (owns_new HO.out hb)
  clear hb
  have iM := fun w => implMaySend m w
  have sM := fun w => specMaySend m w
  have iG := fun w => implMayGet g w
  have sG := fun w => specMayGet g w
  generalize msV m = mb at iM sM
  generalize mgV g = gb at iG sG
  have hii : (is != is) = false := by cases is <;> rfl
  have hmm : (mb != mb) = false := by cases mb <;> rfl
  have hgg : (gb != gb) = false := by cases gb <;> rfl
  have hll : (al != al) = false := by cases al <;> rfl
  go_wp2_with fail
  refine (sN _).mono ?_; rintro e w7 ⟨rfl, hsame⟩; obtain rfl := hsame.symm; clear hsame
  go_wp2_with fail
  refine (iM _).mono ?_; rintro e w8 ⟨rfl, hb⟩
  replace HBW := hide (bchain HBW.out hb)
  replace HO := hide (owns_new HO.out hb)
  clear hb
  go_wp2_with fail
  refine (sM _).mono ?_; rintro e w9 ⟨rfl, hsame⟩; obtain rfl := hsame.symm; clear hsame
  go_wp2_with fail
  refine (iG _).mono ?_; rintro e w10 ⟨rfl, hb⟩
  replace HBW := hide (bchain HBW.out hb)
  replace HO := hide (owns_new HO.out hb)
  clear hb
  go_wp2_with fail
  refine (sG _).mono ?_; rintro e w11 ⟨rfl, hsame⟩; obtain rfl := hsame.symm; clear hsame
  go_wp2_with fail
  refine (sA _ _ (reads_of_owns HO.out)).mono ?_; rintro e w12 ⟨rfl, hsame⟩; obtain rfl := hsame.symm; clear hsame
  clear sN sA iA iM sM iG sG iN hii hmm hgg hll
  go_upto_region 15 with fail
  go_cut [108] (fun c wx => c = .bool false ∧ wx = w10)
  case first =>
    have hss : (s != s) = false := by simp
    have hN := HN.out
    cases is
    · obtain rfl := nx_no hN
      clear hN
      by_cases h4 : (n == 4) = true
      · go_wp2_with fail
        go_meet
        exact ⟨rfl, rfl⟩
      · rw [Bool.not_eq_true] at h4
        go_wp2_with fail
        go_meet
        exact ⟨rfl, rfl⟩
    · by_cases h4 : s = 4
      · subst h4
        obtain rfl := nx_closed hN
        clear hN
        go_wp2_with fail
        go_meet
        exact ⟨rfl, rfl⟩
      · have hs4 : (s == 4) = false := by simpa using h4
        have hsn := (nx_up hN).1
        clear hN h4
        go_wp2_with fail
        go_meet
        exact ⟨by rw [decide_eq_false (by omega)], rfl⟩
  case rest =>
    obtain ⟨rfl, rfl⟩ := hcut
    go_upto_region 17 with fail
    go_cut [143] (fun c wx => c = .bool false ∧ Below wc.heap.size wc wx)
    case first =>
      have hN := HN.out
      clear HN
      cases is
      · go_wp2_with fail
        go_meet
        exact ⟨rfl, Below.refl _ _⟩
      · rcases ev_cases ev with rfl | rfl | rfl | rfl | rfl | rfl | rfl | ⟨e1, e2, e3, e4, e5, e6, e7⟩
        · clear hN
          go_wp2_with fail
          go_meet
          exact ⟨rfl, Below.refl _ _⟩
        · have iE := fun w => implMayGet n w
          rw [nx_got_end hN] at iE
          clear hN
          go_wp2_with fail
          refine (iE _).mono ?_; rintro e wq ⟨rfl, hb⟩
          go_wp2_with fail
          go_meet
          exact ⟨rfl, hb⟩
        · have iE := fun w => implMaySend n w
          rw [nx_sent_end hN] at iE
          clear hN
          go_wp2_with fail
          refine (iE _).mono ?_; rintro e wq ⟨rfl, hb⟩
          go_wp2_with fail
          go_meet
          exact ⟨rfl, hb⟩
        · clear hN
          go_wp2_with fail
          go_meet
          exact ⟨rfl, Below.refl _ _⟩
        · clear hN
          go_wp2_with fail
          go_meet
          exact ⟨rfl, Below.refl _ _⟩
        · have iE := fun w => implMayGet s w
          rw [nx_got_data hN] at iE
          clear hN
          go_wp2_with fail
          refine (iE _).mono ?_; rintro e wq ⟨rfl, hb⟩
          go_wp2_with fail
          go_meet
          exact ⟨rfl, hb⟩
        · have iE := fun w => implMaySend s w
          rw [nx_sent_data hN] at iE
          clear hN
          go_wp2_with fail
          refine (iE _).mono ?_; rintro e wq ⟨rfl, hb⟩
          go_wp2_with fail
          go_meet
          exact ⟨rfl, hb⟩
        · have q2 : (ev == 2) = false := (by simpa using e2); have q3 : (ev == 3) = false := (by simpa using e3); have q6 : (ev == 6) = false := (by simpa using e6); have q7 : (ev == 7) = false := (by simpa using e7)
          clear e1 e2 e3 e4 e5 e6 e7 hN
          go_wp2_with fail
          go_meet
          exact ⟨rfl, Below.refl _ _⟩
    case rest =>
      obtain ⟨rfl, hb⟩ := hcut
      replace HBW := hide (bchain HBW.out hb)
      replace HO := hide (owns_new HO.out hb)
      clear hb HN
      go_wp2_with fail
      go_loopw [16, 17] (fun x i wr => ∃ (k : Nat) (z : Int), i = .int .i64 k ∧ x = .int .i64 z ∧ k ≤ l.length ∧ Hid (afV z (l.drop k) = (av, al)) ∧ Hid (wr.ownsRow w2.heap.size 2 1 (.slice la l.length lp) l.length (iv l)) ∧ Hid (Below w0.heap.size w0 wr)) (fun _ i _ => l.length - (intOf i).toNat)
      case atStart => exact ⟨0, 0, rfl, rfl, Nat.zero_le _, HA0, HO, HBW⟩
      case round =>
        clear HO HBW
        obtain ⟨k, z, rfl, rfl, hk, HA, HO, HBW⟩ := hrel
        by_cases hlt : k < l.length
        · obtain ⟨gb, gcap, hsl, -, -, hbw, -, -, hc, -⟩ := owns_open HO.out (by omega)
          simp only [Value.slice.injEq] at hsl
          obtain ⟨rfl, -, -⟩ := hsl
          have hck := hc k _ (iv_get l k hlt)
          clear hc
          obtain ⟨e2, hev⟩ : ∃ e2, l[k] = e2 := ⟨_, rfl⟩
          rw [hev] at hck
          obtain ⟨⟨n2, is2⟩, hn⟩ : ∃ y, nxV z e2 = y := ⟨_, rfl⟩
          have hNx := fun w => implNext z e2 w
          rw [hn] at hNx
          dsimp only at hNx
          cases is2
          · have HE : Hid ((av, al) = (z, false)) := by rw [← HA.out]; exact af_step_no hlt (by rw [hev]; exact hn)
            clear hn hev
            go_wp2_with fail
            refine (hNx _).mono ?_; rintro e wq ⟨rfl, hb⟩
            replace HBW := hide (bchain HBW.out hb)
            clear hb
            obtain ⟨rfl, rfl⟩ := Prod.mk.inj HE.out
            go_wp2_with fail
            go_ret
            exact ⟨rfl, HBW.out⟩
          · have HE : Hid (afV n2 (l.drop (k + 1)) = (av, al)) := by rw [← HA.out]; exact (af_step_yes hlt (by rw [hev]; exact hn)).symm
            clear hn hev
            go_wp2_with fail
            refine (hNx _).mono ?_; rintro e wq ⟨rfl, hb⟩
            replace HBW := hide (bchain HBW.out hb)
            replace HO := hide (owns_new HO.out hb)
            clear hb
            go_wp2_with fail
            go_roundw
            case rel => exact ⟨k + 1, n2, by go_num, rfl, by omega, HE, HO, HBW⟩
            case measure => simp [intOf]; omega
        · have HE : Hid ((av, al) = (z, true)) := by rw [← HA.out]; exact af_end (by omega)
          obtain ⟨rfl, rfl⟩ := Prod.mk.inj HE.out
          go_wp2_with fail
          go_ret
          exact ⟨rfl, HBW.out⟩

open Go.ChangeShapes Go.WideShapes Go.ChangeAt Go.Joins
open Go.ChangeMaps (open_string shut_string)


theorem own : ownKnob Try.prog.godebug = none := by kernel_rfl
theorem laidOut : laidOutB Try.prog = true := by kernel_rfl

set_option maxRecDepth 100000 in
theorem lifted (os : Os) (started : os.Started) (H : Type) (enc : TypeId × Value → H) :
    ReturnsInHanded {} Try.checked os 3 .any (Rows.fnStatesSpec.pre6 enc Try.prog Try.f3 Rows.fnStatesRow.domain false) (Rows.fnStatesSpec.post enc Try.prog Try.f3 false true false false) := by
  refine returnsInHanded_of_change (C := Try.checked) own started (by kernel_rfl) Try.func3
    (ChangeSpec.witness6 (enc := enc) (C := Try.checked) false ⟨#[], #[.slice none 0 0], []⟩ 8 (by kernel_rfl) (by kernel_rfl) (by kernel_rfl) (by kernel_rfl)) ?_
  intro W base args ds gs before hval0 hW hcnd _
  have hval : ∀ (j : Nat) t v, Try.f3.params[j]? = some t → args[j]? = some v → Value.okWide Try.prog W .any base t v := hval0
  have hW' := hW
  obtain ⟨p, q, hA0, hV, rfl, hfz, hnd⟩ := hW
  have hA : DataW.TrodAll enc Try.prog W 0 (fun _ => true) true Try.f3.params.toList args.toList ds p := hA0
  rw [Try.params3] at hA hval
  obtain ⟨v0, vs0, d0, ds0, p0, q0, hargs, rfl, rfl, h0, r0⟩ := trodAll_cons hA
  obtain ⟨rfl, rfl, rfl⟩ := trodAll_nil r0
  obtain rfl : args = #[v0] := by cases args; simp_all
  obtain ⟨rfl, rfl⟩ := trodVars_none hV
  have k0 := h0
  have lt0 : ∀ x ∈ p0, x.block < W.heap.size := by obtain ⟨m, hm⟩ := k0; exact DataW.trod_lt m _ _ _ hm
  obtain ⟨a0, len0, cap0, rfl⟩ := okWide_slice Try.underlying22 (hval 0 22 v0 rfl rfl); obtain ⟨hl0, hc0⟩ := open_code h0
  clear hA0 hval0
  refine (walk a0 len0 cap0 W hl0 hc0).mono fun e W' ⟨he, bel⟩ => ?_
  subst he
  exact ⟨_, rfl, _, _, _, [], _, [], hW', trodAll_mk1 (shut_bool Try.underlying4 _), (trodAll_cons_mk (Below.trod laidOut (by kernel_rfl) (of_decide_eq_true (by kernel_rfl)) k0 bel lt0) trodAll_mk0), rfl, bel.frame _, fun h => by cases h⟩

theorem over : Rows.fnStatesRow.holds Try.pinned (OpenSpec.ofChange Rows.fnStatesSpec) :=
  OpenClaim.holds_of_wide 3 Try.f3 rfl rfl rfl rfl rfl rfl rfl ⟨rfl, rfl, rfl, rfl, rfl⟩ rfl rfl rfl rfl rfl (by kernel_rfl) Try.func3 (by kernel_rfl)
    (of_decide_eq_true (by kernel_rfl)) (by unfold Func.isWrapper; first | (rw [if_pos (by decide +kernel)]; kernel_rfl) | (rw [if_neg (by decide +kernel)]; exact ⟨rfl, rfl⟩))
    (fun os started H enc _ => lifted os started H enc)

end lawStates

theorem lawStates_proved : Rows.FnStatesSaid := lawStates.over
#print axioms lawStates_proved
end Go.Proofs.Yteomijcplmkphaa
