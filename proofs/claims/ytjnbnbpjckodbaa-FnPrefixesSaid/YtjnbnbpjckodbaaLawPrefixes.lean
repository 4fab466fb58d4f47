/- The law FnPrefixes returns true at every argument and leaves it as it was. No condition. -/
import Derived.Test.YtjnbnbpjckodbaaDrawPrefix
import Derived.Test.YtjnbnbpjckodbaaPrefixLawMath
import Derived.Test.YtjnbnbpjckodbaaPrefixRead
import Derived.Test.YtjnbnbpjckodbaaPrefixReadSpec
import Derived.Test.YtjnbnbpjckodbaaLater
import Derived.WalkKit
import Derived.ProofKit
import Derived.OpenShut
import Derived.ShutString
import Derived.ChangeOld
import Derived.Below
import Derived.Lib.SmallJoins
import Derived.Deep.DeepCutAuto
import Derived.Handy
namespace Go.Proofs.Ytjnbnbpjckodbaa
open Go.RowKit
namespace lawPrefixes
set_option linter.unusedVariables false
set_option linter.unusedSimpArgs false

set_option maxHeartbeats 4000000 in
set_option maxRecDepth 100000 in
theorem walk (a : Option Addr) (len cap : Nat) (w : World) (hl : len ≤ maxLen) (hcode : CodeAt w a len w.heap.size) :
    Calls Try.prog 3 #[.slice a len cap] w fun x w' => x = .returned (.bool true) ∧ Below w.heap.size w w' := by
  unfold maxLen at hl
  by_cases hbig : (4096 : Int) < len
  · go_enter Try.func3, Try.ntmps3
    go_wp2_with fail
    refine (big1 a len cap _).mono ?_; rw [decide_eq_true hbig]; rintro x w1 ⟨rfl, rfl⟩
    go_wp2_with fail
    go_ret
    exact ⟨rfl, Below.refl _ _⟩
  have hl' : len ≤ 4096 := by omega
  go_enter Try.func3, Try.ntmps3
  go_wp2_with fail
  refine (big1 a len cap _).mono ?_; rw [decide_eq_false (by omega)]; rintro x w0 ⟨rfl, rfl⟩
  go_wp2_with fail
  refine (drawPrefixed a len cap _ hl' hcode).mono ?_; rintro x w1 ⟨n, b, h, rfl, hb1⟩
  go_wp2_with fail
  refine (implPrefixed n b h _).mono ?_; rintro x w2 ⟨rfl, hb2⟩
  replace hb2 := bchain hb1 hb2
  clear hb1
  go_wp2_with fail
  refine (drawRead a len cap _ hl' (hcode.behind hb2)).mono ?_; rintro x w3 ⟨t, b2, ht, rfl, hb3⟩
  replace hb3 := bchain hb2 hb3
  clear hb2
  have htm : t.size ≤ maxLen := by unfold maxLen; omega
  go_wp2_with fail
  refine (implRead t b2 _ htm).mono ?_; rintro x w4 ⟨rfl, hb4⟩
  replace hb4 := bchain hb3 hb4
  clear hb3
  go_wp2_with fail
  refine (drawHigh a len cap _ hl' (hcode.behind hb4)).mono ?_; rintro x w5 ⟨u, c, hu, rfl, hb5⟩
  replace hb5 := bchain hb4 hb5
  clear hb4
  have hum : u.size ≤ maxLen := by unfold maxLen; omega
  go_wp2_with fail
  refine (drawWidth a len cap _ hl' (hcode.behind hb5)).mono ?_; rintro x w6 ⟨v, d, rfl, hb6⟩
  replace hb6 := bchain hb5 hb6
  clear hb5
  go_wp2_with fail
  refine (specRead t b2 _ htm).mono ?_; rintro x w7 ⟨rfl, hb7⟩
  replace hb7 := bchain hb6 hb7
  clear hb6
  have HW := law_written (t := t) (b := b2)
  obtain ⟨R, hR⟩ : ∃ R, rdV t b2 = R := ⟨_, rfl⟩
  rw [hR] at HW ⊢
  obtain ⟨m, k⟩ := R
  have HW2 := hide HW
  clear HW hR
  go_wp2_with fail
  refine (specPrefixed n b h _).mono ?_; rintro x w8 ⟨rfl, hb8⟩
  replace hb8 := bchain hb7 hb8
  clear hb7
  go_wp2_with fail
  refine (implHigh u c _ hum).mono ?_; rintro x w9 ⟨rfl, hb9⟩
  replace hb9 := bchain hb8 hb9
  clear hb8
  go_wp2_with fail
  refine (specHigh u c _ hum).mono ?_; rintro x w10 ⟨rfl, hb10⟩
  replace hb10 := bchain hb9 hb10
  clear hb9
  go_wp2_with fail
  refine (implWidth v d _).mono ?_; rintro x w11 ⟨rfl, hb11⟩
  replace hb11 := bchain hb10 hb11
  clear hb10
  go_wp2_with fail
  refine (specWidth v d _).mono ?_; rintro x w12 ⟨rfl, hb12⟩
  replace hb12 := bchain hb11 hb12
  clear hb11
  go_upto_region 12 with fail
  go_cut [112] (fun c wx => c = .bool false ∧ Below w12.heap.size w12 wx)
  case first =>
    as_aux_lemma =>
      by_cases hk : 0 < k
      · obtain ⟨K, rfl⟩ : ∃ K : Nat, k = K := ⟨k.toNat, by omega⟩
        obtain ⟨e1, e2, e3, e4⟩ := HW2.out hk
        simp only [Int.toNat_natCast] at e1
        have E1 := hide e1
        have E2 := hide e2
        clear e1 e2 HW2
        have hkd : decide ((0 : Int) < (K : Int)) = true := decide_eq_true hk
        have hK : 0 < K := by omega
        have hne : Nonempty (Later w12) := ⟨⟨w12, Below.refl _ _⟩⟩
        go_wp2_with fail
        refine region_later (by kernel_rfl) (by kernel_rfl) ?_
        repeat (go_big_quiet_step (fail))
        go_big_quiet_want; go_big_quiet_op
        refine ⟨.int .i64 (hiV t b2), fun y => later_calls (x := y) (implHigh t b2 _ htm), ?_⟩
        go_big_quiet_on
        go_big_quiet_want; go_big_quiet_op
        refine ⟨.string (t.extract 0 K), fun y => later_calls (x := y) ?_, ?_⟩
        · have h := implPrefixed m b2 (hiV t b2) y.w
          rw [E1.out] at h
          exact h
        go_big_quiet_on
        repeat (go_big_quiet_step (fail))
        go_big_quiet_want; go_big_quiet_op
        refine ⟨.int .i64 (K : Int), fun y => later_calls (x := y) ?_, ?_⟩
        · have h := implWidth m b2 y.w
          rw [E2.out] at h
          exact h
        go_big_quiet_on
        repeat (go_big_quiet_step (fail))
        refine wpQuiet_nil ?_
        intro _ hw'
        obtain ⟨y, hw''⟩ := hw'
        subst hw''
        have hby := y.b
        go_wp2_with fail
        go_meet
        exact ⟨rfl, hby⟩
      · have hkd : decide (0 < k) = false := decide_eq_false hk
        go_wp2_with fail
        go_quiet (fail)
        go_wp2_with fail
        go_meet
        exact ⟨rfl, bo_drewN _ (Below.refl _ _)⟩
  case rest =>
    obtain ⟨rfl, hR⟩ := hcut
    obtain ⟨w13, rfl⟩ : ∃ v : World, v = wc := ⟨_, rfl⟩
    replace hb12 := bchain hb12 hR
    clear hR HW2
    cases hop : okP n b h
    · have hv : preV n b h = ⟨#[]⟩ := by simp [preV, hop]
      rw [hv]
      by_cases hc : (0 ≤ n ∧ n ≤ 268435456 ∧ 1 ≤ b ∧ b ≤ 8) ∧ (0 ≤ h ∧ h ≤ 255)
      · obtain ⟨⟨hn0, hn, h1, h8⟩, hh0, hh1⟩ := hc
        have hok : okN n b = true := decide_eq_true ⟨hn0, hn, h1, h8⟩
        have hin : inB h 0 255 = true := decide_eq_true ⟨hh0, hh1⟩
        have hnz : ¬ h % pw b = 0 := fun e => by simp [okP, hok, hin, e] at hop
        obtain ⟨hp1, hp2⟩ := pw_lo h1 h8
        have hpw : (2 : Int) ^ b.toNat = pw b := rfl
        have E := hide (show (decide (n < 0) || decide (268435456 < n) || decide (b < 1) || decide (8 < b) || decide (h < 0) || decide (255 < h) || h % pw b != 0) = true by simp [hnz])
        go_wp2_with fail
        go_ret
        exact ⟨congrArg (fun z => Ending.returned (.bool z)) E.out, hb12⟩
      · go_wp2_with fail
        all_goals first
          | (exfalso; omega)
          | (go_ret
             exact ⟨rfl, hb12⟩)
    · have hlr := law_read hop t
      have hlh := law_high hop
      obtain ⟨hz0, hz6, hz1⟩ := law_size hop
      obtain ⟨⟨hn0, hn, h1, h8⟩, ⟨hh0, hh1⟩, hmm, hf⟩ := okP_true hop
      obtain ⟨hp1, hp2⟩ := pw_lo h1 h8
      have hpw : (2 : Int) ^ b.toNat = pw b := rfl
      obtain ⟨S, hS⟩ : ∃ S, preV n b h = S := ⟨_, rfl⟩
      rw [hS] at hlr hlh hz0 hz6 hz1 ⊢
      have HLR := hide hlr
      have HLH := hide hlh
      have hne := list_ne hz0
      have hne' := list_isEmpty hz0
      have hsz : (S ++ t).size ≤ maxLen := by rw [ByteArray.size_append]; unfold maxLen; omega
      clear hlr hlh hS hop hmm
      by_cases hlt : n < pw b - 1
      · have hs1 : S.size = 1 := hz1.2 hlt
        clear hz1 hz0 hz6
        go_wp2_with fail
        refine (implRead (S ++ t) b _ hsz).mono ?_; rw [HLR.out]; rintro x w14 ⟨rfl, hb14⟩
        replace hb14 := bchain hb12 hb14
        go_wp2_with fail
        refine (implHigh S b _ (by unfold maxLen; omega)).mono ?_; rw [HLH.out]; rintro x w15 ⟨rfl, hb15⟩
        replace hb15 := bchain hb14 hb15
        go_wp2_with fail
        go_ret
        exact ⟨rfl, hb15⟩
      · have hs1 : ¬ S.size = 1 := fun e => hlt (hz1.1 e)
        have hs2 : ¬ (S.size : Int) = 1 := by omega
        have E := hide (show (((S.size : Int) == 1) == decide (n < pw b - 1)) = true by
          have e1 : ((S.size : Int) == 1) = false := by simpa using hs2
          have e2 : decide (n < pw b - 1) = false := decide_eq_false hlt
          rw [e1, e2]; rfl)
        clear hz1 hz0
        go_wp2_with fail
        refine (implRead (S ++ t) b _ hsz).mono ?_; rw [HLR.out]; rintro x w14 ⟨rfl, hb14⟩
        replace hb14 := bchain hb12 hb14
        go_wp2_with fail
        refine (implHigh S b _ (by unfold maxLen; omega)).mono ?_; rw [HLH.out]; rintro x w15 ⟨rfl, hb15⟩
        replace hb15 := bchain hb14 hb15
        go_wp2_with fail
        go_ret
        exact ⟨congrArg (fun z => Ending.returned (.bool z)) E.out, hb15⟩

open Go.ChangeShapes Go.WideShapes Go.ChangeAt Go.Joins
open Go.ChangeMaps (open_string shut_string)


theorem own : ownKnob Try.prog.godebug = none := by kernel_rfl
theorem laidOut : laidOutB Try.prog = true := by kernel_rfl

set_option maxRecDepth 100000 in
theorem lifted (os : Os) (started : os.Started) (H : Type) (enc : TypeId × Value → H) :
    ReturnsInHanded {} Try.checked os 3 .any (Rows.fnPrefixesSpec.pre6 enc Try.prog Try.f3 Rows.fnPrefixesRow.domain false) (Rows.fnPrefixesSpec.post enc Try.prog Try.f3 false true false false) := by
  refine returnsInHanded_of_change (C := Try.checked) own started (by kernel_rfl) Try.func3
    (ChangeSpec.witness6 (enc := enc) (C := Try.checked) false ⟨#[], #[.slice none 0 0], []⟩ 8 (by kernel_rfl) (by kernel_rfl) (by kernel_rfl) (by kernel_rfl)) ?_
  intro W base args ds gs before hval0 hW hcnd _
  have hval : ∀ (j : Nat) t v, Try.f3.params[j]? = some t → args[j]? = some v → Value.okWide Try.prog W .any base t v := hval0
  have hW' := hW
  obtain ⟨p, q, hA0, hV, rfl, hfz, hnd⟩ := hW
  have hA : DataW.TrodAll enc Try.prog W 0 (fun _ => true) true Try.f3.params.toList args.toList ds p := hA0
  rw [Try.params3] at hA hval
  obtain ⟨v0, vs0, d0, ds0, p0, q0, hargs, rfl, rfl, h0, r0⟩ := trodAll_cons hA
  obtain ⟨rfl, rfl, rfl⟩ := trodAll_nil r0
  obtain rfl : args = #[v0] := by cases args; simp_all
  obtain ⟨rfl, rfl⟩ := trodVars_none hV
  have k0 := h0
  have lt0 : ∀ x ∈ p0, x.block < W.heap.size := by obtain ⟨m, hm⟩ := k0; exact DataW.trod_lt m _ _ _ hm
  obtain ⟨a0, len0, cap0, rfl⟩ := okWide_slice Try.underlying22 (hval 0 22 v0 rfl rfl); obtain ⟨hl0, hc0⟩ := open_code h0
  clear hA0 hval0
  refine (walk a0 len0 cap0 W hl0 hc0).mono fun e W' ⟨he, bel⟩ => ?_
  subst he
  exact ⟨_, rfl, _, _, _, [], _, [], hW', trodAll_mk1 (shut_bool Try.underlying4 _), (trodAll_cons_mk (Below.trod laidOut (by kernel_rfl) (of_decide_eq_true (by kernel_rfl)) k0 bel lt0) trodAll_mk0), rfl, bel.frame _, fun h => by cases h⟩

theorem over : Rows.fnPrefixesRow.holds Try.pinned (OpenSpec.ofChange Rows.fnPrefixesSpec) :=
  OpenClaim.holds_of_wide 3 Try.f3 rfl rfl rfl rfl rfl rfl rfl ⟨rfl, rfl, rfl, rfl, rfl⟩ rfl rfl rfl rfl rfl (by kernel_rfl) Try.func3 (by kernel_rfl)
    (of_decide_eq_true (by kernel_rfl)) (by unfold Func.isWrapper; first | (rw [if_pos (by decide +kernel)]; kernel_rfl) | (rw [if_neg (by decide +kernel)]; exact ⟨rfl, rfl⟩))
    (fun os started H enc _ => lifted os started H enc)

end lawPrefixes

theorem lawPrefixes_proved : Rows.FnPrefixesSaid := lawPrefixes.over
#print axioms lawPrefixes_proved
end Go.Proofs.Ytjnbnbpjckodbaa
