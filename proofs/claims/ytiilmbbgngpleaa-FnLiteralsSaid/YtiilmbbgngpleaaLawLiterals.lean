/- The law FnLiterals returns true at every argument and leaves it as it was. No condition. -/
import Derived.Test.YtiilmbbgngpleaaLitLawMath
import Derived.Test.YtiilmbbgngpleaaPrefixWidth
import Derived.Test.YtiilmbbgngpleaaLater
import Derived.WalkKit
import Derived.ProofKit
import Derived.OpenShut
import Derived.ShutString
import Derived.ChangeOld
import Derived.Below
import Derived.Lib.SmallJoins
import Derived.Deep.DeepCutAuto
import Derived.Handy
namespace Go.Proofs.Ytiilmbbgngpleaa
open Go.RowKit
set_option linter.unusedVariables false
set_option linter.unusedSimpArgs false
namespace lawLiterals

set_option maxHeartbeats 4000000 in
set_option maxRecDepth 100000 in
theorem walk (a : Option Addr) (len cap : Nat) (w : World) (hl : len ≤ maxLen) (hcode : CodeAt w a len w.heap.size) :
    Calls Try.prog 3 #[.slice a len cap] w fun x w' => x = .returned (.bool true) ∧ Below w.heap.size w w' := by
  unfold maxLen at hl
  by_cases hbig : (4096 : Int) < len
  · go_enter Try.func3, Try.ntmps3
    go_wp2_with fail
    refine (big1 a len cap _).mono ?_; rw [decide_eq_true hbig]; rintro x w1 ⟨rfl, rfl⟩
    go_wp2_with fail
    go_ret
    exact ⟨rfl, Below.refl _ _⟩
  have hl' : len ≤ 4096 := by omega
  go_enter Try.func3, Try.ntmps3
  go_wp2_with fail
  refine (big1 a len cap _).mono ?_; rw [decide_eq_false (by omega)]; rintro x w0 ⟨rfl, rfl⟩
  go_wp2_with fail
  refine (drawLiteral a len cap _ hl' hcode).mono ?_; rintro x w1 ⟨s, hs, rfl, hb1⟩
  have hsm : s.size ≤ maxLen := by unfold maxLen; omega
  go_wp2_with fail
  refine (implLiteral s _ hsm).mono ?_; rintro x w2 ⟨rfl, hb2⟩
  replace hb2 := bchain hb1 hb2
  clear hb1
  go_wp2_with fail
  refine (drawReadLiteral a len cap _ hl' (hcode.behind hb2)).mono ?_; rintro x w3 ⟨t, ht, rfl, hb3⟩
  replace hb3 := bchain hb2 hb3
  clear hb2
  have htm : t.size ≤ maxLen := by unfold maxLen; omega
  have E1 := rl_pos (t := t)
  have hn0 := rl_nonneg t
  go_wp2_with fail
  refine (implReadL t _ htm).mono ?_
  obtain ⟨R, hR⟩ : ∃ R, rlV t = R := ⟨_, rfl⟩
  rw [hR] at E1 hn0 ⊢
  obtain ⟨y, n⟩ := R
  simp only at E1 hn0
  rintro x w4 ⟨rfl, hb4⟩
  replace hb4 := bchain hb3 hb4
  clear hb3
  replace E1 := hide E1
  go_wp2_with fail
  refine (specReadL t _ htm).mono ?_; rw [hR]; rintro x w5 ⟨rfl, hb5⟩
  replace hb5 := bchain hb4 hb5
  clear hb4 hR
  obtain ⟨l, hlit⟩ : ∃ l, litV s = l := ⟨_, rfl⟩
  rw [hlit]
  go_upto_region 10 with (go_at_call 15; refine (specLiteral _ _ hsm).mono ?_; rw [hlit]; rintro x w6 ⟨rfl, hb6⟩; replace hb6 := bchain hb5 hb6)
  go_cut [55] (fun c wx => c = .bool false ∧ Below w6.heap.size w6 wx)
  case first =>
    as_aux_lemma =>
      by_cases hk : 0 < n
      · obtain ⟨e, rfl, e0, e1, e2, e3⟩ := E1.out hk
        have hkd : decide ((0 : Int) < (e : Int)) = true := decide_eq_true hk
        have hym : y.size ≤ maxLen := by unfold maxLen; omega
        have hsl : ∀ w : World, (Instr.slice 9 (.string t) none (some (.int .i64 (e : Int))) none).run Try.prog w = .ok (.string (t.extract 0 e)) w := by
          intro w
          rw [run_slice_string_to_if (P := Try.prog) w 9 t .i64 (e : Int) Try.underlying9, if_pos ⟨by omega, by omega⟩]
          simp
        have E2 := hide e2
        clear e2 E1
        have hne : Nonempty (Later w6) := ⟨⟨w6, Below.refl _ _⟩⟩
        go_wp2_with fail
        refine region_later (by kernel_rfl) (by kernel_rfl) ?_
        repeat (go_big_quiet_step (fail))
        go_big_quiet_want; go_big_quiet_op
        refine ⟨.string (t.extract 0 e), fun z => later_calls (x := z) ?_, ?_⟩
        · have h := implLiteral y z.w hym
          rw [E2.out] at h
          exact h
        go_big_quiet_on
        repeat (go_big_quiet_step (fail))
        refine wpQuiet_nil ?_
        intro _ hw'
        obtain ⟨z, hw''⟩ := hw'
        subst hw''
        have hby := z.b
        go_wp2_with fail
        go_meet
        exact ⟨rfl, hby⟩
      · have hkd : decide (0 < n) = false := decide_eq_false hk
        go_wp2_with fail
        go_quiet (fail)
        go_wp2_with fail
        go_meet
        exact ⟨rfl, bo_drewN _ (Below.refl _ _)⟩
  case rest =>
    obtain ⟨rfl, hR⟩ := hcut
    obtain ⟨w7, rfl⟩ : ∃ v : World, v = wc := ⟨_, rfl⟩
    replace hb6 := bchain hb6 hR
    clear hR E1 hb5
    by_cases h200 : 200 < s.size
    · have e := litV_long h200
      rw [hlit] at e
      subst e
      have h2 : (200 : Int) < s.size := by omega
      have EQ := hide (show decide ((200 : Int) < s.size) = true from decide_eq_true h2)
      clear hlit
      go_wp2_with fail
      go_ret
      exact ⟨rfl, hb6⟩
    · have hs2 : s.size ≤ 200 := by omega
      have hpos := lit_pos hs2
      have hrl := rd_lit t hs2
      have hcut := rl_cut hs2
      have hlen := lit_len hs2
      have hsml := litV_small s
      rw [hlit] at hpos hrl hcut hlen hsml
      have hne := list_ne hpos
      have hne' := list_isEmpty hpos
      have hcm : (l ++ t).size ≤ maxLen := by rw [ba_size_append]; unfold maxLen; omega
      have hcs : (l.extract 0 (l.size - 1)).size ≤ maxLen := by rw [ba_extract_size (by omega) (by omega)]; unfold maxLen; omega
      have hsl : ∀ w : World, (Instr.slice 9 (.string l) none (some (.int .i64 ((l.size : Int) - 1))) none).run Try.prog w = .ok (.string (l.extract 0 (l.size - 1))) w := by
        intro w
        rw [run_slice_string_to_if (P := Try.prog) w 9 l .i64 ((l.size : Int) - 1) Try.underlying9, if_pos ⟨by omega, by omega⟩]
        have : ((l.size : Int) - 1).toNat = l.size - 1 := by omega
        rw [this]
      have H1 := hide hrl
      have H2 := hide hcut
      have H3 := hide hlen
      clear hrl hcut hlen hlit
      go_wp2_with fail
      refine (implReadL (l ++ t) _ hcm).mono ?_; rw [H1.out]; rintro x w8 ⟨rfl, hb8⟩
      replace hb8 := bchain hb6 hb8
      go_wp2_with fail
      refine (implReadL (l.extract 0 (l.size - 1)) _ hcs).mono ?_; rw [H2.out]; rintro x w9 ⟨rfl, hb9⟩
      replace hb9 := bchain hb8 hb9
      go_wp2_with fail
      refine (implWidth (s.size : Int) 7 _).mono ?_; rintro x w10 ⟨rfl, hb10⟩
      replace hb10 := bchain hb9 hb10
      obtain ⟨W, hW⟩ : ∃ W, wdV (s.size : Int) 7 = W := ⟨_, rfl⟩
      have hWr := wdV_range (s.size : Int) 7
      have h3 := H3.out
      rw [hW] at h3 hWr ⊢
      clear H3
      go_wp2_with fail
      go_ret
      exact ⟨rfl, hb10⟩

open Go.ChangeShapes Go.WideShapes Go.ChangeAt Go.Joins
open Go.ChangeMaps (open_string shut_string)


theorem own : ownKnob Try.prog.godebug = none := by kernel_rfl
theorem laidOut : laidOutB Try.prog = true := by kernel_rfl

set_option maxRecDepth 100000 in
theorem lifted (os : Os) (started : os.Started) (H : Type) (enc : TypeId × Value → H) :
    ReturnsInHanded {} Try.checked os 3 .any (Rows.fnLiteralsSpec.pre6 enc Try.prog Try.f3 Rows.fnLiteralsRow.domain false) (Rows.fnLiteralsSpec.post enc Try.prog Try.f3 false true false false) := by
  refine returnsInHanded_of_change (C := Try.checked) own started (by kernel_rfl) Try.func3
    (ChangeSpec.witness6 (enc := enc) (C := Try.checked) false ⟨#[], #[.slice none 0 0], []⟩ 8 (by kernel_rfl) (by kernel_rfl) (by kernel_rfl) (by kernel_rfl)) ?_
  intro W base args ds gs before hval0 hW hcnd _
  have hval : ∀ (j : Nat) t v, Try.f3.params[j]? = some t → args[j]? = some v → Value.okWide Try.prog W .any base t v := hval0
  have hW' := hW
  obtain ⟨p, q, hA0, hV, rfl, hfz, hnd⟩ := hW
  have hA : DataW.TrodAll enc Try.prog W 0 (fun _ => true) true Try.f3.params.toList args.toList ds p := hA0
  rw [Try.params3] at hA hval
  obtain ⟨v0, vs0, d0, ds0, p0, q0, hargs, rfl, rfl, h0, r0⟩ := trodAll_cons hA
  obtain ⟨rfl, rfl, rfl⟩ := trodAll_nil r0
  obtain rfl : args = #[v0] := by cases args; simp_all
  obtain ⟨rfl, rfl⟩ := trodVars_none hV
  have k0 := h0
  have lt0 : ∀ x ∈ p0, x.block < W.heap.size := by obtain ⟨m, hm⟩ := k0; exact DataW.trod_lt m _ _ _ hm
  obtain ⟨a0, len0, cap0, rfl⟩ := okWide_slice Try.underlying22 (hval 0 22 v0 rfl rfl); obtain ⟨hl0, hc0⟩ := open_code h0
  clear hA0 hval0
  refine (walk a0 len0 cap0 W hl0 hc0).mono fun e W' ⟨he, bel⟩ => ?_
  subst he
  exact ⟨_, rfl, _, _, _, [], _, [], hW', trodAll_mk1 (shut_bool Try.underlying4 _), (trodAll_cons_mk (Below.trod laidOut (by kernel_rfl) (of_decide_eq_true (by kernel_rfl)) k0 bel lt0) trodAll_mk0), rfl, bel.frame _, fun h => by cases h⟩

theorem over : Rows.fnLiteralsRow.holds Try.pinned (OpenSpec.ofChange Rows.fnLiteralsSpec) :=
  OpenClaim.holds_of_wide 3 Try.f3 rfl rfl rfl rfl rfl rfl rfl ⟨rfl, rfl, rfl, rfl, rfl⟩ rfl rfl rfl rfl rfl (by kernel_rfl) Try.func3 (by kernel_rfl)
    (of_decide_eq_true (by kernel_rfl)) (by unfold Func.isWrapper; first | (rw [if_pos (by decide +kernel)]; kernel_rfl) | (rw [if_neg (by decide +kernel)]; exact ⟨rfl, rfl⟩))
    (fun os started H enc _ => lifted os started H enc)

end lawLiterals

theorem lawLiterals_proved : Rows.FnLiteralsSaid := lawLiterals.over
#print axioms lawLiterals_proved
end Go.Proofs.Ytiilmbbgngpleaa
