/- The law FnWindows returns true at every argument and leaves it as it was. No condition. -/
import Derived.Test.YtalngkcmhoebmaaWinSpec
import Derived.Test.YtalngkcmhoebmaaWinImpl
import Derived.Test.YtalngkcmhoebmaaWinDraw
import Derived.WalkKit
import Derived.ProofKit
import Derived.OpenShut
import Derived.ShutString
import Derived.ChangeOld
import Derived.Below
import Derived.Lib.SmallJoins

namespace Go.Proofs.Ytalngkcmhoebmaa
open Go.RowKit
set_option maxRecDepth 100000
set_option linter.unusedSimpArgs false
set_option linter.unusedVariables false
namespace lawWindows
set_option maxHeartbeats 4000000 in
set_option maxRecDepth 100000 in
theorem walk (a : Option Addr) (len cap : Nat) (w : World) (hl : len ≤ maxLen) (hcode : CodeAt w a len w.heap.size) :
    Calls Try.prog 3 #[.slice a len cap] w fun x w' => x = .returned (.bool true) ∧ Below w.heap.size w w' := by
  unfold maxLen at hl
  by_cases hbig : (4096 : Int) < len
  · go_enter Try.func3, Try.ntmps3
    go_wp2_with fail
    refine (big1 a len cap _).mono ?_; rw [decide_eq_true hbig]; rintro x w1 ⟨rfl, rfl⟩
    go_wp2_with fail
    go_ret
    exact ⟨rfl, Below.refl _ _⟩
  have hl' : len ≤ 4096 := by omega
  have HCODE := hide hcode
  clear hcode
  go_enter Try.func3, Try.ntmps3
  go_wp2_with fail
  refine (big1 a len cap _).mono ?_; rw [decide_eq_false (by omega)]; rintro x w0 ⟨rfl, rfl⟩
  have HBW := hide (Below.refl w0.heap.size w0)
  go_wp2_with fail
  refine (drawGranted a len cap _ hl' (HCODE.out.behind HBW.out)).mono ?_; rintro e w1 ⟨x, n, rfl, hb⟩
  replace HBW := hide (bchain HBW.out hb)
  clear hb
  obtain ⟨⟨gv, gb⟩, hG⟩ : ∃ y, grV x n = y := ⟨_, rfl⟩
  have iG := fun w => implGranted x n w
  have sG := fun w => specGranted x n w
  rw [hG] at iG sG
  dsimp only at iG sG
  have HG := hide hG
  clear hG
  go_wp2_with fail
  refine (iG _).mono ?_; rintro e w2 ⟨rfl, hb⟩
  replace HBW := hide (bchain HBW.out hb)
  clear hb
  go_wp2_with fail
  refine (drawUsed a len cap _ hl' (HCODE.out.behind HBW.out)).mono ?_; rintro e w3 ⟨p, q, rfl, hb⟩
  replace HBW := hide (bchain HBW.out hb)
  clear hb
  obtain ⟨⟨uv, ub⟩, hU⟩ : ∃ y, usV p q = y := ⟨_, rfl⟩
  have iU := fun w => implUsed p q w
  have sU := fun w => specUsed p q w
  rw [hU] at iU sU
  dsimp only at iU sU
  have HU := hide hU
  clear hU
  go_wp2_with fail
  refine (iU _).mono ?_; rintro e w4 ⟨rfl, hb⟩
  replace HBW := hide (bchain HBW.out hb)
  clear hb
  go_wp2_with fail
  refine (drawMoved a len cap _ hl' (HCODE.out.behind HBW.out)).mono ?_; rintro e w5 ⟨c, o, f, rfl, hb⟩
  replace HBW := hide (bchain HBW.out hb)
  clear hb
  obtain ⟨⟨mv, mb⟩, hM⟩ : ∃ y, mvV c o f = y := ⟨_, rfl⟩
  have iM := fun w => implMoved c o f w
  have sM := fun w => specMoved c o f w
  rw [hM] at iM sM
  dsimp only at iM sM
  have HM := hide hM
  clear hM
  go_wp2_with fail
  refine (iM _).mono ?_; rintro e w6 ⟨rfl, hb⟩
  replace HBW := hide (bchain HBW.out hb)
  clear hb
  have hgg : (gb != gb) = false := by cases gb <;> rfl
  have huu : (ub != ub) = false := by cases ub <;> rfl
  have hmm : (mb != mb) = false := by cases mb <;> rfl
  go_wp2_with fail
  refine (sG _).mono ?_; rintro e w7 ⟨rfl, hsame⟩; obtain rfl := hsame.symm; clear hsame
  go_wp2_with fail
  refine (sU _).mono ?_; rintro e w8 ⟨rfl, hsame⟩; obtain rfl := hsame.symm; clear hsame
  go_wp2_with fail
  refine (sM _).mono ?_; rintro e w9 ⟨rfl, hsame⟩; obtain rfl := hsame.symm; clear hsame
  clear sG sU sM iG iU iM
  cases gb
  · have e := gr_no HG.out
    subst e
    cases ub
    · have e := us_no HU.out
      subst e
      cases mb
      · have e := mv_no HM.out
        subst e
        go_wp2_with fail
        all_goals go_ret
        all_goals exact ⟨by first | rfl | simp | (simp; omega), HBW.out⟩
      · have hbk := law_back HM.out
        have iB := fun w => implMoved mv f o w
        rw [hbk] at iB
        dsimp only at iB
        clear hbk
        go_wp2_with fail
        refine (iB _).mono ?_; rintro e w10 ⟨rfl, hb⟩
        replace HBW := hide (bchain HBW.out hb)
        clear hb
        go_wp2_with fail
        all_goals go_ret
        all_goals exact ⟨by first | rfl | simp | (simp; omega), HBW.out⟩
    · obtain ⟨hu1, hu2, hu3, hu4⟩ := us_yes HU.out
      have hux : 0 ≤ uv := by omega
      have huy : uv ≤ p := by omega
      clear hu4
      cases mb
      · have e := mv_no HM.out
        subst e
        go_wp2_with fail
        all_goals go_ret
        all_goals exact ⟨by first | rfl | simp | (simp; omega), HBW.out⟩
      · have hbk := law_back HM.out
        have iB := fun w => implMoved mv f o w
        rw [hbk] at iB
        dsimp only at iB
        clear hbk
        go_wp2_with fail
        refine (iB _).mono ?_; rintro e w10 ⟨rfl, hb⟩
        replace HBW := hide (bchain HBW.out hb)
        clear hb
        go_wp2_with fail
        all_goals go_ret
        all_goals exact ⟨by first | rfl | simp | (simp; omega), HBW.out⟩
  · obtain ⟨hg1, hg2, hg3, hg4, hg5⟩ := gr_yes HG.out
    have hgx := winB_true hg1
    have hgl : x < gv := by omega
    have hgm : gv ≤ 16777215 := by omega
    have hgk : x ≤ gv := by omega
    clear hg1 hg4 hg5
    cases ub
    · have e := us_no HU.out
      subst e
      cases mb
      · have e := mv_no HM.out
        subst e
        by_cases hgn : gv < n
        · skip
          go_wp2_with fail
          all_goals go_ret
          all_goals exact ⟨by first | rfl | simp | (simp; omega), HBW.out⟩
        · have hus := law_used HG.out (by omega)
          have iE := fun w => implUsed gv n w
          rw [hus] at iE
          dsimp only at iE
          clear hus
          go_wp2_with fail
          refine (iE _).mono ?_; rintro e w10 ⟨rfl, hb⟩
          replace HBW := hide (bchain HBW.out hb)
          clear hb
          go_wp2_with fail
          all_goals go_ret
          all_goals exact ⟨by first | rfl | simp | (simp; omega), HBW.out⟩
      · have hbk := law_back HM.out
        have iB := fun w => implMoved mv f o w
        rw [hbk] at iB
        dsimp only at iB
        clear hbk
        go_wp2_with fail
        refine (iB _).mono ?_; rintro e w10 ⟨rfl, hb⟩
        replace HBW := hide (bchain HBW.out hb)
        clear hb
        by_cases hgn : gv < n
        · skip
          go_wp2_with fail
          all_goals go_ret
          all_goals exact ⟨by first | rfl | simp | (simp; omega), HBW.out⟩
        · have hus := law_used HG.out (by omega)
          have iE := fun w => implUsed gv n w
          rw [hus] at iE
          dsimp only at iE
          clear hus
          go_wp2_with fail
          refine (iE _).mono ?_; rintro e w11 ⟨rfl, hb⟩
          replace HBW := hide (bchain HBW.out hb)
          clear hb
          go_wp2_with fail
          all_goals go_ret
          all_goals exact ⟨by first | rfl | simp | (simp; omega), HBW.out⟩
    · obtain ⟨hu1, hu2, hu3, hu4⟩ := us_yes HU.out
      have hux : 0 ≤ uv := by omega
      have huy : uv ≤ p := by omega
      clear hu4
      cases mb
      · have e := mv_no HM.out
        subst e
        by_cases hgn : gv < n
        · skip
          go_wp2_with fail
          all_goals go_ret
          all_goals exact ⟨by first | rfl | simp | (simp; omega), HBW.out⟩
        · have hus := law_used HG.out (by omega)
          have iE := fun w => implUsed gv n w
          rw [hus] at iE
          dsimp only at iE
          clear hus
          go_wp2_with fail
          refine (iE _).mono ?_; rintro e w10 ⟨rfl, hb⟩
          replace HBW := hide (bchain HBW.out hb)
          clear hb
          go_wp2_with fail
          all_goals go_ret
          all_goals exact ⟨by first | rfl | simp | (simp; omega), HBW.out⟩
      · have hbk := law_back HM.out
        have iB := fun w => implMoved mv f o w
        rw [hbk] at iB
        dsimp only at iB
        clear hbk
        go_wp2_with fail
        refine (iB _).mono ?_; rintro e w10 ⟨rfl, hb⟩
        replace HBW := hide (bchain HBW.out hb)
        clear hb
        by_cases hgn : gv < n
        · skip
          go_wp2_with fail
          all_goals go_ret
          all_goals exact ⟨by first | rfl | simp | (simp; omega), HBW.out⟩
        · have hus := law_used HG.out (by omega)
          have iE := fun w => implUsed gv n w
          rw [hus] at iE
          dsimp only at iE
          clear hus
          go_wp2_with fail
          refine (iE _).mono ?_; rintro e w11 ⟨rfl, hb⟩
          replace HBW := hide (bchain HBW.out hb)
          clear hb
          go_wp2_with fail
          all_goals go_ret
          all_goals exact ⟨by first | rfl | simp | (simp; omega), HBW.out⟩

open Go.ChangeShapes Go.WideShapes Go.ChangeAt Go.Joins
open Go.ChangeMaps (open_string shut_string)


theorem own : ownKnob Try.prog.godebug = none := by kernel_rfl
theorem laidOut : laidOutB Try.prog = true := by kernel_rfl

set_option maxRecDepth 100000 in
theorem lifted (os : Os) (started : os.Started) (H : Type) (enc : TypeId × Value → H) :
    ReturnsInHanded {} Try.checked os 3 .any (Rows.fnWindowsSpec.pre6 enc Try.prog Try.f3 Rows.fnWindowsRow.domain false) (Rows.fnWindowsSpec.post enc Try.prog Try.f3 false true false false) := by
  refine returnsInHanded_of_change (C := Try.checked) own started (by kernel_rfl) Try.func3
    (ChangeSpec.witness6 (enc := enc) (C := Try.checked) false ⟨#[], #[.slice none 0 0], []⟩ 8 (by kernel_rfl) (by kernel_rfl) (by kernel_rfl) (by kernel_rfl)) ?_
  intro W base args ds gs before hval0 hW hcnd _
  have hval : ∀ (j : Nat) t v, Try.f3.params[j]? = some t → args[j]? = some v → Value.okWide Try.prog W .any base t v := hval0
  have hW' := hW
  obtain ⟨p, q, hA0, hV, rfl, hfz, hnd⟩ := hW
  have hA : DataW.TrodAll enc Try.prog W 0 (fun _ => true) true Try.f3.params.toList args.toList ds p := hA0
  rw [Try.params3] at hA hval
  obtain ⟨v0, vs0, d0, ds0, p0, q0, hargs, rfl, rfl, h0, r0⟩ := trodAll_cons hA
  obtain ⟨rfl, rfl, rfl⟩ := trodAll_nil r0
  obtain rfl : args = #[v0] := by cases args; simp_all
  obtain ⟨rfl, rfl⟩ := trodVars_none hV
  have k0 := h0
  have lt0 : ∀ x ∈ p0, x.block < W.heap.size := by obtain ⟨m, hm⟩ := k0; exact DataW.trod_lt m _ _ _ hm
  obtain ⟨a0, len0, cap0, rfl⟩ := okWide_slice Try.underlying22 (hval 0 22 v0 rfl rfl); obtain ⟨hl0, hc0⟩ := open_code h0
  clear hA0 hval0
  refine (walk a0 len0 cap0 W hl0 hc0).mono fun e W' ⟨he, bel⟩ => ?_
  subst he
  exact ⟨_, rfl, _, _, _, [], _, [], hW', trodAll_mk1 (shut_bool Try.underlying4 _), (trodAll_cons_mk (Below.trod laidOut (by kernel_rfl) (of_decide_eq_true (by kernel_rfl)) k0 bel lt0) trodAll_mk0), rfl, bel.frame _, fun h => by cases h⟩

theorem over : Rows.fnWindowsRow.holds Try.pinned (OpenSpec.ofChange Rows.fnWindowsSpec) :=
  OpenClaim.holds_of_wide 3 Try.f3 rfl rfl rfl rfl rfl rfl rfl ⟨rfl, rfl, rfl, rfl, rfl⟩ rfl rfl rfl rfl rfl (by kernel_rfl) Try.func3 (by kernel_rfl)
    (of_decide_eq_true (by kernel_rfl)) (by unfold Func.isWrapper; first | (rw [if_pos (by decide +kernel)]; kernel_rfl) | (rw [if_neg (by decide +kernel)]; exact ⟨rfl, rfl⟩))
    (fun os started H enc _ => lifted os started H enc)

end lawWindows

theorem lawWindows_proved : Rows.FnWindowsSaid := lawWindows.over
#print axioms lawWindows_proved
end Go.Proofs.Ytalngkcmhoebmaa
