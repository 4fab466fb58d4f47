/- The law FnPacked returns true at every argument and leaves it as it was. No condition. -/
import Derived.Test.YtiilmbbgngpleaaDrawLit
import Derived.Test.YtiilmbbgngpleaaLater
import Derived.WalkKit
import Derived.ProofKit
import Derived.OpenShut
import Derived.ShutString
import Derived.ChangeOld
import Derived.Below
import Derived.Lib.SmallJoins
import Derived.Deep.DeepCutAuto
import Derived.Handy
namespace Go.Proofs.Ytiilmbbgngpleaa
open Go.RowKit
set_option linter.unusedVariables false
set_option linter.unusedSimpArgs false

theorem strOf_bys (t : ByteArray) : strOf (bys t) = t := bys_inj (bys_strOf (bys_range t))
theorem un_pk {t : ByteArray} (h : (unV t).2 = true) : pkV (unV t).1 = (t, true) := by
  rw [unV_pack] at h ⊢
  cases hr : rawV t with
  | none => rw [hr] at h; cases h
  | some r =>
    rw [hr] at h
    simp only at h ⊢
    split at h
    · rename_i q
      rw [if_pos q]
      show pkV (strOf (r.1.map sch)) = _
      rw [pkV_sch (raw_range hr) q.1, q.2, strOf_bys]
    · cases h
theorem pk_no {s : ByteArray} (h : (pkV s).2 = false) : (pkV s).1 = ⟨#[]⟩ := by
  unfold pkV at h ⊢
  split at h
  · rename_i q
    rw [if_pos q]
    unfold l4V at h ⊢
    split at h
    · cases h
    · rename_i q; rw [if_neg q]
  · rename_i q; rw [if_neg q]
theorem pk_un {s : ByteArray} (h : (pkV s).2 = true) : unV (pkV s).1 = (s, true) ∧ (pkV s).1.size = (5 * s.size + 7) / 8 := by
  unfold pkV at h ⊢
  split at h
  · rename_i q
    rw [if_pos q]
    refine ⟨?_, l4V_size h⟩
    have hz := l4V_size h
    unfold l4V at h hz ⊢
    split at h
    · rename_i ho
      rw [if_pos ho] at hz ⊢
      simp only at hz ⊢
      obtain ⟨c, u, h1, h2⟩ := raw_packed (okS_range ho)
      unfold unV
      rw [if_pos (by omega), h1]
      simp only
      rw [if_pos h2, strOf_sgn ho]
    · cases h
  · cases h

namespace lawPacked
set_option maxHeartbeats 4000000 in
set_option maxRecDepth 100000 in
theorem walk (a : Option Addr) (len cap : Nat) (w : World) (hl : len ≤ maxLen) (hcode : CodeAt w a len w.heap.size) :
    Calls Try.prog 4 #[.slice a len cap] w fun x w' => x = .returned (.bool true) ∧ Below w.heap.size w w' := by
  unfold maxLen at hl
  by_cases hbig : (4096 : Int) < len
  · go_enter Try.func4, Try.ntmps4
    go_wp2_with fail
    refine (big1 a len cap _).mono ?_; rw [decide_eq_true hbig]; rintro x w1 ⟨rfl, rfl⟩
    go_wp2_with fail
    go_ret
    exact ⟨rfl, Below.refl _ _⟩
  have hl' : len ≤ 4096 := by omega
  go_enter Try.func4, Try.ntmps4
  go_wp2_with fail
  refine (big1 a len cap _).mono ?_; rw [decide_eq_false (by omega)]; rintro x w0 ⟨rfl, rfl⟩
  go_wp2_with fail
  refine (drawPacked a len cap _ hl' hcode).mono ?_; rintro x w1 ⟨s, hs, rfl, hb1⟩
  have hsm : s.size ≤ maxLen := by unfold maxLen; omega
  have E1 := pk_no (s := s)
  have E2 := pk_un (s := s)
  have hps := pkV_small s
  go_wp2_with fail
  refine (implPacked s _ hsm).mono ?_
  obtain ⟨R, hR⟩ : ∃ R, pkV s = R := ⟨_, rfl⟩
  rw [hR] at E1 E2 hps ⊢
  obtain ⟨p, is⟩ := R
  simp only at E1 E2 hps
  rintro x w2 ⟨rfl, hb2⟩
  replace hb2 := bchain hb1 hb2
  clear hb1
  go_wp2_with fail
  refine (drawUnpacked a len cap _ hl' (hcode.behind hb2)).mono ?_; rintro x w3 ⟨t, ht, rfl, hb3⟩
  replace hb3 := bchain hb2 hb3
  clear hb2
  have htm : t.size ≤ maxLen := by unfold maxLen; omega
  have E3 := un_pk (t := t)
  have hus := unV_size t
  go_wp2_with fail
  refine (implUnpacked t _ htm).mono ?_
  obtain ⟨U, hU⟩ : ∃ U, unV t = U := ⟨_, rfl⟩
  rw [hU] at E3 hus ⊢
  obtain ⟨u, fine⟩ := U
  simp only at E3 hus
  rintro x w4 ⟨rfl, hb4⟩
  replace hb4 := bchain hb3 hb4
  clear hb3
  go_wp2_with fail
  refine (specPacked s _ hsm).mono ?_; rw [hR]; rintro x w5 ⟨rfl, hb5⟩
  replace hb5 := bchain hb4 hb5
  clear hb4
  replace E1 := hide E1
  replace E2 := hide E2
  replace E3 := hide E3
  go_wp2_with fail
  refine (specUnpacked t _ htm).mono ?_; rw [hU]; rintro x w6 ⟨rfl, hb6⟩
  replace hb6 := bchain hb5 hb6
  clear hb5 hU hR
  have hum : u.size ≤ maxLen := by unfold maxLen; omega
  have hpm : p.size ≤ maxLen := by unfold maxLen; omega
  cases fine
  · cases is
    · have e := E1.out rfl
      subst e
      go_wp2_with fail
      go_ret
      exact ⟨rfl, hb6⟩
    · obtain ⟨e1, e2⟩ := E2.out rfl
      go_wp2_with fail
      refine (implUnpacked p _ hpm).mono ?_; rw [e1]; rintro x w7 ⟨rfl, hb7⟩
      replace hb7 := bchain hb6 hb7
      have e3 : (p.size : Int) = (5 * (s.size : Int) + 7) / 8 := by omega
      have EQ := hide (show ((p.size : Int) == (5 * (s.size : Int) + 7) / 8) = true by rw [e3]; simp)
      clear e1 e2 e3
      go_wp2_with fail
      go_ret
      exact ⟨congrArg (fun z => Ending.returned (.bool z)) EQ.out, hb7⟩
  · have e0 := E3.out rfl
    go_wp2_with fail
    refine (implPacked u _ hum).mono ?_; rw [e0]; rintro x w7 ⟨rfl, hb7⟩
    replace hb7 := bchain hb6 hb7
    cases is
    · have e := E1.out rfl
      subst e
      go_wp2_with fail
      go_ret
      exact ⟨rfl, hb7⟩
    · obtain ⟨e1, e2⟩ := E2.out rfl
      go_wp2_with fail
      refine (implUnpacked p _ hpm).mono ?_; rw [e1]; rintro x w8 ⟨rfl, hb8⟩
      replace hb8 := bchain hb7 hb8
      have e3 : (p.size : Int) = (5 * (s.size : Int) + 7) / 8 := by omega
      have EQ := hide (show ((p.size : Int) == (5 * (s.size : Int) + 7) / 8) = true by rw [e3]; simp)
      clear e1 e2 e3
      go_wp2_with fail
      go_ret
      exact ⟨congrArg (fun z => Ending.returned (.bool z)) EQ.out, hb8⟩

open Go.ChangeShapes Go.WideShapes Go.ChangeAt Go.Joins
open Go.ChangeMaps (open_string shut_string)


theorem own : ownKnob Try.prog.godebug = none := by kernel_rfl
theorem laidOut : laidOutB Try.prog = true := by kernel_rfl

set_option maxRecDepth 100000 in
theorem lifted (os : Os) (started : os.Started) (H : Type) (enc : TypeId × Value → H) :
    ReturnsInHanded {} Try.checked os 4 .any (Rows.fnPackedSpec.pre6 enc Try.prog Try.f4 Rows.fnPackedRow.domain false) (Rows.fnPackedSpec.post enc Try.prog Try.f4 false true false false) := by
  refine returnsInHanded_of_change (C := Try.checked) own started (by kernel_rfl) Try.func4
    (ChangeSpec.witness6 (enc := enc) (C := Try.checked) false ⟨#[], #[.slice none 0 0], []⟩ 8 (by kernel_rfl) (by kernel_rfl) (by kernel_rfl) (by kernel_rfl)) ?_
  intro W base args ds gs before hval0 hW hcnd _
  have hval : ∀ (j : Nat) t v, Try.f4.params[j]? = some t → args[j]? = some v → Value.okWide Try.prog W .any base t v := hval0
  have hW' := hW
  obtain ⟨p, q, hA0, hV, rfl, hfz, hnd⟩ := hW
  have hA : DataW.TrodAll enc Try.prog W 0 (fun _ => true) true Try.f4.params.toList args.toList ds p := hA0
  rw [Try.params4] at hA hval
  obtain ⟨v0, vs0, d0, ds0, p0, q0, hargs, rfl, rfl, h0, r0⟩ := trodAll_cons hA
  obtain ⟨rfl, rfl, rfl⟩ := trodAll_nil r0
  obtain rfl : args = #[v0] := by cases args; simp_all
  obtain ⟨rfl, rfl⟩ := trodVars_none hV
  have k0 := h0
  have lt0 : ∀ x ∈ p0, x.block < W.heap.size := by obtain ⟨m, hm⟩ := k0; exact DataW.trod_lt m _ _ _ hm
  obtain ⟨a0, len0, cap0, rfl⟩ := okWide_slice Try.underlying22 (hval 0 22 v0 rfl rfl); obtain ⟨hl0, hc0⟩ := open_code h0
  clear hA0 hval0
  refine (walk a0 len0 cap0 W hl0 hc0).mono fun e W' ⟨he, bel⟩ => ?_
  subst he
  exact ⟨_, rfl, _, _, _, [], _, [], hW', trodAll_mk1 (shut_bool Try.underlying4 _), (trodAll_cons_mk (Below.trod laidOut (by kernel_rfl) (of_decide_eq_true (by kernel_rfl)) k0 bel lt0) trodAll_mk0), rfl, bel.frame _, fun h => by cases h⟩

theorem over : Rows.fnPackedRow.holds Try.pinned (OpenSpec.ofChange Rows.fnPackedSpec) :=
  OpenClaim.holds_of_wide 4 Try.f4 rfl rfl rfl rfl rfl rfl rfl ⟨rfl, rfl, rfl, rfl, rfl⟩ rfl rfl rfl rfl rfl (by kernel_rfl) Try.func4 (by kernel_rfl)
    (of_decide_eq_true (by kernel_rfl)) (by unfold Func.isWrapper; first | (rw [if_pos (by decide +kernel)]; kernel_rfl) | (rw [if_neg (by decide +kernel)]; exact ⟨rfl, rfl⟩))
    (fun os started H enc _ => lifted os started H enc)

end lawPacked

theorem lawPacked_proved : Rows.FnPackedSaid := lawPacked.over
#print axioms lawPacked_proved
end Go.Proofs.Ytiilmbbgngpleaa
