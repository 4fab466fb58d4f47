/- The law FnExactReaches returns true at every argument and leaves it as it was: impl.Reaches answers as its model, writes into no argument, and its answer owns its memory. No condition. -/
import Derived.Test.YtbikmedbmnfdbaaTenSpec3
import Derived.Test.YtbikmedbmnfdbaaTenImpl
import Derived.WalkKit
import Derived.ProofKit
import Derived.OpenShut
import Derived.ShutString
import Derived.ChangeOld
import Derived.Below
import Derived.Lib.SmallJoins

namespace Go.Proofs.Ytbikmedbmnfdbaa
open Go.RowKit
set_option maxRecDepth 100000
set_option linter.unusedVariables false
set_option linter.unusedSimpArgs false
theorem cnt_ten (L : List TenantD) : (cntTenantS L : Int) ≤ 3 * L.length + sumLs szTenant L := by
  unfold cntTenantS
  induction L with
  | nil => simp [cntLs, sumLs]
  | cons d L ih =>
    simp only [cntLs, sumLs, List.length_cons]
    have h1 : cntTenant d = 1 + 1 + cntStringS d.list + 1 := rfl
    have h2 := cntStringS_len d.list
    have h3 := szStringS_len d.list
    have h4 : szTenant d = (d.nm.size : Int) + (d.key.size : Int) + szStringS d.list := rfl
    omega
theorem reach_len (L : List TenantD) (target : ByteArray) : (reachV L target).length ≤ L.length := by
  unfold reachV
  split
  · rw [List.length_map]; exact List.length_filter_le _ _
  · simp
namespace exactReaches
open Go.ChangeShapes Go.WideShapes Go.ChangeAt Go.RowKit Go.Joins
open Go.ChangeMaps (open_string shut_string)

set_option maxHeartbeats 4000000 in
theorem walk (L : List TenantD) (v : Value) (target : ByteArray) (w : World) (hr : RdR tenantS w v L) (htg : target.size ≤ maxLen) : Calls Try.prog 5 #[v, .string target] w fun x w' => x = .returned (.bool true) ∧ Below w.heap.size w w' := by
  obtain ⟨ad, cap, rfl, h1, h2⟩ := hr.form
  have HR := hide hr
  have HTG := hide htg
  have btg : target.size ≤ 9223372036854775807 := by unfold maxLen at htg; omega
  clear hr htg
  by_cases hbig : (1048576 : Int) < target.size
  · go_enter Try.func5, Try.ntmps5
    go_wp2_with fail
    go_ret
    exact ⟨rfl, Below.refl _ _⟩
  go_enter Try.func5, Try.ntmps5
  go_wp2_with fail
  refine (szTenantS1 L _ 1048576 _ HR.out (by omega) (by omega)).mono ?_
  rintro x w1 ⟨rfl | ⟨rfl, hp⟩, hb1⟩
  · go_wp2_with fail
    go_ret
    exact ⟨rfl, hb1⟩
  have hz : szTenantS L ≤ 1048576 := by omega
  have hlL : L.length ≤ 1048576 := by have := szTenantS_len L; omega
  have hcn : 1 + cntTenantS L ≤ 1000000000 := by have := cnt_ten L; have h4 : szTenantS L = L.length + sumLs szTenant L := rfl; omega
  have hp' : ¬ (1048576 - szTenantS L < 0) := by omega
  have HB := hide hb1
  have zw := hb1.size
  clear hb1
  generalize hX : 1048576 - szTenantS L = X at *
  clear hX
  have hrl := reach_len L target
  have sF := fun v w h => specReaches L target v w h HTG.out
  have iF := fun v w h => implReaches L target v w h HTG.out
  generalize reachV L target = A at *
  have hcA : 1 + cntStringS A ≤ 1000000000 := by rw [cntStringS_len]; omega
  have hMk := fun v bs w h hn => markStringS A 1 v bs w h hn hcA
  have hHl := fun v w h => heldStringS A 1 v w h hcA
  have hMt := fun v bs w h hn => markTenantS L 1 v bs w h hn hcn
  obtain ⟨KA, hKA⟩ : ∃ KA : Nat, 1 + cntStringS A = KA := ⟨_, rfl⟩
  obtain ⟨KT, hKT⟩ : ∃ KT : Nat, 1 + cntTenantS L = KT := ⟨_, rfl⟩
  rw [hKA] at hMk hHl
  rw [hKT] at hMt
  clear hcA hcn hKA hKT
  go_wp2_with fail
  refine (toTenantS L _ _ (HR.out.new HB.out) hz).mono ?_
  rintro x w2 ⟨v2, rfl, ho, hb⟩; obtain ⟨a2, p2, rfl, _⟩ := ho.form; have HO2 := hide ho; have z2 := hb.size; replace HB := hide (bchain HB.out hb)
  clear ho hb
  go_wp2_with fail
  refine (sF _ _ HO2.out.rd).mono ?_
  rintro x w3 ⟨v3, rfl, ho, hb⟩; obtain ⟨a3, p3, rfl, _⟩ := ho.form; have HO3 := hide ho; have z3 := hb.size; replace HB := hide (bchain HB.out hb)
  clear ho hb HO2
  go_wp2_with fail
  refine (toTenantS L _ _ (HR.out.new HB.out) hz).mono ?_
  rintro x w4 ⟨v4, rfl, ho, hb⟩; obtain ⟨a4, p4, rfl, _⟩ := ho.form; have HO4 := hide ho; have z4 := hb.size; replace HB := hide (bchain HB.out hb)
  replace HO3 := hide (HO3.out.new hb)
  clear ho hb
  go_wp2_with fail
  refine (iF _ _ HO4.out.rd).mono ?_
  rintro x w5 ⟨v5, rfl, ho, hb⟩; obtain ⟨a5, p5, rfl, _⟩ := ho.form; have HO5 := hide ho; have z5 := hb.size; replace HB := hide (bchain HB.out hb)
  replace HO3 := hide (HO3.out.new hb)
  replace HO4 := hide (HO4.out.new hb)
  clear ho hb
  go_wp2_with fail
  refine (eqStringS A _ _ _ HO5.out.rd HO3.out.rd).mono ?_
  rintro x w6 ⟨rfl, hb⟩
  have z6 := hb.size
  replace HB := hide (bchain HB.out hb)
  replace HO3 := hide (HO3.out.new hb)
  replace HO4 := hide (HO4.out.new hb)
  replace HO5 := hide (HO5.out.new hb)
  clear hb
  go_wp2_with fail
  refine (toTenantS L _ _ (HR.out.new HB.out) hz).mono ?_
  rintro x w7 ⟨v7, rfl, ho, hb⟩; obtain ⟨a7, p7, rfl, _⟩ := ho.form; have HO7 := hide ho; have z7 := hb.size; replace HB := hide (bchain HB.out hb)
  replace HO3 := hide (HO3.out.new hb)
  replace HO4 := hide (HO4.out.new hb)
  replace HO5 := hide (HO5.out.new hb)
  clear ho hb
  go_wp2_with fail
  refine (eqTenantS L _ _ _ HO4.out.rd HO7.out.rd).mono ?_
  rintro x w8 ⟨rfl, hb⟩
  have z8 := hb.size
  replace HB := hide (bchain HB.out hb)
  replace HO3 := hide (HO3.out.new hb)
  replace HO4 := hide (HO4.out.new hb)
  replace HO5 := hide (HO5.out.new hb)
  clear hb HO7
  go_wp2_with fail
  obtain ⟨bs, hob, hnb, hbb⟩ := HO4.out
  refine (hMt _ bs _ hob hnb).mono ?_
  rintro x w9 ⟨rfl, hm, htb⟩
  have ht9 := htb.turn hbb
  have z9 := ht9.size
  have hb9 := ht9.below (B := w.heap.size) (by omega) (by omega)
  replace HO3 := hide (HO3.out.turn ht9 (by omega))
  replace HO5 := hide (HO5.out.turn ht9 (by omega))
  replace HB := hide (HB.out.trans hb9)
  clear hm htb ht9 hb9 hob hnb hbb HO4
  have hkp : ¬ ((KT : Int) < 0) := by omega
  go_wp2_with fail
  refine (eqStringS A _ _ _ HO5.out.rd HO3.out.rd).mono ?_
  rintro x w10 ⟨rfl, hb⟩
  have z10 := hb.size
  replace HB := hide (bchain HB.out hb)
  replace HO3 := hide (HO3.out.new hb)
  replace HO5 := hide (HO5.out.new hb)
  clear hb
  go_wp2_with fail
  obtain ⟨bs, hob, hnb, hbb⟩ := HO5.out
  refine (hMk _ bs _ hob hnb).mono ?_
  rintro x w11 ⟨rfl, hm, htb⟩
  have ht11 := htb.turn hbb
  have z11 := ht11.size
  have hb11 := ht11.below (B := w.heap.size) (by omega) (by omega)
  replace HO3 := hide (HO3.out.turn ht11 (by omega))
  have HRM := hide hm.rd
  replace HB := hide (HB.out.trans hb11)
  clear hm htb ht11 hb11 hob hnb hbb HO5
  go_wp2_with fail
  refine (hHl _ _ HRM.out).mono ?_
  rintro x w12 ⟨rfl, hb⟩
  have z12 := hb.size
  replace HB := hide (bchain HB.out hb)
  replace HO3 := hide (HO3.out.new hb)
  replace HRM := hide (HRM.out.new hb)
  clear hb
  have hkq : ¬ ((KA : Int) < 0) := by omega
  go_wp2_with fail
  refine (toTenantS L _ _ (HR.out.new HB.out) hz).mono ?_
  rintro x w13 ⟨v13, rfl, ho, hb⟩; obtain ⟨a13, p13, rfl, _⟩ := ho.form; have HO13 := hide ho; have z13 := hb.size; replace HB := hide (bchain HB.out hb)
  replace HO3 := hide (HO3.out.new hb)
  replace HRM := hide (HRM.out.new hb)
  clear ho hb
  go_wp2_with fail
  refine (iF _ _ HO13.out.rd).mono ?_
  rintro x w14 ⟨v14, rfl, ho, hb⟩; obtain ⟨a14, p14, rfl, _⟩ := ho.form; have HO14 := hide ho; have z14 := hb.size; replace HB := hide (bchain HB.out hb)
  replace HO3 := hide (HO3.out.new hb)
  replace HRM := hide (HRM.out.new hb)
  clear ho hb HO13
  go_wp2_with fail
  refine (eqStringS A _ _ _ HO14.out.rd HO3.out.rd).mono ?_
  rintro x w15 ⟨rfl, hb⟩
  replace HB := hide (bchain HB.out hb)
  replace HRM := hide (HRM.out.new hb)
  clear hb HO14 HO3
  go_wp2_with fail
  refine (hHl _ _ HRM.out).mono ?_
  rintro x w16 ⟨rfl, hb⟩
  replace HB := hide (bchain HB.out hb)
  clear hb
  go_wp2_with fail
  go_ret
  exact ⟨rfl, HB.out⟩

theorem own : ownKnob Try.prog.godebug = none := by kernel_rfl
theorem laidOut : laidOutB Try.prog = true := by kernel_rfl

set_option maxRecDepth 100000 in
theorem lifted (os : Os) (started : os.Started) (H : Type) (enc : TypeId × Value → H) :
    ReturnsInHanded {} Try.checked os 5 .any (Rows.fnExactReachesSpec.pre6 enc Try.prog Try.f5 Rows.fnExactReachesRow.domain false) (Rows.fnExactReachesSpec.post enc Try.prog Try.f5 false true false false) := by
  refine returnsInHanded_of_change (C := Try.checked) own started (by kernel_rfl) Try.func5
    (ChangeSpec.witness6 (enc := enc) (C := Try.checked) false ⟨#[], #[.slice none 0 0, .string ⟨#[]⟩], []⟩ 8 (by kernel_rfl) (by kernel_rfl) (by kernel_rfl) (by kernel_rfl)) ?_
  intro W base args ds gs before hval0 hW hcnd _
  have hval : ∀ (j : Nat) t v, Try.f5.params[j]? = some t → args[j]? = some v → Value.okWide Try.prog W .any base t v := hval0
  have hW' := hW
  obtain ⟨p, q, hA0, hV, rfl, hfz, hnd⟩ := hW
  have hA : DataW.TrodAll enc Try.prog W 0 (fun _ => true) true Try.f5.params.toList args.toList ds p := hA0
  rw [Try.params5] at hA hval
  obtain ⟨v0, vs0, d0, ds0, p0, q0, hargs, rfl, rfl, h0, r0⟩ := trodAll_cons hA
  obtain ⟨v1, vs1, d1, ds1, p1, q1, rfl, rfl, rfl, h1, r1⟩ := trodAll_cons r0
  obtain ⟨rfl, rfl, rfl⟩ := trodAll_nil r1
  obtain rfl : args = #[v0, v1] := by cases args; simp_all
  obtain ⟨rfl, rfl⟩ := trodVars_none hV
  have k0 := h0
  have lt0 : ∀ x ∈ p0, x.block < W.heap.size := by obtain ⟨m, hm⟩ := k0; exact DataW.trod_lt m _ _ _ hm
  have k1 := h1
  have lt1 : ∀ x ∈ p1, x.block < W.heap.size := by obtain ⟨m, hm⟩ := k1; exact DataW.trod_lt m _ _ _ hm
  obtain ⟨sa0, sl0, sc0, rfl⟩ := okWide_slice Try.underlying22 (hval 0 22 v0 rfl rfl); obtain ⟨n0, hn0⟩ := h0; obtain ⟨L, hpL⟩ := open_shape (E := tenantS) ⟨⟨#[]⟩, ⟨#[]⟩, [], 0⟩ Try.underlying22 (by kernel_rfl) (fun cs n y hy => open_cellsTenant hy) (v := .slice sa0 sl0 sc0) (by simpa [Value.cells] using hn0); clear hn0
  obtain ⟨t, rfl, rfl, rfl, wt⟩ := open_string Try.underlying9 (hval 1 9 v1 rfl rfl) h1
  clear hA0 hval0
  refine (walk L _ t W hpL wt).mono fun e W' ⟨he, bel⟩ => ?_
  subst he
  exact ⟨_, rfl, _, _, _, [], _, [], hW', trodAll_mk1 (shut_bool Try.underlying4 _), (trodAll_cons_mk (Below.trod laidOut (by kernel_rfl) (of_decide_eq_true (by kernel_rfl)) k0 bel lt0) (trodAll_cons_mk (Below.trod laidOut (by kernel_rfl) (of_decide_eq_true (by kernel_rfl)) k1 bel lt1) trodAll_mk0)), rfl, bel.frame _, fun h => by cases h⟩

theorem over : Rows.fnExactReachesRow.holds Try.pinned (OpenSpec.ofChange Rows.fnExactReachesSpec) :=
  OpenClaim.holds_of_wide 5 Try.f5 rfl rfl rfl rfl rfl rfl rfl ⟨rfl, rfl, rfl, rfl, rfl⟩ rfl rfl rfl rfl rfl (by kernel_rfl) Try.func5 (by kernel_rfl)
    (of_decide_eq_true (by kernel_rfl)) (by unfold Func.isWrapper; first | (rw [if_pos (by decide +kernel)]; kernel_rfl) | (rw [if_neg (by decide +kernel)]; exact ⟨rfl, rfl⟩))
    (fun os started H enc _ => lifted os started H enc)

end exactReaches

theorem exactReaches_proved : Rows.FnExactReachesSaid := exactReaches.over
#print axioms exactReaches_proved
end Go.Proofs.Ytbikmedbmnfdbaa
