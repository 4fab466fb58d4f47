/- The law FnMore returns true at every argument and leaves it as it was. No condition. -/
import Derived.Test.YtllignhfkkeinaaShareSpec
import Derived.Test.YtllignhfkkeinaaShareImpl
import Derived.Test.YtllignhfkkeinaaShareDraw
import Derived.Test.YtllignhfkkeinaaShareLaw
import Derived.Test.YtllignhfkkeinaaLikeInts
import Derived.Test.YtllignhfkkeinaaOwnsGrown
import Derived.Test.YtllignhfkkeinaaPickOne
import Derived.Deep.DeepCutAuto
import Derived.Deep.RegionHeld3
import Derived.WalkKit
import Derived.ProofKit
import Derived.OpenShut
import Derived.ShutString
import Derived.ChangeOld
import Derived.Below
import Derived.Lib.SmallJoins

namespace Go.Proofs.Ytllignhfkkeinaa
open Go.RowKit
set_option maxRecDepth 100000
set_option linter.unusedSimpArgs false
set_option linter.unusedVariables false
namespace lawMore
set_option maxHeartbeats 8000000 in
set_option maxRecDepth 100000 in
theorem walk (a : Option Addr) (len cap : Nat) (w : World) (hl : len ≤ maxLen) (hcode : CodeAt w a len w.heap.size) :
    Calls Try.prog 3 #[.slice a len cap] w fun x w' => x = .returned (.bool true) ∧ Below w.heap.size w w' := by
  unfold maxLen at hl
  by_cases hbig : (4096 : Int) < len
  · go_enter Try.func3, Try.ntmps3
    go_wp2_with fail
    refine (big1 a len cap _).mono ?_; rw [decide_eq_true hbig]; rintro x w1 ⟨rfl, rfl⟩
    go_wp2_with fail
    go_ret
    exact ⟨rfl, Below.refl _ _⟩
  have hl' : len ≤ 4096 := by omega
  have HCODE := hide hcode
  clear hcode
  go_enter Try.func3, Try.ntmps3
  go_wp2_with fail
  refine (big1 a len cap _).mono ?_; rw [decide_eq_false (by omega)]; rintro x w0 ⟨rfl, rfl⟩
  have HBW := hide (Below.refl w0.heap.size w0)
  go_wp2_with fail
  refine (drawLevel a len cap _ hl' (HCODE.out.behind HBW.out)).mono ?_; rintro x w1 ⟨vD, L, room, rfl, ho, hL12, hLs, r0, r1, hb⟩
  replace HBW := hide (bchain HBW.out hb)
  clear hb
  have RL := hide (reads_of_owns ho)
  obtain ⟨aRL, pRL, eRL, cRL, dRL⟩ := rd_form RL.out
  subst eRL
  clear ho hLs
  go_wp2_with fail
  refine (implLevel L _ room _ RL.out).mono ?_; rintro x w2 ⟨s, rfl, hsh, hb⟩
  have HSH := hide hsh
  clear hsh
  replace RL := hide (RL.out.new hb)
  replace HBW := hide (bchain HBW.out hb)
  clear hb
  obtain ⟨mx, hmx⟩ : ∃ m, maxL s (-1) = m := ⟨_, rfl⟩
  rw [hmx]
  have HMX := hide hmx
  clear hmx
  go_wp2_with fail
  refine (implShares L _ room _ RL.out).mono ?_; rintro x w3 ⟨vRS, s2, rfl, hsh, ho, hb⟩
  replace RL := hide (RL.out.new hb)
  replace HBW := hide (bchain HBW.out hb)
  clear hb
  obtain rfl := HSH.out.one hsh
  clear hsh
  have RS := hide (reads_of_owns ho)
  obtain ⟨aRS, pRS, eRS, cRS, dRS⟩ := rd_form RS.out
  subst eRS
  clear ho
  go_wp2_with fail
  refine (specLevel L _ room _ RL.out).mono ?_; rintro x w4 ⟨s9, rfl, hsh, hb⟩
  obtain rfl := HSH.out.one hsh
  clear hsh
  rw [HMX.out]
  replace RL := hide (RL.out.new hb)
  replace RS := hide (RS.out.new hb)
  replace HBW := hide (bchain HBW.out hb)
  clear hb
  go_wp2_with fail
  refine (specShares L _ room _ RL.out).mono ?_; rintro x w5 ⟨vRT, s2, rfl, hsh, ho, hb⟩
  replace RL := hide (RL.out.new hb)
  replace RS := hide (RS.out.new hb)
  replace HBW := hide (bchain HBW.out hb)
  clear hb
  obtain rfl := HSH.out.one hsh
  clear hsh
  have RT := hide (reads_of_owns ho)
  obtain ⟨aRT, pRT, eRT, cRT, dRT⟩ := rd_form RT.out
  subst eRT
  clear ho
  go_wp2_with fail
  refine (likeInts1 s _ _ _ RS.out RT.out).mono ?_; rintro x w6 ⟨rfl, hb⟩
  replace RL := hide (RL.out.new hb)
  replace RS := hide (RS.out.new hb)
  replace RT := hide (RT.out.new hb)
  replace HBW := hide (bchain HBW.out hb)
  clear hb
  clear RT
  cases hok : shOk L room
  · skip
    obtain rfl := sh_no HSH.out hok
    obtain rfl : mx = -1 := HMX.out.symm
    go_wp2_with fail
    go_ret
    exact ⟨rfl, HBW.out⟩
  · skip
    have HIS := hide (sh_yes HSH.out hok)
    obtain ⟨hwL, q0, q1⟩ := shOk_true hok
    obtain ⟨n0, n1⟩ := wantsB_len hwL
    have hsl := HIS.out.len
    have hsl1 : s.length ≤ L.length := by omega
    have hsl2 : L.length ≤ s.length := by omega
    have hmx0 : ¬ mx < 0 := by
      rw [← HMX.out]
      have := maxL_pos (l := s) (by omega) (fun j hj => (HIS.out.pos (fun j hj => (wantsB_get hwL j hj).1) j hj (by omega)).1)
      omega
    have HWG := hide (wantsB_get hwL)
    clear hsl hwL hok
    go_wp2_with fail
    refine (implShares L _ (room + 1) _ RL.out).mono ?_; rintro x w7 ⟨vRM, m, rfl, hsh, ho, hb⟩
    replace RL := hide (RL.out.new hb)
    replace RS := hide (RS.out.new hb)
    replace HBW := hide (bchain HBW.out hb)
    clear hb
    have HSHRM := hide hsh
    clear hsh
    have RM := hide (reads_of_owns ho)
    obtain ⟨aRM, pRM, eRM, cRM, dRM⟩ := rd_form RM.out
    subst eRM
    clear ho
    have HMO := hide (law_more HIS.out HSHRM.out)
    obtain ⟨_, hm10⟩ := shr_short HSHRM.out
    go_wp2_with fail
    go_loopw [8] (fun i wr => ∃ k : Nat, i = .int .i64 k ∧ k ≤ m.length ∧ Hid (Below w7.heap.size w7 wr)) (fun i _ => m.length - (intOf i).toNat)
    case atStart => exact ⟨0, rfl, Nat.zero_le _, hide (Below.refl _ _)⟩
    case round =>
      obtain ⟨k, rfl, hk, HB2⟩ := hrel
      by_cases hkm : k < m.length
      · obtain ⟨hks, hle⟩ := HMO.out k hkm
        have hkI : (k : Int) < m.length := by omega
        have hkI' : (k : Int) < s.length := by omega
        obtain ⟨b1, o1, rfl, hb1, ck1⟩ := rd_at (RM.out.new HB2.out) hkm
        obtain ⟨b2, o2, rfl, hb2, ck2⟩ := rd_at (RS.out.new HB2.out) hks
        obtain ⟨c, hc⟩ : ∃ c, s[k] = c := ⟨_, rfl⟩
        obtain ⟨d, hd⟩ : ∃ d, m[k] = d := ⟨_, rfl⟩
        rw [hc] at ck2 hle
        rw [hd] at ck1 hle
        clear hc hd
        have f3 : decide (d < c) = false := decide_eq_false (by omega)
        go_wp2_with fail
        go_quiet (fail)
        go_wp2_with fail
        go_roundw
        case rel => first | exact ⟨k + 1, by omega, by omega, hide (bo_drewN _ HB2.out)⟩ | exact ⟨k + 1, by go_num, by omega, hide (bo_drewN _ HB2.out)⟩
        case measure => simp [intOf]; omega
      have hkI : ¬ (k : Int) < m.length := by omega
      clear hkm
      have hb := HB2.out
      replace RL := hide (RL.out.new hb)
      replace RS := hide (RS.out.new hb)
      replace RM := hide (RM.out.new hb)
      replace HBW := hide (bchain HBW.out hb)
      clear hb
      clear RM
      clear HB2 HMO HSHRM
      go_wp2_with fail
      refine (pick1 a len cap 1 L.length _ _ hl' (HCODE.out.behind HBW.out) (by omega) (by omega) (by omega) (by omega)).mono ?_; rintro x wq ⟨z, z0, z1, rfl, hsame⟩; obtain rfl := hsame.symm; clear hsame
      obtain ⟨k9, rfl⟩ : ∃ k9 : Nat, z = k9 := ⟨z.toNat, by omega⟩
      have hk9 : k9 < L.length := by omega
      have hX : Below wr.heap.size wr (wr.alloc (.cells #[] 2)) := (Below.refl _ _).alloc (Nat.le_refl _) _
      have hownX := owns_lit wr 2 1 0 #[] rfl (by omega)
      have HRSB := hide (rd_lt RS.out (by omega))
      have hw0r := HBW.out.size
      have hRdL := RL.out.new hX
      have hzX := hX.size
      go_wp2_with (at_builtin; refine wpList_app _ (by rfl) _ _ 24 (by rfl) 2 (.int .i64 0) 1 8 Try.underlying24 (by kernel_rfl) rfl (by decide) wr.heap.size _ 0 (iv []) (by rfl) hownX _ L.length (iv L) (by rfl) hRdL (iv_one _) (by omega) (by decide) (by omega) ?_)
      intro ad9 cap9 w9 hown9 hg9 hat9
      have HOV : Hid (w9.ownsRow wr.heap.size 2 1 (.slice ad9 L.length cap9) L.length (iv L)) := by
        show World.ownsRow _ _ _ _ _ _ _
        have h := hown9
        simpa [iv] using h
      have hb : Below wr.heap.size wr w9 := hX.grown hg9 hzX (fun q hq => by have := (hownX.lt q hq).1; omega)
      clear hown9 hg9 hat9 hownX hRdL hX
      have hz9 := hb.size
      try rw [Nat.zero_add]
      replace RL := hide (RL.out.new hb)
      replace RS := hide (RS.out.new hb)
      replace HBW := hide (bchain HBW.out hb)
      clear hb
      obtain ⟨gb, cap', e1, e2, e3, e4, _, _, e5, e6⟩ := owns_open HOV.out (by omega)
      simp only [Value.slice.injEq, Option.some.injEq] at e1
      obtain ⟨rfl, _, rfl⟩ := e1
      have hf := e6 k9
      have hu0 := e5 k9 _ (iv_get L k9 hk9)
      have hset := owns_set HOV.out rfl k9 (.int .i64 (L[k9] + 1))
      rw [← iv_set] at hset
      have hsl : (L.set k9 (L[k9] + 1)).length = L.length := by simp
      rw [← hsl] at hset
      have HSET : Hid ((w9.setCell ⟨gb, k9, none⟩ (.int .i64 (L[k9] + 1))).ownsRow wr.heap.size 2 1 (.slice (some ⟨gb, 0, none⟩) (L.set k9 (L[k9] + 1)).length cap9) (L.set k9 (L[k9] + 1)).length (iv (L.set k9 (L[k9] + 1)))) := by show World.ownsRow _ _ _ _ _ _ _; simpa [hsl] using hset
      have HGR : Hid (∀ x, ShR (L.set k9 (L[k9] + 1)) room x → ∀ j (hj : j < x.length), ∃ hj' : j < s.length, (j = k9 → s[j] ≤ x[j]) ∧ (j ≠ k9 → x[j] ≤ s[j])) := fun x hx => law_grown hk9 HIS.out hx
      have hle9 := HWG.out k9 hk9
      have hwb : w0.heap.size ≤ gb := by omega
      have HB10 := hide (HBW.out.setCell (p := ⟨gb, k9, none⟩) hwb (.int .i64 (L[k9] + 1)))
      have HRS : Hid (Reads (w9.setCell ⟨gb, k9, none⟩ (.int .i64 (L[k9] + 1))) (.slice aRS s.length pRS) s.length 1 (iv s)) := by
        refine RS.out.kept (by simp) (fun q hq hlt => Below.heap_setCell w9 ⟨gb, k9, none⟩ _ q ?_)
        intro e
        exact absurd (HRSB.out q hq) (by change q = gb at e; omega)
      obtain ⟨V, hV⟩ : ∃ V, L.set k9 (L[k9] + 1) = V := ⟨_, rfl⟩
      obtain ⟨e, he⟩ : ∃ e, L[k9] = e := ⟨_, rfl⟩
      rw [he] at hu0 hle9
      rw [hV] at HSET HGR hsl
      rw [he] at HSET HB10 HRS
      obtain ⟨e0, e1'⟩ := hle9
      have hV1 : V.length ≤ L.length := by omega
      have hV2 : L.length ≤ V.length := by omega
      have HVL := hide hsl
      clear hset hsl hV he e5 e6 HOV RS RL HBW
      have hk9I : (k9 : Int) < L.length := by omega
      go_upto_region 19 with fail
      rw [← HVL.out]
      obtain ⟨W10, hW10⟩ : ∃ W, w9.setCell ⟨gb, k9, none⟩ (.int .i64 (e + 1)) = W := ⟨_, rfl⟩
      rw [hW10] at HSET HB10 HRS ⊢
      clear hW10 hu0 hf
      have RV := hide (reads_of_owns HSET.out)
      have RS := HRS
      have HBW := HB10
      clear HSET HRS HB10
      go_wp2_with fail
      refine (implShares V _ room _ RV.out).mono ?_; rintro x w8 ⟨vRX, x9, rfl, hsh, ho, hb⟩
      replace RV := hide (RV.out.new hb)
      replace RS := hide (RS.out.new hb)
      replace HBW := hide (bchain HBW.out hb)
      clear hb
      have HSHRX := hide hsh
      clear hsh
      have RX := hide (reads_of_owns ho)
      obtain ⟨aRX, pRX, eRX, cRX, dRX⟩ := rd_form RX.out
      subst eRX
      clear ho
      have HXG := hide (HGR.out x9 HSHRX.out)
      obtain ⟨_, hx10⟩ := shr_short HSHRX.out
      clear HGR HSHRX
      go_wp2_with fail
      go_loopw [12] (fun i wr => ∃ k : Nat, i = .int .i64 k ∧ k ≤ x9.length ∧ Hid (Below w8.heap.size w8 wr)) (fun i _ => x9.length - (intOf i).toNat)
      case atStart => exact ⟨0, rfl, Nat.zero_le _, hide (Below.refl _ _)⟩
      case round =>
        obtain ⟨k, rfl, hk, HB2⟩ := hrel
        by_cases hkm : k < x9.length
        · obtain ⟨hks, hle⟩ := HXG.out k hkm
          have hkI : (k : Int) < x9.length := by omega
          have hkI' : (k : Int) < s.length := by omega
          obtain ⟨b1, o1, rfl, hb1, ck1⟩ := rd_at (RX.out.new HB2.out) hkm
          obtain ⟨b2, o2, rfl, hb2, ck2⟩ := rd_at (RS.out.new HB2.out) hks
          obtain ⟨c, hc⟩ : ∃ c, s[k] = c := ⟨_, rfl⟩
          obtain ⟨d, hd⟩ : ∃ d, x9[k] = d := ⟨_, rfl⟩
          rw [hc] at ck2 hle
          rw [hd] at ck1 hle
          clear hc hd
          by_cases hkk : k = k9
          · have f3 : decide (d < c) = false := decide_eq_false (by have := hle.1 hkk; omega)
            have f4 : ((k : Int) == k9) = true := by simpa using (show (k : Int) = k9 by omega)
            have f5 : ((k : Int) != k9) = false := by simpa using (show (k : Int) = k9 by omega)
            clear hle hkk
            go_wp2_with fail
            go_quiet (fail)
            go_wp2_with fail
            go_roundw
            case rel => first | exact ⟨k + 1, by omega, by omega, hide (bo_drewN _ HB2.out)⟩ | exact ⟨k + 1, by go_num, by omega, hide (bo_drewN _ HB2.out)⟩
            case measure => simp [intOf]; omega
          · have f3 : decide (c < d) = false := decide_eq_false (by have := hle.2 hkk; omega)
            have f4 : ((k : Int) == k9) = false := by simpa using (show ¬ (k : Int) = k9 by omega)
            have f5 : ((k : Int) != k9) = true := by simpa using (show ¬ (k : Int) = k9 by omega)
            clear hle hkk
            go_wp2_with fail
            go_quiet (fail)
            go_wp2_with fail
            go_roundw
            case rel => first | exact ⟨k + 1, by omega, by omega, hide (bo_drewN _ HB2.out)⟩ | exact ⟨k + 1, by go_num, by omega, hide (bo_drewN _ HB2.out)⟩
            case measure => simp [intOf]; omega
        · have hkI : ¬ (k : Int) < x9.length := by omega
          go_wp2_with fail
          go_ret
          exact ⟨rfl, bchain HBW.out HB2.out⟩

open Go.ChangeShapes Go.WideShapes Go.ChangeAt Go.Joins
open Go.ChangeMaps (open_string shut_string)


theorem own : ownKnob Try.prog.godebug = none := by kernel_rfl
theorem laidOut : laidOutB Try.prog = true := by kernel_rfl

set_option maxRecDepth 100000 in
theorem lifted (os : Os) (started : os.Started) (H : Type) (enc : TypeId × Value → H) :
    ReturnsInHanded {} Try.checked os 3 .any (Rows.fnMoreSpec.pre6 enc Try.prog Try.f3 Rows.fnMoreRow.domain false) (Rows.fnMoreSpec.post enc Try.prog Try.f3 false true false false) := by
  refine returnsInHanded_of_change (C := Try.checked) own started (by kernel_rfl) Try.func3
    (ChangeSpec.witness6 (enc := enc) (C := Try.checked) false ⟨#[], #[.slice none 0 0], []⟩ 8 (by kernel_rfl) (by kernel_rfl) (by kernel_rfl) (by kernel_rfl)) ?_
  intro W base args ds gs before hval0 hW hcnd _
  have hval : ∀ (j : Nat) t v, Try.f3.params[j]? = some t → args[j]? = some v → Value.okWide Try.prog W .any base t v := hval0
  have hW' := hW
  obtain ⟨p, q, hA0, hV, rfl, hfz, hnd⟩ := hW
  have hA : DataW.TrodAll enc Try.prog W 0 (fun _ => true) true Try.f3.params.toList args.toList ds p := hA0
  rw [Try.params3] at hA hval
  obtain ⟨v0, vs0, d0, ds0, p0, q0, hargs, rfl, rfl, h0, r0⟩ := trodAll_cons hA
  obtain ⟨rfl, rfl, rfl⟩ := trodAll_nil r0
  obtain rfl : args = #[v0] := by cases args; simp_all
  obtain ⟨rfl, rfl⟩ := trodVars_none hV
  have k0 := h0
  have lt0 : ∀ x ∈ p0, x.block < W.heap.size := by obtain ⟨m, hm⟩ := k0; exact DataW.trod_lt m _ _ _ hm
  obtain ⟨a0, len0, cap0, rfl⟩ := okWide_slice Try.underlying22 (hval 0 22 v0 rfl rfl); obtain ⟨hl0, hc0⟩ := open_code h0
  clear hA0 hval0
  refine (walk a0 len0 cap0 W hl0 hc0).mono fun e W' ⟨he, bel⟩ => ?_
  subst he
  exact ⟨_, rfl, _, _, _, [], _, [], hW', trodAll_mk1 (shut_bool Try.underlying4 _), (trodAll_cons_mk (Below.trod laidOut (by kernel_rfl) (of_decide_eq_true (by kernel_rfl)) k0 bel lt0) trodAll_mk0), rfl, bel.frame _, fun h => by cases h⟩

theorem over : Rows.fnMoreRow.holds Try.pinned (OpenSpec.ofChange Rows.fnMoreSpec) :=
  OpenClaim.holds_of_wide 3 Try.f3 rfl rfl rfl rfl rfl rfl rfl ⟨rfl, rfl, rfl, rfl, rfl⟩ rfl rfl rfl rfl rfl (by kernel_rfl) Try.func3 (by kernel_rfl)
    (of_decide_eq_true (by kernel_rfl)) (by unfold Func.isWrapper; first | (rw [if_pos (by decide +kernel)]; kernel_rfl) | (rw [if_neg (by decide +kernel)]; exact ⟨rfl, rfl⟩))
    (fun os started H enc _ => lifted os started H enc)

end lawMore

theorem lawMore_proved : Rows.FnMoreSaid := lawMore.over
#print axioms lawMore_proved
end Go.Proofs.Ytllignhfkkeinaa
