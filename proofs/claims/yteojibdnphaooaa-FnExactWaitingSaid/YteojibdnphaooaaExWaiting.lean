/- The law FnExactWaiting returns true at every argument and leaves it as it was: impl.Waiting answers as its model, writes into no argument, and its answer owns its memory. No condition. -/
import Derived.Test.YteojibdnphaooaaTurnSpec2
import Derived.Test.YteojibdnphaooaaTurnQueue
import Derived.Test.YteojibdnphaooaaTurnServed
import Derived.Test.YteojibdnphaooaaTurnSize
import Derived.Test.YteojibdnphaooaaTurnImpl
import Derived.Test.YteojibdnphaooaaShRound
import Derived.Test.YteojibdnphaooaaRowIs
import Derived.WalkKit
import Derived.ProofKit
import Derived.OpenShut
import Derived.ShutString
import Derived.ChangeOld
import Derived.Below
import Derived.Lib.SmallJoins
import Derived.Deep.RegionHeld3
import Derived.Deep.Cut
import Derived.Deep.DeepCutAuto


namespace Go.Proofs.Yteojibdnphaooaa
open Go.RowKit
set_option maxRecDepth 100000
namespace exactWaiting
open Go.ChangeShapes Go.WideShapes Go.ChangeAt Go.RowKit Go.Joins
set_option linter.unusedVariables false
set_option linter.unusedSimpArgs false

set_option maxRecDepth 100000 in
set_option maxHeartbeats 8000000 in
theorem walk (d : RoundD) (vls : Value) (w : World) (hr : RdR lineS w vls d.ls) :
    Calls Try.prog 8 #[.agg #[.int .i64 d.turn, .bool d.given, vls]] w fun x w' => x = .returned (.bool true) ∧ Below w.heap.size w w' := by
  have HR := hide hr
  obtain ⟨ad, cap, rfl, _⟩ := hr.form
  clear hr
  obtain ⟨dk, hD⟩ : ∃ y, y = waitingD d := ⟨_, rfl⟩
  have HD := hide hD
  clear hD
  go_enter Try.func8, Try.ntmps8
  go_wp2_with fail
  generalize hV : w.alloc (.cells #[.int .i64 d.turn, .bool d.given, .slice ad d.ls.length cap] 43) = V
  have HBW : Hid (Below w.heap.size w V) := by show Below _ _ _; rw [← hV]; exact (Below.refl _ _).alloc (Nat.le_refl _) _
  have HA : Hid (RowIs V w.heap.size 43 [.int .i64 d.turn, .bool d.given, .slice ad d.ls.length cap]) := by show RowIs _ _ _ _; rw [← hV]; exact rowIs_new w 43 [.int .i64 d.turn, .bool d.given, .slice ad d.ls.length cap]
  have hlV := HA.out.lt
  clear hV
  obtain ⟨left, hleft⟩ : ∃ left, (1048576 : Int) - szRound d = left := ⟨_, rfl⟩
  have hcall := fun w h => szRound1 d (.slice ad d.ls.length cap) 1048576 w h (by omega) (by omega)
  rw [hleft] at hcall
  refine (hcall _ (HR.out.new HBW.out)).mono ?_; clear hcall
  rintro x w0 ⟨rfl | ⟨rfl, hp⟩, hb0⟩
  · go_wp2_with fail
    go_ret
    exact ⟨rfl, bchain HBW.out hb0⟩
  have hs : szRound d ≤ 1048576 := by omega
  have hl0 : ¬ left < 0 := by omega
  have hlu : left ≤ 1048576 := by have := szRound_nn d; omega
  clear hleft
  replace HA := hide (HA.out.new hb0)
  replace HBW := hide (bchain HBW.out hb0)
  have zhb0 := hb0.size
  clear hb0
  have x0 := HA.out.cell (j := 0) rfl
  have x1 := HA.out.cell (j := 1) rfl
  have x2 := HA.out.cell (j := 2) rfl
  have lx := HA.out.lt
  go_wp2_with fail
  refine (toRound1 d _ _ (HR.out.new HBW.out) hs).mono ?_
  rintro x w1 ⟨vt, rfl, hot, hbw1⟩
  obtain ⟨a6, p6, rfl, _⟩ := hot.form
  clear x0 x1 x2 lx
  have O6 := hide hot
  clear hot
  replace HA := hide (HA.out.new hbw1)
  replace HBW := hide (bchain HBW.out hbw1)
  have zhbw1 := hbw1.size
  clear hbw1
  go_wp2_with fail
  have hc := specWaiting d (.slice a6 d.ls.length p6)  w1 O6.out.rd
  rw [← HD.out] at hc
  refine hc.mono ?_; rintro x w2 ⟨rfl, hbw2⟩
  clear hc
  replace HA := hide (HA.out.new hbw2)
  replace O6 := hide (O6.out.new hbw2)
  replace HBW := hide (bchain HBW.out hbw2)
  have zhbw2 := hbw2.size
  clear hbw2
  clear O6
  have x0 := HA.out.cell (j := 0) rfl
  have x1 := HA.out.cell (j := 1) rfl
  have x2 := HA.out.cell (j := 2) rfl
  have lx := HA.out.lt
  go_wp2_with fail
  refine (toRound1 d _ _ (HR.out.new HBW.out) hs).mono ?_
  rintro x w3 ⟨vt, rfl, hot, hbw3⟩
  obtain ⟨a8, p8, rfl, _⟩ := hot.form
  clear x0 x1 x2 lx
  have O8 := hide hot
  clear hot
  replace HA := hide (HA.out.new hbw3)
  replace HBW := hide (bchain HBW.out hbw3)
  have zhbw3 := hbw3.size
  clear hbw3
  go_upto_region 7 with fail
  have hbw4 : Below w3.heap.size w3 (w3.alloc (.cells #[.int .i64 d.turn, .bool d.given, .slice a8 d.ls.length p8] 26)) := (Below.refl _ _).alloc (Nat.le_refl _) _
  have B8 : Hid (RowIs (w3.alloc (.cells #[.int .i64 d.turn, .bool d.given, .slice a8 d.ls.length p8] 26)) w3.heap.size 26 [.int .i64 d.turn, .bool d.given, .slice a8 d.ls.length p8]) := rowIs_new w3 26 [.int .i64 d.turn, .bool d.given, .slice a8 d.ls.length p8]
  generalize w3.alloc (.cells #[.int .i64 d.turn, .bool d.given, .slice a8 d.ls.length p8] 26) = w4 at *
  have ltB8 := B8.out.lt
  replace HA := hide (HA.out.new hbw4)
  replace O8 := hide (O8.out.new hbw4)
  replace HBW := hide (bchain HBW.out hbw4)
  have zhbw4 := hbw4.size
  clear hbw4
  generalize hgB8 : w3.heap.size = gB8 at *
  have t0 := B8.out.cell (j := 0) rfl
  have t1 := B8.out.cell (j := 1) rfl
  have t2 := B8.out.cell (j := 2) rfl
  have lt := B8.out.lt
  go_wp2_with fail
  have hc := implWaiting d (.slice a8 d.ls.length p8)  w4 O8.out.rd
  rw [← HD.out] at hc
  refine hc.mono ?_; rintro x w5 ⟨rfl, hbw5⟩
  clear hc
  replace HA := hide (HA.out.new hbw5)
  replace B8 := hide (B8.out.new hbw5)
  replace O8 := hide (O8.out.new hbw5)
  replace HBW := hide (bchain HBW.out hbw5)
  have zhbw5 := hbw5.size
  clear hbw5
  clear t0 t1 t2 lt
  go_upto_region 10 with fail
  have t0 := B8.out.cell (j := 0) rfl
  have t1 := B8.out.cell (j := 1) rfl
  have t2 := B8.out.cell (j := 2) rfl
  have lt := B8.out.lt
  have x0 := HA.out.cell (j := 0) rfl
  have x1 := HA.out.cell (j := 1) rfl
  have x2 := HA.out.cell (j := 2) rfl
  have lx := HA.out.lt
  go_region_held3 (fun w' => w'.cell? ⟨gB8, 0, none⟩ = some (.int .i64 d.turn) ∧ w'.cell? ⟨gB8, 1, none⟩ = some (.bool d.given) ∧ w'.cell? ⟨gB8, 2, none⟩ = some (.slice a8 d.ls.length p8) ∧ w'.cell? ⟨w.heap.size, 0, none⟩ = some (.int .i64 d.turn) ∧ w'.cell? ⟨w.heap.size, 1, none⟩ = some (.bool d.given) ∧ w'.cell? ⟨w.heap.size, 2, none⟩ = some (.slice ad d.ls.length cap)) (first | go_keep | (simp [*, go_sem]; done))
    (first
      | (go_at_call 25; refine (toRound1 d _ _ (HR.out.new (bo_drewN _ HBW.out)) hs).mono ?_; rintro x wa ⟨va, rfl, hoa, hba⟩; obtain ⟨aa, pa, rfl, _⟩ := hoa.form; have HOa := hide hoa.rd; clear hoa; have hza := hba.size; (try simp at hza); have k0 := fun o => hba.cell (p := ⟨w.heap.size, o, none⟩) (by first | (simp; done) | (simp; omega) | omega); have k1 := fun o => hba.cell (p := ⟨gB8, o, none⟩) (by first | (simp; done) | (simp; omega) | omega))
      | (go_at_call 26; refine (eqRound1 d _ _ _ (O8.out.rd.new (bchain (bo_drewN _ (Below.refl _ _)) hba)) HOa.out).mono ?_; rintro x wb ⟨rfl, hbb⟩; have hzb := hbb.size; (try simp at hzb); have k2 := fun o => hbb.cell (p := ⟨w.heap.size, o, none⟩) (by first | (simp; done) | (simp; omega) | omega); have k3 := fun o => hbb.cell (p := ⟨gB8, o, none⟩) (by first | (simp; done) | (simp; omega) | omega)))
  have hbq : Below w5.heap.size w5 wb := bchain (bchain (bo_drewN _ (Below.refl _ _)) hba) hbb
  clear k0 k1 k2 k3 hba hbb HOa
  clear t0 t1 t2 lt
  clear x0 x1 x2 lx
  replace HA := hide (HA.out.new hbq)
  replace B8 := hide (B8.out.new hbq)
  replace O8 := hide (O8.out.new hbq)
  replace HBW := hide (bchain HBW.out hbq)
  have zhbq := hbq.size
  clear hbq
  go_wp2_with fail
  go_ret
  exact ⟨rfl, HBW.out⟩


theorem own : ownKnob Try.prog.godebug = none := by kernel_rfl
theorem laidOut : laidOutB Try.prog = true := by kernel_rfl

set_option maxRecDepth 100000 in
theorem lifted (os : Os) (started : os.Started) (H : Type) (enc : TypeId × Value → H) :
    ReturnsInHanded {} Try.checked os 8 .any (Rows.fnExactWaitingSpec.pre6 enc Try.prog Try.f8 Rows.fnExactWaitingRow.domain false) (Rows.fnExactWaitingSpec.post enc Try.prog Try.f8 false true false false) := by
  refine returnsInHanded_of_change (C := Try.checked) own started (by kernel_rfl) Try.func8
    (ChangeSpec.witness6 (enc := enc) (C := Try.checked) false ⟨#[], #[.agg #[.int .i64 0, .bool false, .slice none 0 0]], []⟩ 8 (by kernel_rfl) (by kernel_rfl) (by kernel_rfl) (by kernel_rfl)) ?_
  intro W base args ds gs before hval0 hW hcnd _
  have hval : ∀ (j : Nat) t v, Try.f8.params[j]? = some t → args[j]? = some v → Value.okWide Try.prog W .any base t v := hval0
  have hW' := hW
  obtain ⟨p, q, hA0, hV, rfl, hfz, hnd⟩ := hW
  have hA : DataW.TrodAll enc Try.prog W 0 (fun _ => true) true Try.f8.params.toList args.toList ds p := hA0
  rw [Try.params8] at hA hval
  obtain ⟨v0, vs0, d0, ds0, p0, q0, hargs, rfl, rfl, h0, r0⟩ := trodAll_cons hA
  obtain ⟨rfl, rfl, rfl⟩ := trodAll_nil r0
  obtain rfl : args = #[v0] := by cases args; simp_all
  obtain ⟨rfl, rfl⟩ := trodVars_none hV
  have k0 := h0
  have lt0 : ∀ x ∈ p0, x.block < W.heap.size := by obtain ⟨m, hm⟩ := k0; exact DataW.trod_lt m _ _ _ hm
  obtain ⟨d, vls, rfl, hrd⟩ := open_Round (hval 0 43 v0 rfl rfl) h0
  clear hA0 hval0
  refine (walk d vls W hrd).mono fun e W' ⟨he, bel⟩ => ?_
  subst he
  exact ⟨_, rfl, _, _, _, [], _, [], hW', trodAll_mk1 (shut_bool Try.underlying4 _), (trodAll_cons_mk (Below.trod laidOut (by kernel_rfl) (of_decide_eq_true (by kernel_rfl)) k0 bel lt0) trodAll_mk0), rfl, bel.frame _, fun h => by cases h⟩

theorem over : Rows.fnExactWaitingRow.holds Try.pinned (OpenSpec.ofChange Rows.fnExactWaitingSpec) :=
  OpenClaim.holds_of_wide 8 Try.f8 rfl rfl rfl rfl rfl rfl rfl ⟨rfl, rfl, rfl, rfl, rfl⟩ rfl rfl rfl rfl rfl (by kernel_rfl) Try.func8 (by kernel_rfl)
    (of_decide_eq_true (by kernel_rfl)) (by unfold Func.isWrapper; first | (rw [if_pos (by decide +kernel)]; kernel_rfl) | (rw [if_neg (by decide +kernel)]; exact ⟨rfl, rfl⟩))
    (fun os started H enc _ => lifted os started H enc)

end exactWaiting

theorem exactWaiting_proved : Rows.FnExactWaitingSaid := exactWaiting.over
#print axioms exactWaiting_proved
end Go.Proofs.Yteojibdnphaooaa
