/- The law FnExactIn returns true at every argument and leaves it as it was: impl.In answers as its model. No condition. -/
import Derived.Test.YtllalhfhbdcnmaaTunSpec3
import Derived.Test.YtllalhfhbdcnmaaTunImpl
import Derived.WalkKit
import Derived.ProofKit
import Derived.OpenShut
import Derived.ShutString
import Derived.ChangeOld
import Derived.Below
import Derived.Lib.SmallJoins
import Derived.Deep.Cut
import Derived.Deep.DeepCutAuto

namespace Go.Proofs.Ytllalhfhbdcnmaa
open Go.RowKit
set_option maxRecDepth 100000
namespace exactIn
open Go.ChangeShapes Go.WideShapes Go.ChangeAt Go.RowKit Go.Joins
open Go.ChangeMaps (open_string shut_string)
set_option linter.unusedVariables false
set_option linter.unusedSimpArgs false

set_option maxHeartbeats 2000000 in
theorem walk (t : TuD) (s : ByteArray) (fin : Bool) (w : World) (h1 : t.up.b.size ≤ maxLen) (h2 : t.dn.b.size ≤ maxLen) (hs0 : s.size ≤ maxLen) :
    Calls Try.prog 5 #[tuv t, .string s, .bool fin] w fun x w' => x = .returned (.bool true) ∧ Below w.heap.size w w' := by
  obtain ⟨⟨r, b, e, k⟩, ⟨r2, b2, e2, k2⟩, wt, cm⟩ := t
  dsimp only [tuv] at *
  by_cases hbig : (1048576 : Int) < s.size
  · unfold maxLen at hs0
    go_enter Try.func5, Try.ntmps5
    go_wp2_with fail
    go_ret
    exact ⟨rfl, by repeat' (first | (with_reducible exact (Below.refl w.heap.size w)) | (with_reducible refine Below.setCell ?_ ?_ _) | (with_reducible refine Below.alloc ?_ ?_ _) | (with_reducible refine Below.drew ?_) | (with_reducible refine bo_drewN _ ?_) | omega | (simp; done) | (simp; omega))⟩
  have hs : s.size ≤ 1048576 := by omega
  have hsp := fun u => specIn16 ⟨⟨r, b, e, k⟩, ⟨r2, b2, e2, k2⟩, wt, cm⟩ s fin u h1 h2 hs
  have him := fun u => implIn16 ⟨⟨r, b, e, k⟩, ⟨r2, b2, e2, k2⟩, wt, cm⟩ s fin u h1 h2 hs
  obtain ⟨⟨⟨⟨ar, ab, ae, ak⟩, ⟨ar2, ab2, ae2, ak2⟩, awt, acm⟩, z⟩, hv⟩ : ∃ v, inTu ⟨⟨r, b, e, k⟩, ⟨r2, b2, e2, k2⟩, wt, cm⟩ s fin = v := ⟨_, rfl⟩
  rw [hv] at hsp him
  clear hv
  dsimp only [tuv] at hsp him
  have hzz : (z != z) = false := by simp
  go_enter Try.func5, Try.ntmps5
  obtain ⟨W, hW⟩ : ∃ W, w.alloc (.cells #[.int .i64 r, .string b, .bool e, .bool k, .int .i64 r2, .string b2, .bool e2, .bool k2, .int .i64 wt, .int .i64 cm] 25) = W := ⟨_, rfl⟩
  have RX : RowIs W w.heap.size 25 [.int .i64 r, .string b, .bool e, .bool k, .int .i64 r2, .string b2, .bool e2, .bool k2, .int .i64 wt, .int .i64 cm] := by rw [← hW]; exact rowIs_new w 25 [.int .i64 r, .string b, .bool e, .bool k, .int .i64 r2, .string b2, .bool e2, .bool k2, .int .i64 wt, .int .i64 cm]
  have HB : Below w.heap.size w W := by rw [← hW]; exact (Below.refl _ _).alloc (Nat.le_refl _) _
  go_wp2_with (refine wpList_load_row (by rfl) 25 _ (by rfl) w.heap.size (by rfl) [.int .i64 r, .string b, .bool e, .bool k, .int .i64 r2, .string b2, .bool e2, .bool k2, .int .i64 wt, .int .i64 cm] _ 25 RX Try.underlying25 rfl (by kernel_rfl) ?_)
  clear hW
  refine (szTunnel1 ⟨⟨r, b, e, k⟩, ⟨r2, b2, e2, k2⟩, wt, cm⟩ _ h1 h2).mono ?_; rintro x w1 ⟨⟨y, rfl, hy⟩, hb⟩
  replace RX := RX.new hb
  replace HB := bchain HB hb
  clear hb
  by_cases hy0 : y < 0
  · go_wp2_with fail
    go_ret
    exact ⟨rfl, HB⟩
  clear hy
  go_wp2_with (refine wpList_load_row (by rfl) 25 _ (by rfl) w.heap.size (by rfl) [.int .i64 r, .string b, .bool e, .bool k, .int .i64 r2, .string b2, .bool e2, .bool k2, .int .i64 wt, .int .i64 cm] _ 25 RX Try.underlying25 rfl (by kernel_rfl) ?_)
  refine (toTunnel1 ⟨⟨r, b, e, k⟩, ⟨r2, b2, e2, k2⟩, wt, cm⟩ _).mono ?_; rintro x x01 ⟨rfl, hb⟩
  replace RX := RX.new hb
  replace HB := bchain HB hb
  clear hb
  dsimp only [tuv]
  go_wp2_with fail
  refine (hsp _).mono ?_; rintro x x02 ⟨rfl, hb⟩
  replace RX := RX.new hb
  replace HB := bchain HB hb
  clear hb
  go_upto_region 8 with (refine wpList_store_row (by rfl) 30 _ _ (by rfl) x02.heap.size [.int .i64 ar, .string ab, .bool ae, .bool ak, .int .i64 ar2, .string ab2, .bool ae2, .bool ak2, .int .i64 awt, .int .i64 acm] (by rfl) (by rfl) 30 [.int .i64 0, .string ⟨#[]⟩, .bool false, .bool false, .int .i64 0, .string ⟨#[]⟩, .bool false, .bool false, .int .i64 0, .int .i64 0] (rowIs_new x02 30 [.int .i64 0, .string ⟨#[]⟩, .bool false, .bool false, .int .i64 0, .string ⟨#[]⟩, .bool false, .bool false, .int .i64 0, .int .i64 0]) (by kernel_rfl) rfl (by intro u hu; simp at hu; rcases hu with rfl | rfl | rfl | rfl | rfl | rfl | rfl | rfl | rfl | rfl <;> rfl) ?_)
  have RS : RowIs ((x02.alloc (.cells #[.int .i64 0, .string ⟨#[]⟩, .bool false, .bool false, .int .i64 0, .string ⟨#[]⟩, .bool false, .bool false, .int .i64 0, .int .i64 0] 30)).setRow x02.heap.size #[.int .i64 ar, .string ab, .bool ae, .bool ak, .int .i64 ar2, .string ab2, .bool ae2, .bool ak2, .int .i64 awt, .int .i64 acm]) x02.heap.size 30 [.int .i64 ar, .string ab, .bool ae, .bool ak, .int .i64 ar2, .string ab2, .bool ae2, .bool ak2, .int .i64 awt, .int .i64 acm] := rowIs_setRow (cs' := [.int .i64 ar, .string ab, .bool ae, .bool ak, .int .i64 ar2, .string ab2, .bool ae2, .bool ak2, .int .i64 awt, .int .i64 acm]) (rowIs_new x02 30 [.int .i64 0, .string ⟨#[]⟩, .bool false, .bool false, .int .i64 0, .string ⟨#[]⟩, .bool false, .bool false, .int .i64 0, .int .i64 0])
  have hbV : Below x02.heap.size x02 ((x02.alloc (.cells #[.int .i64 0, .string ⟨#[]⟩, .bool false, .bool false, .int .i64 0, .string ⟨#[]⟩, .bool false, .bool false, .int .i64 0, .int .i64 0] 30)).setRow x02.heap.size #[.int .i64 ar, .string ab, .bool ae, .bool ak, .int .i64 ar2, .string ab2, .bool ae2, .bool ak2, .int .i64 awt, .int .i64 acm]) := below_setRow ((Below.refl _ _).alloc (Nat.le_refl _) _) (Nat.le_refl _) #[.int .i64 ar, .string ab, .bool ae, .bool ak, .int .i64 ar2, .string ab2, .bool ae2, .bool ak2, .int .i64 awt, .int .i64 acm]
  replace RX := RX.new hbV
  replace HB := bchain HB hbV
  clear hbV
  generalize hV : (x02.alloc (.cells #[.int .i64 0, .string ⟨#[]⟩, .bool false, .bool false, .int .i64 0, .string ⟨#[]⟩, .bool false, .bool false, .int .i64 0, .int .i64 0] 30)).setRow x02.heap.size #[.int .i64 ar, .string ab, .bool ae, .bool ak, .int .i64 ar2, .string ab2, .bool ae2, .bool ak2, .int .i64 awt, .int .i64 acm] = V4 at *
  clear hV
  generalize x02.heap.size = gRS at *
  go_wp2_with (refine wpList_load_row (by rfl) 25 _ (by rfl) w.heap.size (by rfl) [.int .i64 r, .string b, .bool e, .bool k, .int .i64 r2, .string b2, .bool e2, .bool k2, .int .i64 wt, .int .i64 cm] _ 25 RX Try.underlying25 rfl (by kernel_rfl) ?_)
  refine (toTunnel1 ⟨⟨r, b, e, k⟩, ⟨r2, b2, e2, k2⟩, wt, cm⟩ _).mono ?_; rintro x x11 ⟨rfl, hb⟩
  replace RX := RX.new hb
  replace RS := RS.new hb
  replace HB := bchain HB hb
  clear hb
  dsimp only [tuv]
  go_wp2_with fail
  refine (him _).mono ?_; rintro x x12 ⟨rfl, hb⟩
  replace RX := RX.new hb
  replace RS := RS.new hb
  replace HB := bchain HB hb
  clear hb
  go_upto_region 9 with (refine wpList_store_row (by rfl) 30 _ _ (by rfl) x12.heap.size [.int .i64 ar, .string ab, .bool ae, .bool ak, .int .i64 ar2, .string ab2, .bool ae2, .bool ak2, .int .i64 awt, .int .i64 acm] (by rfl) (by rfl) 30 [.int .i64 0, .string ⟨#[]⟩, .bool false, .bool false, .int .i64 0, .string ⟨#[]⟩, .bool false, .bool false, .int .i64 0, .int .i64 0] (rowIs_new x12 30 [.int .i64 0, .string ⟨#[]⟩, .bool false, .bool false, .int .i64 0, .string ⟨#[]⟩, .bool false, .bool false, .int .i64 0, .int .i64 0]) (by kernel_rfl) rfl (by intro u hu; simp at hu; rcases hu with rfl | rfl | rfl | rfl | rfl | rfl | rfl | rfl | rfl | rfl <;> rfl) ?_)
  have RI : RowIs ((x12.alloc (.cells #[.int .i64 0, .string ⟨#[]⟩, .bool false, .bool false, .int .i64 0, .string ⟨#[]⟩, .bool false, .bool false, .int .i64 0, .int .i64 0] 30)).setRow x12.heap.size #[.int .i64 ar, .string ab, .bool ae, .bool ak, .int .i64 ar2, .string ab2, .bool ae2, .bool ak2, .int .i64 awt, .int .i64 acm]) x12.heap.size 30 [.int .i64 ar, .string ab, .bool ae, .bool ak, .int .i64 ar2, .string ab2, .bool ae2, .bool ak2, .int .i64 awt, .int .i64 acm] := rowIs_setRow (cs' := [.int .i64 ar, .string ab, .bool ae, .bool ak, .int .i64 ar2, .string ab2, .bool ae2, .bool ak2, .int .i64 awt, .int .i64 acm]) (rowIs_new x12 30 [.int .i64 0, .string ⟨#[]⟩, .bool false, .bool false, .int .i64 0, .string ⟨#[]⟩, .bool false, .bool false, .int .i64 0, .int .i64 0])
  have hbV : Below x12.heap.size x12 ((x12.alloc (.cells #[.int .i64 0, .string ⟨#[]⟩, .bool false, .bool false, .int .i64 0, .string ⟨#[]⟩, .bool false, .bool false, .int .i64 0, .int .i64 0] 30)).setRow x12.heap.size #[.int .i64 ar, .string ab, .bool ae, .bool ak, .int .i64 ar2, .string ab2, .bool ae2, .bool ak2, .int .i64 awt, .int .i64 acm]) := below_setRow ((Below.refl _ _).alloc (Nat.le_refl _) _) (Nat.le_refl _) #[.int .i64 ar, .string ab, .bool ae, .bool ak, .int .i64 ar2, .string ab2, .bool ae2, .bool ak2, .int .i64 awt, .int .i64 acm]
  replace RX := RX.new hbV
  replace RS := RS.new hbV
  replace HB := bchain HB hbV
  clear hbV
  generalize hV : (x12.alloc (.cells #[.int .i64 0, .string ⟨#[]⟩, .bool false, .bool false, .int .i64 0, .string ⟨#[]⟩, .bool false, .bool false, .int .i64 0, .int .i64 0] 30)).setRow x12.heap.size #[.int .i64 ar, .string ab, .bool ae, .bool ak, .int .i64 ar2, .string ab2, .bool ae2, .bool ak2, .int .i64 awt, .int .i64 acm] = V7 at *
  clear hV
  generalize x12.heap.size = gRI at *
  go_wp2_with (first | (refine wpList_load_row (by rfl) 30 _ (by rfl) gRI (by rfl) [.int .i64 ar, .string ab, .bool ae, .bool ak, .int .i64 ar2, .string ab2, .bool ae2, .bool ak2, .int .i64 awt, .int .i64 acm] _ 30 RI Try.underlying30 rfl (by kernel_rfl) ?_) | (refine wpList_load_row (by rfl) 30 _ (by rfl) gRS (by rfl) [.int .i64 ar, .string ab, .bool ae, .bool ak, .int .i64 ar2, .string ab2, .bool ae2, .bool ak2, .int .i64 awt, .int .i64 acm] _ 30 RS Try.underlying30 rfl (by kernel_rfl) ?_))
  refine (eqTunnel1 ⟨⟨ar, ab, ae, ak⟩, ⟨ar2, ab2, ae2, ak2⟩, awt, acm⟩ _).mono ?_; rintro x x9 ⟨rfl, hb⟩
  replace RX := RX.new hb
  replace RS := RS.new hb
  replace RI := RI.new hb
  replace HB := bchain HB hb
  clear hb
  go_wp2_with fail
  go_ret
  exact ⟨rfl, HB⟩


theorem own : ownKnob Try.prog.godebug = none := by kernel_rfl
theorem laidOut : laidOutB Try.prog = true := by kernel_rfl

set_option maxRecDepth 100000 in
theorem lifted (os : Os) (started : os.Started) (H : Type) (enc : TypeId × Value → H) :
    ReturnsInHanded {} Try.checked os 5 .any (Rows.fnExactInSpec.pre6 enc Try.prog Try.f5 Rows.fnExactInRow.domain false) (Rows.fnExactInSpec.post enc Try.prog Try.f5 false true false false) := by
  refine returnsInHanded_of_change (C := Try.checked) own started (by kernel_rfl) Try.func5
    (ChangeSpec.witness6 (enc := enc) (C := Try.checked) false ⟨#[], #[.agg #[.int .i64 0, .string ⟨#[]⟩, .bool false, .bool false, .int .i64 0, .string ⟨#[]⟩, .bool false, .bool false, .int .i64 0, .int .i64 0], .string ⟨#[]⟩, .bool false], []⟩ 8 (by kernel_rfl) (by kernel_rfl) (by kernel_rfl) (by kernel_rfl)) ?_
  intro W base args ds gs before hval0 hW hcnd _
  have hval : ∀ (j : Nat) t v, Try.f5.params[j]? = some t → args[j]? = some v → Value.okWide Try.prog W .any base t v := hval0
  have hW' := hW
  obtain ⟨p, q, hA0, hV, rfl, hfz, hnd⟩ := hW
  have hA : DataW.TrodAll enc Try.prog W 0 (fun _ => true) true Try.f5.params.toList args.toList ds p := hA0
  rw [Try.params5] at hA hval
  obtain ⟨v0, vs0, d0, ds0, p0, q0, hargs, rfl, rfl, h0, r0⟩ := trodAll_cons hA
  obtain ⟨v1, vs1, d1, ds1, p1, q1, rfl, rfl, rfl, h1, r1⟩ := trodAll_cons r0
  obtain ⟨v2, vs2, d2, ds2, p2, q2, rfl, rfl, rfl, h2, r2⟩ := trodAll_cons r1
  obtain ⟨rfl, rfl, rfl⟩ := trodAll_nil r2
  obtain rfl : args = #[v0, v1, v2] := by cases args; simp_all
  obtain ⟨rfl, rfl⟩ := trodVars_none hV
  have k0 := h0
  have lt0 : ∀ x ∈ p0, x.block < W.heap.size := by obtain ⟨m, hm⟩ := k0; exact DataW.trod_lt m _ _ _ hm
  have k1 := h1
  have lt1 : ∀ x ∈ p1, x.block < W.heap.size := by obtain ⟨m, hm⟩ := k1; exact DataW.trod_lt m _ _ _ hm
  have k2 := h2
  have lt2 : ∀ x ∈ p2, x.block < W.heap.size := by obtain ⟨m, hm⟩ := k2; exact DataW.trod_lt m _ _ _ hm
  obtain ⟨t, ht1, ht2, rfl⟩ := open_Tunnel (hval 0 25 v0 rfl rfl) h0
  obtain ⟨s, rfl, rfl, rfl, hss⟩ := open_string Try.underlying9 (hval 1 9 v1 rfl rfl) h1
  obtain ⟨fin, rfl, rfl, rfl⟩ := open_bool Try.underlying4 (hval 2 4 v2 rfl rfl) h2
  clear hA0 hval0
  refine (walk t s fin W ht1 ht2 hss).mono fun e W' ⟨he, bel⟩ => ?_
  subst he
  exact ⟨_, rfl, _, _, _, [], _, [], hW', trodAll_mk1 (shut_bool Try.underlying4 _), (trodAll_cons_mk (Below.trod laidOut (by kernel_rfl) (of_decide_eq_true (by kernel_rfl)) k0 bel lt0) (trodAll_cons_mk (Below.trod laidOut (by kernel_rfl) (of_decide_eq_true (by kernel_rfl)) k1 bel lt1) (trodAll_cons_mk (Below.trod laidOut (by kernel_rfl) (of_decide_eq_true (by kernel_rfl)) k2 bel lt2) trodAll_mk0))), rfl, bel.frame _, fun h => by cases h⟩

theorem over : Rows.fnExactInRow.holds Try.pinned (OpenSpec.ofChange Rows.fnExactInSpec) :=
  OpenClaim.holds_of_wide 5 Try.f5 rfl rfl rfl rfl rfl rfl rfl ⟨rfl, rfl, rfl, rfl, rfl⟩ rfl rfl rfl rfl rfl (by kernel_rfl) Try.func5 (by kernel_rfl)
    (of_decide_eq_true (by kernel_rfl)) (by unfold Func.isWrapper; first | (rw [if_pos (by decide +kernel)]; kernel_rfl) | (rw [if_neg (by decide +kernel)]; exact ⟨rfl, rfl⟩))
    (fun os started H enc _ => lifted os started H enc)

end exactIn

theorem exactIn_proved : Rows.FnExactInSaid := exactIn.over
#print axioms exactIn_proved
end Go.Proofs.Ytllalhfhbdcnmaa
