/- The law FnExactResized returns true at every argument and leaves it as it was: impl.Resized answers as its model, writes into no argument, and its answer owns its memory. No condition. -/
import Derived.Test.YtaphajngogmihaaTabX
import Derived.Test.YtaphajngogmihaaImplNoted
import Derived.Test.YtaphajngogmihaaTables
import Derived.WalkKit
import Derived.ProofKit
import Derived.OpenShut
import Derived.ShutString
import Derived.ChangeOld
import Derived.Below
import Derived.Lib.SmallJoins
import Derived.Deep.RegionHeld3
import Derived.Deep.Cut
import Derived.Deep.DeepCutAuto


namespace Go.Proofs.Ytaphajngogmihaa
open Go.RowKit
namespace exactResized
open Go.ChangeShapes Go.WideShapes Go.ChangeAt Go.RowKit Go.Joins
set_option linter.unusedVariables false
set_option linter.unusedSimpArgs false

set_option maxRecDepth 100000 in
set_option maxHeartbeats 8000000 in
theorem walk (L : List Fd) (room : Int) (v : Value) (r : Int) (w : World) (hr : Reads w v L.length 2 (fv L)) (hf : ∀ f ∈ L, f.fine) :
    Calls Try.prog 6 #[.agg #[.int .i64 room, v], .int .i64 r] w fun x w' => x = .returned (.bool true) ∧ Below w.heap.size w w' := by
  have HR := hide hr; have HF := hide hf
  obtain ⟨ad, cap, rfl, _⟩ := hr.2
  clear hr hf
  obtain ⟨⟨⟨dr, dL⟩, db⟩, hD⟩ : ∃ D, D = resizedD room L r := ⟨_, rfl⟩
  have hdl : dL.length ≤ L.length + 1 := by have := resizedD_len room L r; rw [← hD] at this; exact this
  have HD := hide hD
  clear hD
  go_enter Try.func6, Try.ntmps6
  go_wp2_with fail
  generalize hV : w.alloc (.cells #[.int .i64 room, .slice ad L.length cap] 31) = V
  have HBW : Hid (Below w.heap.size w V) := by show Below _ _ _; rw [← hV]; exact (Below.refl _ _).alloc (Nat.le_refl _) _
  have HA : Hid (RowIs V w.heap.size 31 [.int .i64 room, .slice ad L.length cap]) := by show RowIs _ _ _ _; rw [← hV]; exact rowIs_new w 31 [.int .i64 room, .slice ad L.length cap]
  have hlV := HA.out.lt
  clear hV
  refine (szTable1 L room _ _ _ (HR.out.new HBW.out) HF.out (by omega) (by omega)).mono ?_
  by_cases hneg : (1048576 : Int) - L.length - szL L < 0
  · rw [if_pos hneg]; rintro x w1 ⟨rfl, hb1⟩
    go_wp2_with fail
    go_ret
    exact ⟨rfl, bchain HBW.out hb1⟩
  rw [if_neg hneg]; rintro x w1 ⟨rfl, hb1⟩
  have hLl : L.length ≤ 1048576 := by have := szL_pos L; omega
  have hlu : (1048576 : Int) - L.length - szL L ≤ 1048576 := by have := szL_pos L; omega
  generalize (1048576 : Int) - L.length - szL L = left at *
  replace HA := hide (HA.out.new hb1)
  replace HBW := hide (bchain HBW.out hb1)
  have zhb1 := hb1.size
  clear hb1
  have x0 := HA.out.cell (j := 0) rfl
  have x1 := HA.out.cell (j := 1) rfl
  go_wp2_with fail
  refine (toTable1 L room _ _ (HR.out.new HBW.out) hLl).mono ?_
  rintro x w61 ⟨vt, rfl, hot, hb61⟩
  obtain ⟨a61, p61, rfl, _⟩ := owns_form hot
  have HRD := hide (reads_of_owns hot)
  clear hot
  clear x0 x1
  replace HA := hide (HA.out.new hb61)
  replace HBW := hide (bchain HBW.out hb61)
  have zhb61 := hb61.size
  clear hb61
  go_wp2_with fail
  have hc := specResized L room (.slice a61 L.length p61) r _ HRD.out HF.out
  rw [← HD.out] at hc
  dsimp only at hc
  refine hc.mono ?_; rintro x w62 ⟨vz, rfl, hoz, hb62⟩
  clear hc
  obtain ⟨a6, p6, rfl, _⟩ := owns_form hoz
  clear HRD
  replace HA := hide (HA.out.new hb62)
  replace HBW := hide (bchain HBW.out hb62)
  have zhb62 := hb62.size
  clear hb62
  have t6 := tabX_new (room := dr) (p := p6) hoz (by omega)
  clear hoz
  have hb6 : Below w62.heap.size w62 (w62.alloc (.cells #[.int .i64 dr, .slice a6 dL.length p6] 36)) := (Below.refl _ _).alloc (Nat.le_refl _) _
  go_upto_region 6 with fail
  generalize w62.alloc (.cells #[.int .i64 dr, .slice a6 dL.length p6] 36) = w60 at *
  have T6 := hide t6
  have glo6 := t6.glo
  have ghi6 := t6.ghi
  clear t6
  replace HA := hide (HA.out.new hb6)
  replace HBW := hide (bchain HBW.out hb6)
  have zhb6 := hb6.size
  clear hb6
  generalize w62.heap.size = g6 at *
  have x0 := HA.out.cell (j := 0) rfl
  have x1 := HA.out.cell (j := 1) rfl
  go_wp2_with fail
  refine (toTable1 L room _ _ (HR.out.new HBW.out) hLl).mono ?_
  rintro x w8 ⟨vt, rfl, hoz, hb81⟩
  obtain ⟨a8, p8, rfl, _⟩ := owns_form hoz
  clear x0 x1
  replace HA := hide (HA.out.new hb81)
  replace T6 := hide (T6.out.new hb81)
  replace HBW := hide (bchain HBW.out hb81)
  have zhb81 := hb81.size
  clear hb81
  have t8 := tabX_new (room := room) (p := p8) hoz (by omega)
  clear hoz
  have hb8 : Below w8.heap.size w8 (w8.alloc (.cells #[.int .i64 room, .slice a8 L.length p8] 36)) := (Below.refl _ _).alloc (Nat.le_refl _) _
  go_upto_region 7 with fail
  generalize w8.alloc (.cells #[.int .i64 room, .slice a8 L.length p8] 36) = w80 at *
  have T8 := hide t8
  have glo8 := t8.glo
  have ghi8 := t8.ghi
  clear t8
  replace HA := hide (HA.out.new hb8)
  replace T6 := hide (T6.out.new hb8)
  replace HBW := hide (bchain HBW.out hb8)
  have zhb8 := hb8.size
  clear hb8
  generalize w8.heap.size = g8 at *
  have t0 := T8.out.row.cell (j := 0) rfl
  have t1 := T8.out.row.cell (j := 1) rfl
  go_wp2_with fail
  clear t0 t1
  have hc := implResized L room (.slice a8 L.length p8) r _ T8.out.read HF.out
  rw [← HD.out] at hc
  dsimp only at hc
  refine hc.mono ?_; rintro x w92 ⟨vz, rfl, hoz, hb92⟩
  clear hc
  obtain ⟨a9, p9, rfl, _⟩ := owns_form hoz
  replace HA := hide (HA.out.new hb92)
  replace T6 := hide (T6.out.new hb92)
  replace T8 := hide (T8.out.new hb92)
  replace HBW := hide (bchain HBW.out hb92)
  have zhb92 := hb92.size
  clear hb92
  have t9 := tabX_new (room := dr) (p := p9) hoz (by omega)
  clear hoz
  have hb9 : Below w92.heap.size w92 (w92.alloc (.cells #[.int .i64 dr, .slice a9 dL.length p9] 36)) := (Below.refl _ _).alloc (Nat.le_refl _) _
  go_upto_region 8 with fail
  generalize w92.alloc (.cells #[.int .i64 dr, .slice a9 dL.length p9] 36) = w90 at *
  have T9 := hide t9
  have glo9 := t9.glo
  have ghi9 := t9.ghi
  clear t9
  replace HA := hide (HA.out.new hb9)
  replace T6 := hide (T6.out.new hb9)
  replace T8 := hide (T8.out.new hb9)
  replace HBW := hide (bchain HBW.out hb9)
  have zhb9 := hb9.size
  clear hb9
  generalize w92.heap.size = g9 at *
  have t0 := T9.out.row.cell (j := 0) rfl
  have t1 := T9.out.row.cell (j := 1) rfl
  have s0 := T6.out.row.cell (j := 0) rfl
  have s1 := T6.out.row.cell (j := 1) rfl
  go_wp2_with fail
  refine (eqTable1 dL dr _ _ _ T9.out.read T6.out.read).mono ?_; rintro x w10 ⟨rfl, hb10⟩
  clear t0 t1 s0 s1
  replace HA := hide (HA.out.new hb10)
  replace T6 := hide (T6.out.new hb10)
  replace T8 := hide (T8.out.new hb10)
  replace T9 := hide (T9.out.new hb10)
  replace HBW := hide (bchain HBW.out hb10)
  have zhb10 := hb10.size
  clear hb10
  go_upto_region 10 with fail
  have t0 := T8.out.row.cell (j := 0) rfl
  have t1 := T8.out.row.cell (j := 1) rfl
  have x0 := HA.out.cell (j := 0) rfl
  have x1 := HA.out.cell (j := 1) rfl
  have hgA := HA.out.lt
  have hg8 := T8.out.row.lt
  go_region_held3 (fun w' => w'.cell? ⟨g8, 0, none⟩ = some (.int .i64 room) ∧ w'.cell? ⟨g8, 1, none⟩ = some (.slice a8 L.length p8) ∧ w'.cell? ⟨w.heap.size, 0, none⟩ = some (.int .i64 room) ∧ w'.cell? ⟨w.heap.size, 1, none⟩ = some (.slice ad L.length cap)) (first | go_keep | (simp [*, go_sem]; done))
    (first
      | (go_at_call 13; refine (toTable1 L room _ _ (HR.out.new (bo_drewN _ HBW.out)) hLl).mono ?_; rintro x w11 ⟨v11, rfl, ho11, hb11⟩; obtain ⟨a11, p11, rfl, _⟩ := owns_form ho11; have HO11 := hide (reads_of_owns ho11); clear ho11; have hz11 := hb11.size; (try simp at hz11); have k0 := fun o => hb11.cell (p := ⟨w.heap.size, o, none⟩) (by first | (simp; done) | (simp; omega) | omega); have k1 := fun o => hb11.cell (p := ⟨g8, o, none⟩) (by first | (simp; done) | (simp; omega) | omega))
      | (go_at_call 15; refine (eqTable1 L room _ _ _ (T8.out.read.new (bchain (bo_drewN _ (Below.refl _ _)) hb11)) HO11.out).mono ?_; rintro x w12 ⟨rfl, hb12⟩; have hz12 := hb12.size; (try simp at hz12); have k2 := fun o => hb12.cell (p := ⟨w.heap.size, o, none⟩) (by first | (simp; done) | (simp; omega) | omega); have k3 := fun o => hb12.cell (p := ⟨g8, o, none⟩) (by first | (simp; done) | (simp; omega) | omega)))
  have hbq : Below w10.heap.size w10 w12 := bchain (bchain (bo_drewN _ (Below.refl _ _)) hb11) hb12
  clear k0 k1 k2 k3 hb11 hb12 HO11 hgA hg8
  clear t0 t1 x0 x1
  replace HA := hide (HA.out.new hbq)
  replace T6 := hide (T6.out.new hbq)
  replace T8 := hide (T8.out.new hbq)
  replace T9 := hide (T9.out.new hbq)
  replace HBW := hide (bchain HBW.out hbq)
  have zhbq := hbq.size
  clear hbq
  have t0 := T8.out.row.cell (j := 0) rfl
  have t1 := T8.out.row.cell (j := 1) rfl
  go_wp2_with fail
  clear t0 t1
  refine (markTable1 L.length 1 room _ _ _ _ T8.out.own (by omega)).mono ?_; rintro x w13 ⟨rfl, hm13, hg13⟩
  have ht13 := turn_grown (g := 0) (lo := w60.heap.size) (hi := w80.heap.size) hg13 (fun q hq => ⟨(T8.out.own.lt q hq).1, T8.out.up q hq⟩)
  clear hm13 hg13 T8
  replace HA := hide (HA.out.kept (ht13.block _ HA.out.lt (by omega)))
  replace T6 := hide (T6.out.turn ht13 (by omega))
  replace T9 := hide (T9.out.turn ht13 (by omega))
  replace HBW := hide (HBW.out.trans (ht13.below (by omega) HBW.out.size))
  have zht13 := ht13.size
  clear ht13
  obtain ⟨m8, hm8⟩ : ∃ m : Int, m = ((1 + L.length * 2 : Nat) : Int) := ⟨_, rfl⟩
  rw [← hm8]
  have hn8 : 0 ≤ m8 := by omega
  have HN8 := hide hm8
  clear hm8
  have t0 := T9.out.row.cell (j := 0) rfl
  have t1 := T9.out.row.cell (j := 1) rfl
  have s0 := T6.out.row.cell (j := 0) rfl
  have s1 := T6.out.row.cell (j := 1) rfl
  go_wp2_with fail
  refine (eqTable1 dL dr _ _ _ T9.out.read T6.out.read).mono ?_; rintro x w14 ⟨rfl, hb14⟩
  clear t0 t1 s0 s1
  replace HA := hide (HA.out.new hb14)
  replace T6 := hide (T6.out.new hb14)
  replace T9 := hide (T9.out.new hb14)
  replace HBW := hide (bchain HBW.out hb14)
  have zhb14 := hb14.size
  clear hb14
  have t0 := T9.out.row.cell (j := 0) rfl
  have t1 := T9.out.row.cell (j := 1) rfl
  go_wp2_with fail
  clear t0 t1
  refine (markTable1 dL.length 1 dr _ _ _ _ T9.out.own (by omega)).mono ?_; rintro x w15 ⟨rfl, hm15, hg15⟩
  have ht15 := turn_grown (g := 0) (lo := w80.heap.size) (hi := w90.heap.size) hg15 (fun q hq => ⟨(T9.out.own.lt q hq).1, T9.out.up q hq⟩)
  have HM := hide hm15
  have HQ := hide (T9.out.row.kept (hg15.block _ T9.out.row.lt (fun e => T9.out.ap e.symm)))
  clear hm15 hg15 T9
  replace HA := hide (HA.out.kept (ht15.block _ HA.out.lt (by omega)))
  replace T6 := hide (T6.out.turn ht15 (by omega))
  replace HBW := hide (HBW.out.trans (ht15.below (by omega) HBW.out.size))
  have zht15 := ht15.size
  clear ht15
  obtain ⟨m9, hm9⟩ : ∃ m : Int, m = ((1 + dL.length * 2 : Nat) : Int) := ⟨_, rfl⟩
  rw [← hm9]
  have hn9 : 0 ≤ m9 := by omega
  have HN9 := hide hm9
  clear hm9
  have t0 := HQ.out.cell (j := 0) rfl
  have t1 := HQ.out.cell (j := 1) rfl
  go_wp2_with fail
  clear t0 t1
  refine (heldTable1 dL.length 1 dr _ _ (reads_of_owns HM.out) (by omega)).mono ?_; rw [← HN9.out]; rintro x w16 ⟨rfl, hb16⟩
  replace HA := hide (HA.out.new hb16)
  replace HQ := hide (HQ.out.new hb16)
  replace T6 := hide (T6.out.new hb16)
  replace HM := hide (owns_new HM.out hb16)
  replace HBW := hide (bchain HBW.out hb16)
  have zhb16 := hb16.size
  clear hb16
  have x0 := HA.out.cell (j := 0) rfl
  have x1 := HA.out.cell (j := 1) rfl
  go_wp2_with fail
  refine (toTable1 L room _ _ (HR.out.new HBW.out) hLl).mono ?_
  rintro x w141 ⟨vt, rfl, hot, hb141⟩
  obtain ⟨a141, p141, rfl, _⟩ := owns_form hot
  have HRD := hide (reads_of_owns hot)
  clear hot
  clear x0 x1
  replace HA := hide (HA.out.new hb141)
  replace HQ := hide (HQ.out.new hb141)
  replace T6 := hide (T6.out.new hb141)
  replace HM := hide (owns_new HM.out hb141)
  replace HBW := hide (bchain HBW.out hb141)
  have zhb141 := hb141.size
  clear hb141
  go_wp2_with fail
  have hc := implResized L room (.slice a141 L.length p141) r _ HRD.out HF.out
  rw [← HD.out] at hc
  dsimp only at hc
  refine hc.mono ?_; rintro x w142 ⟨vz, rfl, hoz, hb142⟩
  clear hc
  obtain ⟨a14, p14, rfl, _⟩ := owns_form hoz
  clear HRD
  replace HA := hide (HA.out.new hb142)
  replace HQ := hide (HQ.out.new hb142)
  replace T6 := hide (T6.out.new hb142)
  replace HM := hide (owns_new HM.out hb142)
  replace HBW := hide (bchain HBW.out hb142)
  have zhb142 := hb142.size
  clear hb142
  have t14 := tabX_new (room := dr) (p := p14) hoz (by omega)
  clear hoz
  have hb14 : Below w142.heap.size w142 (w142.alloc (.cells #[.int .i64 dr, .slice a14 dL.length p14] 36)) := (Below.refl _ _).alloc (Nat.le_refl _) _
  go_upto_region 25 with fail
  generalize w142.alloc (.cells #[.int .i64 dr, .slice a14 dL.length p14] 36) = w140 at *
  have T14 := hide t14
  have glo14 := t14.glo
  have ghi14 := t14.ghi
  clear t14
  replace HA := hide (HA.out.new hb14)
  replace HQ := hide (HQ.out.new hb14)
  replace T6 := hide (T6.out.new hb14)
  replace HM := hide (owns_new HM.out hb14)
  replace HBW := hide (bchain HBW.out hb14)
  have zhb14 := hb14.size
  clear hb14
  generalize w142.heap.size = g14 at *
  have t0 := T14.out.row.cell (j := 0) rfl
  have t1 := T14.out.row.cell (j := 1) rfl
  have s0 := T6.out.row.cell (j := 0) rfl
  have s1 := T6.out.row.cell (j := 1) rfl
  go_wp2_with fail
  refine (eqTable1 dL dr _ _ _ T14.out.read T6.out.read).mono ?_; rintro x w17 ⟨rfl, hb17⟩
  clear t0 t1 s0 s1
  replace HA := hide (HA.out.new hb17)
  replace HQ := hide (HQ.out.new hb17)
  replace T6 := hide (T6.out.new hb17)
  replace T14 := hide (T14.out.new hb17)
  replace HM := hide (owns_new HM.out hb17)
  replace HBW := hide (bchain HBW.out hb17)
  have zhb17 := hb17.size
  clear hb17
  have t0 := HQ.out.cell (j := 0) rfl
  have t1 := HQ.out.cell (j := 1) rfl
  go_wp2_with fail
  clear t0 t1
  refine (heldTable1 dL.length 1 dr _ _ (reads_of_owns HM.out) (by omega)).mono ?_; rw [← HN9.out]; rintro x w18 ⟨rfl, hb18⟩
  replace HA := hide (HA.out.new hb18)
  replace HQ := hide (HQ.out.new hb18)
  replace T6 := hide (T6.out.new hb18)
  replace T14 := hide (T14.out.new hb18)
  replace HM := hide (owns_new HM.out hb18)
  replace HBW := hide (bchain HBW.out hb18)
  have zhb18 := hb18.size
  clear hb18
  go_wp2_with fail
  go_ret
  exact ⟨rfl, HBW.out⟩


theorem own : ownKnob Try.prog.godebug = none := by kernel_rfl
theorem laidOut : laidOutB Try.prog = true := by kernel_rfl

set_option maxRecDepth 100000 in
theorem lifted (os : Os) (started : os.Started) (H : Type) (enc : TypeId × Value → H) :
    ReturnsInHanded {} Try.checked os 6 .any (Rows.fnExactResizedSpec.pre6 enc Try.prog Try.f6 Rows.fnExactResizedRow.domain false) (Rows.fnExactResizedSpec.post enc Try.prog Try.f6 false true false false) := by
  refine returnsInHanded_of_change (C := Try.checked) own started (by kernel_rfl) Try.func6
    (ChangeSpec.witness6 (enc := enc) (C := Try.checked) false ⟨#[], #[.agg #[.int .i64 0, .slice none 0 0], .int .i64 0], []⟩ 8 (by kernel_rfl) (by kernel_rfl) (by kernel_rfl) (by kernel_rfl)) ?_
  intro W base args ds gs before hval0 hW hcnd _
  have hval : ∀ (j : Nat) t v, Try.f6.params[j]? = some t → args[j]? = some v → Value.okWide Try.prog W .any base t v := hval0
  have hW' := hW
  obtain ⟨p, q, hA0, hV, rfl, hfz, hnd⟩ := hW
  have hA : DataW.TrodAll enc Try.prog W 0 (fun _ => true) true Try.f6.params.toList args.toList ds p := hA0
  rw [Try.params6] at hA hval
  obtain ⟨v0, vs0, d0, ds0, p0, q0, hargs, rfl, rfl, h0, r0⟩ := trodAll_cons hA
  obtain ⟨v1, vs1, d1, ds1, p1, q1, rfl, rfl, rfl, h1, r1⟩ := trodAll_cons r0
  obtain ⟨rfl, rfl, rfl⟩ := trodAll_nil r1
  obtain rfl : args = #[v0, v1] := by cases args; simp_all
  obtain ⟨rfl, rfl⟩ := trodVars_none hV
  have k0 := h0
  have lt0 : ∀ x ∈ p0, x.block < W.heap.size := by obtain ⟨m, hm⟩ := k0; exact DataW.trod_lt m _ _ _ hm
  have k1 := h1
  have lt1 : ∀ x ∈ p1, x.block < W.heap.size := by obtain ⟨m, hm⟩ := k1; exact DataW.trod_lt m _ _ _ hm
  obtain ⟨room, rv, L, rfl, hL, hfL⟩ := open_Table (hval 0 31 v0 rfl rfl) h0
  obtain ⟨i, rfl, rfl, rfl, _⟩ := open_int Try.underlying2 (hval 1 2 v1 rfl rfl) h1
  clear hA0 hval0
  refine (walk L room rv i W hL hfL).mono fun e W' ⟨he, bel⟩ => ?_
  subst he
  exact ⟨_, rfl, _, _, _, [], _, [], hW', trodAll_mk1 (shut_bool Try.underlying4 _), (trodAll_cons_mk (Below.trod laidOut (by kernel_rfl) (of_decide_eq_true (by kernel_rfl)) k0 bel lt0) (trodAll_cons_mk (Below.trod laidOut (by kernel_rfl) (of_decide_eq_true (by kernel_rfl)) k1 bel lt1) trodAll_mk0)), rfl, bel.frame _, fun h => by cases h⟩

theorem over : Rows.fnExactResizedRow.holds Try.pinned (OpenSpec.ofChange Rows.fnExactResizedSpec) :=
  OpenClaim.holds_of_wide 6 Try.f6 rfl rfl rfl rfl rfl rfl rfl ⟨rfl, rfl, rfl, rfl, rfl⟩ rfl rfl rfl rfl rfl (by kernel_rfl) Try.func6 (by kernel_rfl)
    (of_decide_eq_true (by kernel_rfl)) (by unfold Func.isWrapper; first | (rw [if_pos (by decide +kernel)]; kernel_rfl) | (rw [if_neg (by decide +kernel)]; exact ⟨rfl, rfl⟩))
    (fun os started H enc _ => lifted os started H enc)

end exactResized

theorem exactResized_proved : Rows.FnExactResizedSaid := exactResized.over
#print axioms exactResized_proved
end Go.Proofs.Ytaphajngogmihaa
