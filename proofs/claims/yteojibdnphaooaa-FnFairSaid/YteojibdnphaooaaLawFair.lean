/- The law FnFair returns true at every argument and leaves it as it was. No condition. -/
import Derived.Test.YteojibdnphaooaaTurnSpec2
import Derived.Test.YteojibdnphaooaaTurnQueue
import Derived.Test.YteojibdnphaooaaTurnServed
import Derived.Test.YteojibdnphaooaaTurnImpl
import Derived.Test.YteojibdnphaooaaTurnDraws
import Derived.Test.YteojibdnphaooaaTurnLaw
import Derived.Test.YteojibdnphaooaaTurnFair
import Derived.Test.YteojibdnphaooaaLikeRound
import Derived.Test.YteojibdnphaooaaPickOne
import Derived.Deep.DeepCutAuto
import Derived.Deep.RegionHeld3
import Derived.Deep.DeepMust
import Derived.WalkKit
import Derived.ProofKit
import Derived.OpenShut
import Derived.ShutString
import Derived.ChangeOld
import Derived.Below
import Derived.Lib.SmallJoins

namespace Go.Proofs.Yteojibdnphaooaa
open Go.RowKit
set_option maxRecDepth 100000
set_option linter.unusedSimpArgs false
set_option linter.unusedVariables false
namespace lawFair
set_option maxHeartbeats 8000000 in
set_option maxRecDepth 100000 in
theorem walk (a : Option Addr) (len cap : Nat) (w : World) (hl : len ≤ maxLen) (hcode : CodeAt w a len w.heap.size) :
    Calls Try.prog 3 #[.slice a len cap] w fun x w' => x = .returned (.bool true) ∧ Below w.heap.size w w' := by
  unfold maxLen at hl
  by_cases hbig : (4096 : Int) < len
  · go_enter Try.func3, Try.ntmps3
    go_wp2_with fail
    refine (big1 a len cap _).mono ?_; rw [decide_eq_true hbig]; rintro x w1 ⟨rfl, rfl⟩
    go_wp2_with fail
    go_ret
    exact ⟨rfl, Below.refl _ _⟩
  have hl' : len ≤ 4096 := by omega
  have HCODE := hide hcode
  clear hcode
  go_enter Try.func3, Try.ntmps3
  go_wp2_with fail
  refine (big1 a len cap _).mono ?_; rw [decide_eq_false (by omega)]; rintro x w0 ⟨rfl, rfl⟩
  have HBW := hide (Below.refl w0.heap.size w0)
  go_wp2_with fail
  refine (drawServed a len cap _ hl' HCODE.out).mono ?_; rintro x w1 ⟨d, v, rfl, o3, hd4, hb1⟩
  obtain ⟨a3, p3, rfl, _⟩ := o3.form
  replace HBW := hide (bchain HBW.out hb1)
  clear hb1
  go_upto_region 4 with fail
  have hbV : Below w1.heap.size w1 (w1.alloc (.cells #[.int .i64 d.turn, .bool d.given, .slice a3 d.ls.length p3] 26)) := (Below.refl _ _).alloc (Nat.le_refl _) _
  have B3 := hide (BxN.make w1 d (by first | exact o3 | exact o3.tail))
  replace HBW := hide (bchain HBW.out hbV)
  clear hbV
  generalize hV : w1.alloc (.cells #[.int .i64 d.turn, .bool d.given, .slice a3 d.ls.length p3] 26) = v1 at *
  clear hV
  clear o3
  obtain ⟨⟨xd, la, lb⟩, hD⟩ : ∃ y, y = servedD d := ⟨_, rfl⟩
  have HD := hide hD
  clear hD
  have x0 := B3.out.row.cell (j := 0) rfl
  have x1 := B3.out.row.cell (j := 1) rfl
  have x2 := B3.out.row.cell (j := 2) rfl
  have xl := B3.out.row.lt
  go_wp2_with fail
  clear x0 x1 x2 xl
  have hcl := implServed d _ _ B3.out.rd
  rw [← HD.out] at hcl
  try dsimp only at hcl
  refine hcl.mono ?_; clear hcl; rintro x w2 ⟨v2, rfl, o4, hb2⟩
  obtain ⟨a4, p4, rfl, _⟩ := o4.form
  replace B3 := hide (B3.out.new hb2)
  replace HBW := hide (bchain HBW.out hb2)
  clear hb2
  go_upto_region 5 with fail
  have hbV : Below w2.heap.size w2 (w2.alloc (.cells #[.int .i64 xd.turn, .bool xd.given, .slice a4 xd.ls.length p4] 26)) := (Below.refl _ _).alloc (Nat.le_refl _) _
  have B4 := hide (BxN.make w2 xd (by first | exact o4 | exact o4.tail))
  replace B3 := hide (B3.out.new hbV)
  replace HBW := hide (bchain HBW.out hbV)
  clear hbV
  generalize hV : w2.alloc (.cells #[.int .i64 xd.turn, .bool xd.given, .slice a4 xd.ls.length p4] 26) = v2 at *
  clear hV
  clear o4
  have x0 := B3.out.row.cell (j := 0) rfl
  have x1 := B3.out.row.cell (j := 1) rfl
  have x2 := B3.out.row.cell (j := 2) rfl
  have xl := B3.out.row.lt
  go_wp2_with fail
  clear x0 x1 x2 xl
  have hcl := specServed d _ _ B3.out.rd
  rw [← HD.out] at hcl
  try dsimp only at hcl
  refine hcl.mono ?_; clear hcl; rintro x w3 ⟨v3, rfl, o7, hb3⟩
  obtain ⟨a7, p7, rfl, _⟩ := o7.form
  replace B3 := hide (B3.out.new hb3)
  replace B4 := hide (B4.out.new hb3)
  replace HBW := hide (bchain HBW.out hb3)
  clear hb3
  go_upto_region 6 with fail
  have hbV : Below w3.heap.size w3 (w3.alloc (.cells #[.int .i64 xd.turn, .bool xd.given, .slice a7 xd.ls.length p7] 26)) := (Below.refl _ _).alloc (Nat.le_refl _) _
  have B7 := hide (BxN.make w3 xd (by first | exact o7 | exact o7.tail))
  replace B3 := hide (B3.out.new hbV)
  replace B4 := hide (B4.out.new hbV)
  replace HBW := hide (bchain HBW.out hbV)
  clear hbV
  generalize hV : w3.alloc (.cells #[.int .i64 xd.turn, .bool xd.given, .slice a7 xd.ls.length p7] 26) = v3 at *
  clear hV
  clear o7
  have x0 := B4.out.row.cell (j := 0) rfl
  have x1 := B4.out.row.cell (j := 1) rfl
  have x2 := B4.out.row.cell (j := 2) rfl
  have xl := B4.out.row.lt
  have qx0 : ∀ y : Later v3, y.w.cell? ⟨w2.heap.size, 0, none⟩ = some (.int .i64 xd.turn) := fun y => (y.b.cell (p := ⟨w2.heap.size, 0, none⟩) xl).trans x0
  have qx1 : ∀ y : Later v3, y.w.cell? ⟨w2.heap.size, 1, none⟩ = some (.bool xd.given) := fun y => (y.b.cell (p := ⟨w2.heap.size, 1, none⟩) xl).trans x1
  have qx2 : ∀ y : Later v3, y.w.cell? ⟨w2.heap.size, 2, none⟩ = some (.slice a4 xd.ls.length p4) := fun y => (y.b.cell (p := ⟨w2.heap.size, 2, none⟩) xl).trans x2
  clear x0 x1 x2
  have y0 := B7.out.row.cell (j := 0) rfl
  have y1 := B7.out.row.cell (j := 1) rfl
  have y2 := B7.out.row.cell (j := 2) rfl
  have yl := B7.out.row.lt
  have qy0 : ∀ y : Later v3, y.w.cell? ⟨w3.heap.size, 0, none⟩ = some (.int .i64 xd.turn) := fun y => (y.b.cell (p := ⟨w3.heap.size, 0, none⟩) yl).trans y0
  have qy1 : ∀ y : Later v3, y.w.cell? ⟨w3.heap.size, 1, none⟩ = some (.bool xd.given) := fun y => (y.b.cell (p := ⟨w3.heap.size, 1, none⟩) yl).trans y1
  have qy2 : ∀ y : Later v3, y.w.cell? ⟨w3.heap.size, 2, none⟩ = some (.slice a7 xd.ls.length p7) := fun y => (y.b.cell (p := ⟨w3.heap.size, 2, none⟩) yl).trans y2
  clear y0 y1 y2
  have z0 := B3.out.row.cell (j := 0) rfl
  have z1 := B3.out.row.cell (j := 1) rfl
  have z2 := B3.out.row.cell (j := 2) rfl
  have zl := B3.out.row.lt
  have qz0 : ∀ y : Later v3, y.w.cell? ⟨w1.heap.size, 0, none⟩ = some (.int .i64 d.turn) := fun y => (y.b.cell (p := ⟨w1.heap.size, 0, none⟩) zl).trans z0
  have qz1 : ∀ y : Later v3, y.w.cell? ⟨w1.heap.size, 1, none⟩ = some (.bool d.given) := fun y => (y.b.cell (p := ⟨w1.heap.size, 1, none⟩) zl).trans z1
  have qz2 : ∀ y : Later v3, y.w.cell? ⟨w1.heap.size, 2, none⟩ = some (.slice a3 d.ls.length p3) := fun y => (y.b.cell (p := ⟨w1.heap.size, 2, none⟩) zl).trans z2
  clear z0 z1 z2
  have c6 : ∀ y : Later v3, Calls Try.prog 13 #[.agg #[.int .i64 xd.turn, .bool xd.given, .slice a4 xd.ls.length p4], .agg #[.int .i64 xd.turn, .bool xd.given, .slice a7 xd.ls.length p7]] y.w fun e w' => e = .returned (.bool true) ∧ Below y.w.heap.size y.w w' := fun y => likeRound1 xd _ _ y.w (B4.out.rd.new y.b) (B7.out.rd.new y.b)
  have c11 : ∀ y : Later v3, Calls Try.prog 14 #[.agg #[.int .i64 d.turn, .bool d.given, .slice a3 d.ls.length p3]] y.w fun e w' => e = .returned (.bool (okRn d)) ∧ Below y.w.heap.size y.w w' := fun y => implRoundOk d _ y.w (B3.out.rd.new y.b)
  have c13 : ∀ y : Later v3, Calls Try.prog 15 #[.agg #[.int .i64 d.turn, .bool d.given, .slice a3 d.ls.length p3]] y.w fun e w' => e = .returned (.bool (okRn d)) ∧ Below y.w.heap.size y.w w' := fun y => specRoundOk d _ y.w (B3.out.rd.new y.b)
  generalize okRn d = bo at *
  have hbo : (bo != bo) = false := by simp
  go_wp2_with fail
  have hne : Nonempty (Later v3) := ⟨⟨v3, Below.refl _ _⟩⟩; refine region_later (by kernel_rfl) (by kernel_rfl) ?_
  repeat (go_big_quiet_step (fail))
  go_big_quiet_want; go_big_quiet_op; refine ⟨.bool true, fun y => later_calls (x := y) (c6 y), ?_⟩; go_big_quiet_on
  repeat (go_big_quiet_step (fail))
  go_big_quiet_want; go_big_quiet_op; refine ⟨.bool bo, fun y => later_calls (x := y) (c11 y), ?_⟩; go_big_quiet_on
  repeat (go_big_quiet_step (fail))
  go_big_quiet_want; go_big_quiet_op; refine ⟨.bool bo, fun y => later_calls (x := y) (c13 y), ?_⟩; go_big_quiet_on
  repeat (go_big_quiet_step (fail))
  refine wpQuiet_nil ?_; intro _ hw'; obtain ⟨y, hw''⟩ := hw'; subst hw''; have hby := y.b
  have hbS : Below v3.heap.size v3 y.w := hby
  generalize y.w = w5 at *
  clear hby hne c6 c11 c13 hbo
  clear qx0 qx1 qx2 qy0 qy1 qy2 qz0 qz1 qz2 xl yl zl
  replace B3 := hide (B3.out.new hbS)
  replace B4 := hide (B4.out.new hbS)
  replace B7 := hide (B7.out.new hbS)
  replace HBW := hide (bchain HBW.out hbS)
  clear hbS
  clear B3 B4 B7
  clear HD
  go_wp2_with fail
  refine (pick1 a len cap 1 3 _ _ hl' (HCODE.out.behind HBW.out) (by omega) (by omega) (by omega) (by omega)).mono ?_; rintro e w6 ⟨kz, kz0, kz1, rfl, hsame⟩; obtain rfl := hsame.symm; clear hsame
  go_upto_region 9 with fail
  obtain ⟨kn, hkn⟩ : ∃ n : Nat, (2 + kz : Int) = n := ⟨(2 + kz).toNat, by omega⟩
  have hk2 : 2 ≤ kn := by omega
  have hk4 : kn ≤ 4 := by omega
  rw [hkn]
  clear hkn kz0 kz1
  go_upto_region 10 with fail
  have hbV : Below w5.heap.size w5 (w5.alloc (.cells #[.int .i64 0, .bool false, .slice none 0 0] 26)) := (Below.refl _ _).alloc (Nat.le_refl _) _
  have HN : Hid (RnX (w5.alloc (.cells #[.int .i64 0, .bool false, .slice none 0 0] 26)) w5.heap.size (w5.heap.size + 1) (w5.alloc (.cells #[.int .i64 0, .bool false, .slice none 0 0] 26)).heap.size ⟨0, false, []⟩) := ⟨none, 0, rowIs_new w5 26 [.int .i64 0, .bool false, .slice none 0 0], owX_nil _ _ _⟩
  have s05 := HBW.out.size
  generalize w5.alloc (.cells #[.int .i64 0, .bool false, .slice none 0 0] 26) = V at *
  replace HBW := hide (bchain HBW.out hbV)
  clear hbV
  generalize w5.heap.size = gq at *
  go_wp2_with fail
  go_loopw [12] (fun i wr => ∃ (m : Nat) (L : List LineD), i = .int .i64 m ∧ m ≤ kn ∧ Hid (L.length = m) ∧ Hid (∀ x ∈ L, (1 ≤ x.wt ∧ x.wt ≤ 3) ∧ x.left = 0 ∧ x.sz.length = 30 ∧ ∀ z ∈ x.sz, 1 ≤ z ∧ z ≤ 100) ∧ Hid (RnX wr gq (gq + 1) wr.heap.size ⟨0, false, L⟩) ∧ Hid (Below w0.heap.size w0 wr)) (fun i _ => kn - (intOf i).toNat)
  case atStart => exact ⟨0, [], rfl, by omega, rfl, by show ∀ x ∈ [], _; simp, HN, HBW⟩
  case round =>
    clear HN HBW
    obtain ⟨m, L, rfl, hmk, HLL, HL, HN, HBW⟩ := hrel
    have hwr : gq < wr.heap.size := by obtain ⟨_, _, hh, _⟩ := HN.out.ex; exact hh.lt
    by_cases hm : m < kn
    · have hmI : (m : Int) < kn := by omega
      have w10 : IntKind.i64.wrap (10 + (m : Int)) = 10 + m := by rw [IntKind.wrap_i64]; omega
      go_wp2_with fail
      refine (pick1 a len cap (10 + (m : Int)) 3 _ _ hl' (HCODE.out.behind HBW.out) (by omega) (by omega) (by omega) (by omega)).mono ?_; rintro e w7 ⟨p, p0, p1, rfl, hsame⟩; obtain rfl := hsame.symm; clear hsame
      go_upto_region 14 with fail
      obtain ⟨X, hX⟩ : ∃ X, wr.alloc (.cells #[.int .i64 (1 + p), .int .i64 0, .slice none 0 0] 35) = X := ⟨_, rfl⟩
      have hbX : Below wr.heap.size wr X := by rw [← hX]; exact (Below.refl _ _).alloc (Nat.le_refl _) _
      have HE : Hid (RowIs X wr.heap.size 35 [.int .i64 (1 + p), .int .i64 0, .slice none 0 0]) := by show RowIs _ _ _ _; rw [← hX]; exact rowIs_new wr _ _
      rw [hX]
      replace HN := hide (HN.out.new hbX); replace HBW := hide (bchain HBW.out hbX)
      have HO : Hid (X.ownsRow (wr.heap.size + 1) 2 1 (.slice none 0 0) 0 []) := World.ownsRow_nil X (wr.heap.size + 1) 2 1
      obtain ⟨gx, hgx⟩ : ∃ gx, wr.heap.size = gx := ⟨_, rfl⟩
      rw [hgx] at HE HO HN hwr ⊢
      clear hX hbX hgx w10
      go_wp2_with fail
      go_loopw [14] (fun j wi => ∃ (q : Nat) (S : List Int) (aS : Option Addr) (pp : Nat), j = .int .i64 q ∧ q ≤ 30 ∧ Hid (S.length = q) ∧ Hid (∀ z ∈ S, 1 ≤ z ∧ z ≤ 100) ∧ Hid (RowIs wi gx 35 [.int .i64 (1 + p), .int .i64 0, .slice aS S.length pp]) ∧ Hid (wi.ownsRow (gx + 1) 2 1 (.slice aS S.length pp) S.length (iv S)) ∧ Hid (RnX wi gq (gq + 1) gx ⟨0, false, L⟩) ∧ Hid (Below w0.heap.size w0 wi)) (fun j _ => 30 - (intOf j).toNat)
      case atStart => exact ⟨0, [], none, 0, rfl, by omega, rfl, by show ∀ z ∈ [], _; simp, HE, HO, HN, HBW⟩
      case round =>
        clear HE HO HN HBW
        obtain ⟨q, S, aS, pp, rfl, hq30, HSL, HS, HE, HO, HN, HBW⟩ := hrel
        have hS30 : S.length ≤ 30 := by rw [HSL.out]; exact hq30
        by_cases hq : q < 30
        · have hqI : (q : Int) < 30 := by omega
          go_upto_region 17 with fail
          refine wp_region_any (by kernel_rfl) ?_
          change wpAny _ _ _ _ _ _ _ (World.drew _)
          obtain ⟨u0, hu0⟩ : ∃ u : World, u = World.drew wr := ⟨_, rfl⟩
          have hbu : Below wr.heap.size wr u0 := by rw [hu0]; exact bo_drewN 1 (Below.refl _ _)
          rw [← hu0]
          clear hu0
          replace HE := hide (HE.out.new hbu); replace HO := hide (owns_new HO.out hbu); replace HN := hide (HN.out.new hbu); replace HBW := hide (bchain HBW.out hbu)
          clear hbu
          have w1a : IntKind.i64.wrap (100 * (m : Int)) = 100 * m := by rw [IntKind.wrap_i64]; omega
          have w1b : IntKind.i64.wrap (100 * (m : Int) + q) = 100 * m + q := by rw [IntKind.wrap_i64]; omega
          refine wpAny_take (i := 0) (v := ?_) rfl (by kernel_rfl) (by kernel_rfl) (by kernel_rfl) (fun _ _ _ h => h) (Or.inl ⟨by rfl, ?_⟩) ?_; rotate_left; focus (intro uu; go_simp; try with_reducible rfl)
          try simp only [Act.put, List.getElem_toArray, List.getElem_cons_succ, List.getElem_cons_zero, List.setIfInBounds_toArray, List.set_cons_zero, List.set_cons_succ]
          refine wpAny_take (i := 2) (v := ?_) rfl (by kernel_rfl) (by kernel_rfl) (by kernel_rfl) (fun _ _ _ h => h) (Or.inl ⟨by rfl, ?_⟩) ?_; rotate_left; focus (intro uu; go_simp; try with_reducible rfl)
          try simp only [Act.put, List.getElem_toArray, List.getElem_cons_succ, List.getElem_cons_zero, List.setIfInBounds_toArray, List.set_cons_zero, List.set_cons_succ]
          refine wpAny_take (i := 3) (v := ?_) rfl (by kernel_rfl) (by kernel_rfl) (by kernel_rfl) (fun _ _ _ h => h) (Or.inl ⟨by rfl, ?_⟩) ?_; rotate_left; focus (intro uu; go_simp; try with_reducible rfl)
          try simp only [Act.put, List.getElem_toArray, List.getElem_cons_succ, List.getElem_cons_zero, List.setIfInBounds_toArray, List.set_cons_zero, List.set_cons_succ]
          refine wpAny_take (i := 4) (v := ?_) rfl (by kernel_rfl) (by kernel_rfl) (by kernel_rfl) (fun _ _ _ h => h) (Or.inl ⟨by rfl, ?_⟩) ?_; rotate_left; focus (intro uu; go_simp; try with_reducible rfl)
          try simp only [Act.put, List.getElem_toArray, List.getElem_cons_succ, List.getElem_cons_zero, List.setIfInBounds_toArray, List.set_cons_zero, List.set_cons_succ]
          refine wpAny_take (i := 5) (v := ?_) rfl (by kernel_rfl) (by kernel_rfl) (by kernel_rfl) (fun _ _ _ h => h) (Or.inl ⟨by rfl, ?_⟩) ?_; rotate_left; focus (intro uu; go_simp; try with_reducible rfl)
          try simp only [Act.put, List.getElem_toArray, List.getElem_cons_succ, List.getElem_cons_zero, List.setIfInBounds_toArray, List.set_cons_zero, List.set_cons_succ]
          refine wpAny_take (i := 6) (v := ?_) rfl (by kernel_rfl) (by kernel_rfl) (by kernel_rfl) (fun _ _ _ h => h) (Or.inl ⟨by rfl, ?_⟩) ?_; rotate_left; focus (intro uu; go_simp; try with_reducible rfl)
          try simp only [Act.put, List.getElem_toArray, List.getElem_cons_succ, List.getElem_cons_zero, List.setIfInBounds_toArray, List.set_cons_zero, List.set_cons_succ]
          refine wpAny_ready (rs := [1, 7]) (by kernel_rfl) (by simp) ?_
          refine (AllReady.cons rfl (fun K hK => ?_) (AllReady.cons rfl (fun K hK => ?_) AllReady.nil))
          · skip
            try rw [if_pos (by kernel_rfl)]
            have l2 := HE.out.cell (j := 2) rfl
            have ll := HE.out.lt
            go_simp
            refine hK _ _ ?_; clear hK K
            clear l2 ll
            try simp only [Act.put, List.getElem_toArray, List.getElem_cons_succ, List.getElem_cons_zero, List.setIfInBounds_toArray, List.set_cons_zero, List.set_cons_succ]
            refine wpAny_ready (rs := [7]) (by kernel_rfl) (by simp) ?_
            refine (AllReady.cons rfl (fun K hK => ?_) AllReady.nil)
            try rw [if_pos (by kernel_rfl)]
            go_simp
            refine (pick1 a len cap (100 * (m : Int) + q) 100 _ _ hl' (HCODE.out.behind HBW.out) (by omega) (by omega) (by omega) (by omega)).mono ?_; rintro e y2 ⟨z, z0, z1, rfl, hsame⟩
            subst hsame
            have wz : IntKind.i64.wrap (1 + z) = 1 + z := by rw [IntKind.wrap_i64]; omega
            refine hK _ _ ?_; clear hK K
            try simp only [Act.put, List.getElem_toArray, List.getElem_cons_succ, List.getElem_cons_zero, List.setIfInBounds_toArray, List.set_cons_zero, List.set_cons_succ]
            refine wpAny_take (i := 8) (v := ?_) rfl (by kernel_rfl) (by kernel_rfl) (by kernel_rfl) (fun _ _ _ h => h) (Or.inl ⟨by rfl, ?_⟩) ?_; rotate_left; focus (intro uu; go_simp; try with_reducible rfl)
            try simp only [Act.put, List.getElem_toArray, List.getElem_cons_succ, List.getElem_cons_zero, List.setIfInBounds_toArray, List.set_cons_zero, List.set_cons_succ]
            refine wpAny_ready (rs := [9]) (by kernel_rfl) (by simp) ?_
            refine (AllReady.cons rfl (fun K hK => ?_) AllReady.nil)
            try rw [if_pos (by kernel_rfl)]
            go_simp
            obtain ⟨y3, hX⟩ : ∃ u, y2.alloc (.cells #[.int .i64 (1 + z)] 2) = u := ⟨_, rfl⟩
            have hbX : Below y2.heap.size y2 y3 := by rw [← hX]; exact (Below.refl _ _).alloc (Nat.le_refl _) _
            have HR1 : Hid (Reads y3 (.slice (some ⟨y2.heap.size, 0, none⟩) 1 1) 1 1 (iv [1 + z])) := by show Reads _ _ _ _ _; rw [← hX]; exact reads_of_owns (owns_lit y2 2 1 1 #[.int .i64 (1 + z)] rfl (by omega))
            replace HE := hide (HE.out.new hbX); replace HO := hide (owns_new HO.out hbX); replace HN := hide (HN.out.new hbX); replace HBW := hide (bchain HBW.out hbX)
            rw [hX]
            clear hX hbX
            refine hK _ _ ?_; clear hK K
            try simp only [Act.put, List.getElem_toArray, List.getElem_cons_succ, List.getElem_cons_zero, List.setIfInBounds_toArray, List.set_cons_zero, List.set_cons_succ]
            refine wpAny_ready (rs := [10]) (by kernel_rfl) (by simp) ?_
            refine (AllReady.cons rfl (fun K hK => ?_) AllReady.nil)
            refine step_app _ (by rfl) _ _ 33 (by rfl) 2 (.int .i64 0) 1 8 Try.underlying33 (by kernel_rfl) rfl (by decide) (gx + 1) _ S.length (iv S) (by rfl) HO.out _ 1 (iv [1 + z]) (by rfl) HR1.out (iv_one _) (by omega) (by decide) (by have := HE.out.lt; omega) ?_
            intro ad7 cap7 y4 hown7 hg7 hat7
            have hlt7 := fun k (e : (Value.slice aS S.length pp).ownBlock = some k) => (HO.out.lt k e).1
            have HE7 := hide (HE.out.kept (hg7.block gx HE.out.lt (fun e => by have := hlt7 _ e.symm; omega)))
            have HN7 := hide (HN.out.turn (lo' := gx + 1) (hi' := y4.heap.size + 1) ⟨hg7.os, hg7.tape, hg7.output, hg7.size, fun k hk ho => hg7.block k hk (fun e => by have := hlt7 _ e.symm; have := hg7.size; omega)⟩ (by omega) (by omega))
            have HB7 := hide (HBW.out.grown hg7 HBW.out.size (fun k hk => by have := hlt7 k hk; omega))
            have HO7 := hide hown7
            clear hown7 hat7 hg7 hlt7 HE HO HBW HN HR1
            refine hK _ _ ?_; clear hK K
            have t2 := HE7.out.cell (j := 2) rfl
            have tf := HE7.out.frozen 2
            have tl := HE7.out.lt
            try simp only [Act.put, List.getElem_toArray, List.getElem_cons_succ, List.getElem_cons_zero, List.setIfInBounds_toArray, List.set_cons_zero, List.set_cons_succ]
            refine wpAny_take (i := 11) (v := ?_) rfl (by kernel_rfl) (by kernel_rfl) (by kernel_rfl) (fun _ _ _ h => h) (Or.inl ⟨by rfl, ?_⟩) ?_; rotate_left; focus (intro uu; go_simp; try with_reducible rfl)
            try simp only [Act.put, List.getElem_toArray, List.getElem_cons_succ, List.getElem_cons_zero, List.setIfInBounds_toArray, List.set_cons_zero, List.set_cons_succ]
            refine wpAny_ready (rs := [12]) (by kernel_rfl) (by simp) ?_
            refine (AllReady.cons rfl (fun K hK => ?_) AllReady.nil)
            try rw [if_pos (by kernel_rfl)]
            go_simp

            refine hK _ _ ?_; clear hK K
            try simp only [Act.put, List.getElem_toArray, List.getElem_cons_succ, List.getElem_cons_zero, List.setIfInBounds_toArray, List.set_cons_zero, List.set_cons_succ]
            refine wpAny_done (by kernel_rfl) ?_ _
            have hob : ∀ k, (Value.slice ad7 (S.length + 1) cap7).ownBlock = some k → gx + 1 ≤ k := fun k e => (HO7.out.lt k e).1
            have HE8 : Hid (RowIs (y4.setCell ⟨gx, 2, none⟩ (.slice ad7 (S.length + 1) cap7)) gx 35 [.int .i64 (1 + p), .int .i64 0, .slice ad7 (S ++ [1 + z]).length cap7]) := by
              show RowIs _ _ _ _
              have := HE7.out.set 2 (.slice ad7 (S.length + 1) cap7)
              simpa using this
            have HO8 : Hid ((y4.setCell ⟨gx, 2, none⟩ (.slice ad7 (S.length + 1) cap7)).ownsRow (gx + 1) 2 1 (.slice ad7 (S ++ [1 + z]).length cap7) (S ++ [1 + z]).length (iv (S ++ [1 + z]))) := by
              show World.ownsRow _ _ _ _ _ _ _
              have := owns_apart HO7.out ⟨gx, 2, none⟩ (.slice ad7 (S.length + 1) cap7) (fun e => absurd (hob _ e) (by show ¬ gx + 1 ≤ gx; omega))
              simpa [iv_app] using this
            have HN8 := hide (HN7.out.far ⟨gx, 2, none⟩ (.slice ad7 (S.length + 1) cap7) (by simp; omega) (.inr (Nat.le_refl _)))
            have HB8 := hide (HB7.out.setCell (p := ⟨gx, 2, none⟩) (show w0.heap.size ≤ gx by omega) (.slice ad7 (S.length + 1) cap7))
            have HS8 : Hid (∀ y ∈ S ++ [1 + z], 1 ≤ y ∧ y ≤ 100) := by
              show ∀ y ∈ S ++ [1 + z], _
              intro y hy
              rcases List.mem_append.1 hy with h | h
              · exact HS.out y h
              · simp at h; omega
            have HSL8 : Hid ((S ++ [1 + z]).length = q + 1) := by show _ = _; have := HSL.out; simp; omega
            clear t2 tf tl HE7 HO7 HN7 HB7 hob w1a w1b wz
            generalize y4.setCell ⟨gx, 2, none⟩ (.slice ad7 (S.length + 1) cap7) = w9 at *
            go_wp2_with fail
            go_roundw
            case rel => exact ⟨q + 1, S ++ [1 + z], ad7, cap7, by go_num, by omega, HSL8, HS8, HE8, HO8, HN8, HB8⟩
            case measure => simp [intOf]; omega
          · skip
            try rw [if_pos (by kernel_rfl)]
            go_simp
            refine (pick1 a len cap (100 * (m : Int) + q) 100 _ _ hl' (HCODE.out.behind HBW.out) (by omega) (by omega) (by omega) (by omega)).mono ?_; rintro e y6 ⟨z, z0, z1, rfl, hsame⟩
            subst hsame
            have wz : IntKind.i64.wrap (1 + z) = 1 + z := by rw [IntKind.wrap_i64]; omega
            refine hK _ _ ?_; clear hK K
            try simp only [Act.put, List.getElem_toArray, List.getElem_cons_succ, List.getElem_cons_zero, List.setIfInBounds_toArray, List.set_cons_zero, List.set_cons_succ]
            refine wpAny_take (i := 8) (v := ?_) rfl (by kernel_rfl) (by kernel_rfl) (by kernel_rfl) (fun _ _ _ h => h) (Or.inl ⟨by rfl, ?_⟩) ?_; rotate_left; focus (intro uu; go_simp; try with_reducible rfl)
            try simp only [Act.put, List.getElem_toArray, List.getElem_cons_succ, List.getElem_cons_zero, List.setIfInBounds_toArray, List.set_cons_zero, List.set_cons_succ]
            refine wpAny_ready (rs := [1, 9]) (by kernel_rfl) (by simp) ?_
            refine (AllReady.cons rfl (fun K hK => ?_) (AllReady.cons rfl (fun K hK => ?_) AllReady.nil))
            · skip
              try rw [if_pos (by kernel_rfl)]
              have l2 := HE.out.cell (j := 2) rfl
              have ll := HE.out.lt
              go_simp
              refine hK _ _ ?_; clear hK K
              clear l2 ll
              try simp only [Act.put, List.getElem_toArray, List.getElem_cons_succ, List.getElem_cons_zero, List.setIfInBounds_toArray, List.set_cons_zero, List.set_cons_succ]
              refine wpAny_ready (rs := [9]) (by kernel_rfl) (by simp) ?_
              refine (AllReady.cons rfl (fun K hK => ?_) AllReady.nil)
              try rw [if_pos (by kernel_rfl)]
              go_simp
              obtain ⟨y8, hX⟩ : ∃ u, y6.alloc (.cells #[.int .i64 (1 + z)] 2) = u := ⟨_, rfl⟩
              have hbX : Below y6.heap.size y6 y8 := by rw [← hX]; exact (Below.refl _ _).alloc (Nat.le_refl _) _
              have HR1 : Hid (Reads y8 (.slice (some ⟨y6.heap.size, 0, none⟩) 1 1) 1 1 (iv [1 + z])) := by show Reads _ _ _ _ _; rw [← hX]; exact reads_of_owns (owns_lit y6 2 1 1 #[.int .i64 (1 + z)] rfl (by omega))
              replace HE := hide (HE.out.new hbX); replace HO := hide (owns_new HO.out hbX); replace HN := hide (HN.out.new hbX); replace HBW := hide (bchain HBW.out hbX)
              rw [hX]
              clear hX hbX
              refine hK _ _ ?_; clear hK K
              try simp only [Act.put, List.getElem_toArray, List.getElem_cons_succ, List.getElem_cons_zero, List.setIfInBounds_toArray, List.set_cons_zero, List.set_cons_succ]
              refine wpAny_ready (rs := [10]) (by kernel_rfl) (by simp) ?_
              refine (AllReady.cons rfl (fun K hK => ?_) AllReady.nil)
              refine step_app _ (by rfl) _ _ 33 (by rfl) 2 (.int .i64 0) 1 8 Try.underlying33 (by kernel_rfl) rfl (by decide) (gx + 1) _ S.length (iv S) (by rfl) HO.out _ 1 (iv [1 + z]) (by rfl) HR1.out (iv_one _) (by omega) (by decide) (by have := HE.out.lt; omega) ?_
              intro ad7 cap7 y9 hown7 hg7 hat7
              have hlt7 := fun k (e : (Value.slice aS S.length pp).ownBlock = some k) => (HO.out.lt k e).1
              have HE7 := hide (HE.out.kept (hg7.block gx HE.out.lt (fun e => by have := hlt7 _ e.symm; omega)))
              have HN7 := hide (HN.out.turn (lo' := gx + 1) (hi' := y9.heap.size + 1) ⟨hg7.os, hg7.tape, hg7.output, hg7.size, fun k hk ho => hg7.block k hk (fun e => by have := hlt7 _ e.symm; have := hg7.size; omega)⟩ (by omega) (by omega))
              have HB7 := hide (HBW.out.grown hg7 HBW.out.size (fun k hk => by have := hlt7 k hk; omega))
              have HO7 := hide hown7
              clear hown7 hat7 hg7 hlt7 HE HO HBW HN HR1
              refine hK _ _ ?_; clear hK K
              have t2 := HE7.out.cell (j := 2) rfl
              have tf := HE7.out.frozen 2
              have tl := HE7.out.lt
              try simp only [Act.put, List.getElem_toArray, List.getElem_cons_succ, List.getElem_cons_zero, List.setIfInBounds_toArray, List.set_cons_zero, List.set_cons_succ]
              refine wpAny_take (i := 11) (v := ?_) rfl (by kernel_rfl) (by kernel_rfl) (by kernel_rfl) (fun _ _ _ h => h) (Or.inl ⟨by rfl, ?_⟩) ?_; rotate_left; focus (intro uu; go_simp; try with_reducible rfl)
              try simp only [Act.put, List.getElem_toArray, List.getElem_cons_succ, List.getElem_cons_zero, List.setIfInBounds_toArray, List.set_cons_zero, List.set_cons_succ]
              refine wpAny_ready (rs := [12]) (by kernel_rfl) (by simp) ?_
              refine (AllReady.cons rfl (fun K hK => ?_) AllReady.nil)
              try rw [if_pos (by kernel_rfl)]
              go_simp

              refine hK _ _ ?_; clear hK K
              try simp only [Act.put, List.getElem_toArray, List.getElem_cons_succ, List.getElem_cons_zero, List.setIfInBounds_toArray, List.set_cons_zero, List.set_cons_succ]
              refine wpAny_done (by kernel_rfl) ?_ _
              have hob : ∀ k, (Value.slice ad7 (S.length + 1) cap7).ownBlock = some k → gx + 1 ≤ k := fun k e => (HO7.out.lt k e).1
              have HE8 : Hid (RowIs (y9.setCell ⟨gx, 2, none⟩ (.slice ad7 (S.length + 1) cap7)) gx 35 [.int .i64 (1 + p), .int .i64 0, .slice ad7 (S ++ [1 + z]).length cap7]) := by
                show RowIs _ _ _ _
                have := HE7.out.set 2 (.slice ad7 (S.length + 1) cap7)
                simpa using this
              have HO8 : Hid ((y9.setCell ⟨gx, 2, none⟩ (.slice ad7 (S.length + 1) cap7)).ownsRow (gx + 1) 2 1 (.slice ad7 (S ++ [1 + z]).length cap7) (S ++ [1 + z]).length (iv (S ++ [1 + z]))) := by
                show World.ownsRow _ _ _ _ _ _ _
                have := owns_apart HO7.out ⟨gx, 2, none⟩ (.slice ad7 (S.length + 1) cap7) (fun e => absurd (hob _ e) (by show ¬ gx + 1 ≤ gx; omega))
                simpa [iv_app] using this
              have HN8 := hide (HN7.out.far ⟨gx, 2, none⟩ (.slice ad7 (S.length + 1) cap7) (by simp; omega) (.inr (Nat.le_refl _)))
              have HB8 := hide (HB7.out.setCell (p := ⟨gx, 2, none⟩) (show w0.heap.size ≤ gx by omega) (.slice ad7 (S.length + 1) cap7))
              have HS8 : Hid (∀ y ∈ S ++ [1 + z], 1 ≤ y ∧ y ≤ 100) := by
                show ∀ y ∈ S ++ [1 + z], _
                intro y hy
                rcases List.mem_append.1 hy with h | h
                · exact HS.out y h
                · simp at h; omega
              have HSL8 : Hid ((S ++ [1 + z]).length = q + 1) := by show _ = _; have := HSL.out; simp; omega
              clear t2 tf tl HE7 HO7 HN7 HB7 hob w1a w1b wz
              generalize y9.setCell ⟨gx, 2, none⟩ (.slice ad7 (S.length + 1) cap7) = w9 at *
              go_wp2_with fail
              go_roundw
              case rel => exact ⟨q + 1, S ++ [1 + z], ad7, cap7, by go_num, by omega, HSL8, HS8, HE8, HO8, HN8, HB8⟩
              case measure => simp [intOf]; omega
            · skip
              try rw [if_pos (by kernel_rfl)]
              go_simp
              obtain ⟨y11, hX⟩ : ∃ u, y6.alloc (.cells #[.int .i64 (1 + z)] 2) = u := ⟨_, rfl⟩
              have hbX : Below y6.heap.size y6 y11 := by rw [← hX]; exact (Below.refl _ _).alloc (Nat.le_refl _) _
              have HR1 : Hid (Reads y11 (.slice (some ⟨y6.heap.size, 0, none⟩) 1 1) 1 1 (iv [1 + z])) := by show Reads _ _ _ _ _; rw [← hX]; exact reads_of_owns (owns_lit y6 2 1 1 #[.int .i64 (1 + z)] rfl (by omega))
              replace HE := hide (HE.out.new hbX); replace HO := hide (owns_new HO.out hbX); replace HN := hide (HN.out.new hbX); replace HBW := hide (bchain HBW.out hbX)
              rw [hX]
              clear hX hbX
              refine hK _ _ ?_; clear hK K
              try simp only [Act.put, List.getElem_toArray, List.getElem_cons_succ, List.getElem_cons_zero, List.setIfInBounds_toArray, List.set_cons_zero, List.set_cons_succ]
              refine wpAny_ready (rs := [1]) (by kernel_rfl) (by simp) ?_
              refine (AllReady.cons rfl (fun K hK => ?_) AllReady.nil)
              try rw [if_pos (by kernel_rfl)]
              have l2 := HE.out.cell (j := 2) rfl
              have ll := HE.out.lt
              go_simp
              refine hK _ _ ?_; clear hK K
              clear l2 ll
              try simp only [Act.put, List.getElem_toArray, List.getElem_cons_succ, List.getElem_cons_zero, List.setIfInBounds_toArray, List.set_cons_zero, List.set_cons_succ]
              refine wpAny_ready (rs := [10]) (by kernel_rfl) (by simp) ?_
              refine (AllReady.cons rfl (fun K hK => ?_) AllReady.nil)
              refine step_app _ (by rfl) _ _ 33 (by rfl) 2 (.int .i64 0) 1 8 Try.underlying33 (by kernel_rfl) rfl (by decide) (gx + 1) _ S.length (iv S) (by rfl) HO.out _ 1 (iv [1 + z]) (by rfl) HR1.out (iv_one _) (by omega) (by decide) (by have := HE.out.lt; omega) ?_
              intro ad7 cap7 y13 hown7 hg7 hat7
              have hlt7 := fun k (e : (Value.slice aS S.length pp).ownBlock = some k) => (HO.out.lt k e).1
              have HE7 := hide (HE.out.kept (hg7.block gx HE.out.lt (fun e => by have := hlt7 _ e.symm; omega)))
              have HN7 := hide (HN.out.turn (lo' := gx + 1) (hi' := y13.heap.size + 1) ⟨hg7.os, hg7.tape, hg7.output, hg7.size, fun k hk ho => hg7.block k hk (fun e => by have := hlt7 _ e.symm; have := hg7.size; omega)⟩ (by omega) (by omega))
              have HB7 := hide (HBW.out.grown hg7 HBW.out.size (fun k hk => by have := hlt7 k hk; omega))
              have HO7 := hide hown7
              clear hown7 hat7 hg7 hlt7 HE HO HBW HN HR1
              refine hK _ _ ?_; clear hK K
              have t2 := HE7.out.cell (j := 2) rfl
              have tf := HE7.out.frozen 2
              have tl := HE7.out.lt
              try simp only [Act.put, List.getElem_toArray, List.getElem_cons_succ, List.getElem_cons_zero, List.setIfInBounds_toArray, List.set_cons_zero, List.set_cons_succ]
              refine wpAny_take (i := 11) (v := ?_) rfl (by kernel_rfl) (by kernel_rfl) (by kernel_rfl) (fun _ _ _ h => h) (Or.inl ⟨by rfl, ?_⟩) ?_; rotate_left; focus (intro uu; go_simp; try with_reducible rfl)
              try simp only [Act.put, List.getElem_toArray, List.getElem_cons_succ, List.getElem_cons_zero, List.setIfInBounds_toArray, List.set_cons_zero, List.set_cons_succ]
              refine wpAny_ready (rs := [12]) (by kernel_rfl) (by simp) ?_
              refine (AllReady.cons rfl (fun K hK => ?_) AllReady.nil)
              try rw [if_pos (by kernel_rfl)]
              go_simp

              refine hK _ _ ?_; clear hK K
              try simp only [Act.put, List.getElem_toArray, List.getElem_cons_succ, List.getElem_cons_zero, List.setIfInBounds_toArray, List.set_cons_zero, List.set_cons_succ]
              refine wpAny_done (by kernel_rfl) ?_ _
              have hob : ∀ k, (Value.slice ad7 (S.length + 1) cap7).ownBlock = some k → gx + 1 ≤ k := fun k e => (HO7.out.lt k e).1
              have HE8 : Hid (RowIs (y13.setCell ⟨gx, 2, none⟩ (.slice ad7 (S.length + 1) cap7)) gx 35 [.int .i64 (1 + p), .int .i64 0, .slice ad7 (S ++ [1 + z]).length cap7]) := by
                show RowIs _ _ _ _
                have := HE7.out.set 2 (.slice ad7 (S.length + 1) cap7)
                simpa using this
              have HO8 : Hid ((y13.setCell ⟨gx, 2, none⟩ (.slice ad7 (S.length + 1) cap7)).ownsRow (gx + 1) 2 1 (.slice ad7 (S ++ [1 + z]).length cap7) (S ++ [1 + z]).length (iv (S ++ [1 + z]))) := by
                show World.ownsRow _ _ _ _ _ _ _
                have := owns_apart HO7.out ⟨gx, 2, none⟩ (.slice ad7 (S.length + 1) cap7) (fun e => absurd (hob _ e) (by show ¬ gx + 1 ≤ gx; omega))
                simpa [iv_app] using this
              have HN8 := hide (HN7.out.far ⟨gx, 2, none⟩ (.slice ad7 (S.length + 1) cap7) (by simp; omega) (.inr (Nat.le_refl _)))
              have HB8 := hide (HB7.out.setCell (p := ⟨gx, 2, none⟩) (show w0.heap.size ≤ gx by omega) (.slice ad7 (S.length + 1) cap7))
              have HS8 : Hid (∀ y ∈ S ++ [1 + z], 1 ≤ y ∧ y ≤ 100) := by
                show ∀ y ∈ S ++ [1 + z], _
                intro y hy
                rcases List.mem_append.1 hy with h | h
                · exact HS.out y h
                · simp at h; omega
              have HSL8 : Hid ((S ++ [1 + z]).length = q + 1) := by show _ = _; have := HSL.out; simp; omega
              clear t2 tf tl HE7 HO7 HN7 HB7 hob w1a w1b wz
              generalize y13.setCell ⟨gx, 2, none⟩ (.slice ad7 (S.length + 1) cap7) = w9 at *
              go_wp2_with fail
              go_roundw
              case rel => exact ⟨q + 1, S ++ [1 + z], ad7, cap7, by go_num, by omega, HSL8, HS8, HE8, HO8, HN8, HB8⟩
              case measure => simp [intOf]; omega
        · obtain rfl : q = 30 := by omega
          have hX2 : Below wr.heap.size wr (wr.alloc (.cells #[.int .i64 (1 + p), .int .i64 0, .slice aS S.length pp] 35)) := (Below.refl _ _).alloc (Nat.le_refl _) _
          have hRd : Reads (wr.alloc (.cells #[.int .i64 (1 + p), .int .i64 0, .slice aS S.length pp] 35)) (.slice (some ⟨wr.heap.size, 0, none⟩) 1 1) 1 3 [.int .i64 (1 + p), .int .i64 0, .slice aS S.length pp] := reads_of_owns (owns_lit wr 35 3 1 #[.int .i64 (1 + p), .int .i64 0, .slice aS S.length pp] rfl (by omega))
          obtain ⟨a1, p1, hrow0, _⟩ := HN.out.ex
          have n2 := hrow0.cell (j := 2) rfl
          have nl := hrow0.lt
          have e0 := HE.out.cell (j := 0) rfl
          have e1 := HE.out.cell (j := 1) rfl
          have e2 := HE.out.cell (j := 2) rfl
          have el := HE.out.lt
          obtain ⟨a1', p1', hrow1, hO1⟩ := (HN.out.new hX2).ex
          obtain ⟨rfl, rfl⟩ : a1' = a1 ∧ p1' = p1 := by
            have h1 := hrow1.cell (j := 2) rfl
            have h2 := (hrow0.new hX2).cell (j := 2) rfl
            rw [h1] at h2
            simp only [Option.some.injEq, Value.slice.injEq] at h2
            exact ⟨h2.1, h2.2.2⟩
          clear hrow0
          have hgb : (Value.slice a1' L.length p1').ownBlock ≠ some gq := fun e => by have := (hO1.own _ e).1; omega
          have hmidX : gx ≤ (wr.alloc (.cells #[.int .i64 (1 + p), .int .i64 0, .slice aS S.length pp] 35)).heap.size := by have := hX2.size; omega
          have hbnd := fun k (e : (Value.slice a1' L.length p1').ownBlock = some k) => hO1.own k e
          obtain ⟨xs, hown, hgrow⟩ := hO1.grow hmidX (by omega)
          have hx : OwE lineS (wr.alloc (.cells #[.int .i64 (1 + p), .int .i64 0, .slice aS S.length pp] 35)) gx (wr.alloc (.cells #[.int .i64 (1 + p), .int .i64 0, .slice aS S.length pp] 35)).heap.size [.int .i64 (1 + p), .int .i64 0, .slice aS S.length pp] ⟨1 + p, 0, S⟩ := (line_owe (x := ⟨1 + p, 0, S⟩) (owns_new HO.out hX2) (Nat.le_refl _)).wide (by omega) (Nat.le_refl _)
          have HGR := hide hgrow; have HX := hide hx; have HRW := hide hrow1; have HBN := hide hbnd
          replace HBW := hide (bchain HBW.out hX2)
          have hL4 : L.length ≤ 4 := by rw [HLL.out]; omega
          clear hgrow hx hrow1 hbnd hO1 hX2 hmidX
          go_upto_region 18 with fail
          go_wp2_with (at_builtin; go_must (refine wpList_app _ (by rfl) _ _ 24 (by rfl) 35 (.agg #[.int .i64 0, .int .i64 0, .slice none 0 0]) 3 40 Try.underlying24 (by kernel_rfl) rfl (by decide) 0 _ L.length xs (by rfl) hown _ 1 [.int .i64 (1 + p), .int .i64 0, .slice aS S.length pp] (by rfl) hRd line_one (by omega) (by decide) (Nat.zero_le _) ?_))
          intro ad7 cap7 w7 hown7 hg7 hat7
          have hox := HGR.out w7 (.slice ad7 (L.length + 1) cap7) _ _ HX.out hown7 hg7 (by simpa using hat7)
          have HN7 : Hid (RnX (w7.setCell ⟨gq, 2, none⟩ (.slice ad7 (L.length + 1) cap7)) gq (gq + 1) w7.heap.size ⟨0, false, L ++ [⟨1 + p, 0, S⟩]⟩) := RnX.app (d := ⟨0, false, L⟩) HRW.out (by omega) hgb hg7 hox
          have hr7 := HRW.out.kept (hg7.block _ HRW.out.lt (fun e => hgb e.symm))
          have m2 := hr7.cell (j := 2) rfl
          have mf := hr7.frozen 2
          have ml := hr7.lt
          have HB7 := hide ((HBW.out.grown hg7 HBW.out.size (fun k hk => by have := (HBN.out k hk).1; omega)).setCell (p := ⟨gq, 2, none⟩) s05 (.slice ad7 (L.length + 1) cap7))
          replace HN := hide HN7.out.top
          have HL7 : Hid (∀ x ∈ L ++ [(⟨1 + p, 0, S⟩ : LineD)], (1 ≤ x.wt ∧ x.wt ≤ 3) ∧ x.left = 0 ∧ x.sz.length = 30 ∧ ∀ z ∈ x.sz, 1 ≤ z ∧ z ≤ 100) := by
            show ∀ x ∈ L ++ [(⟨1 + p, 0, S⟩ : LineD)], _
            intro x hx
            rcases List.mem_append.1 hx with h | h
            · exact HL.out x h
            · simp at h; subst h; exact ⟨⟨by simp only; omega, by simp only; omega⟩, rfl, HSL.out, HS.out⟩
          have HLL7 : Hid ((L ++ [(⟨1 + p, 0, S⟩ : LineD)]).length = m + 1) := by show _ = _; have := HLL.out; simp; omega
          clear hown7 hg7 hat7 hox hr7 HN7 HGR HX HRW HBN hown hRd n2 nl e0 e1 e2 el HE HO HBW
          go_wp2_with fail
          go_roundw
          case rel => exact ⟨m + 1, L ++ [⟨1 + p, 0, S⟩], by go_num, by omega, HLL7, HL7, HN, HB7⟩
          case measure => simp [intOf]; omega
    · have ekm : kn = m := by omega
      subst ekm
      obtain ⟨M, hM, hMl, hmk⟩ := make_zeros11 kn (by omega)
      obtain ⟨a1, p1, hrow, hO⟩ := HN.out.ex
      have BY : Hid (BxN wr gq (gq + 1) wr.heap.size ⟨0, false, L⟩ a1 p1) := ⟨hrow, hO.tail⟩
      have HF0 : Hid (Fair kn ⟨0, false, L⟩ 0 0 (fun _ => 0) ∧ (∀ i, i < kn → 3 ≤ (ln L i).sz.length)) := by
        have hg : ∀ i, i < kn → ln L i ∈ L := fun i hi => by rw [ln_get (by rw [HLL.out]; exact hi)]; exact List.getElem_mem _
        have hok : okRn ⟨0, false, L⟩ = true := okRn_iff.2 ⟨⟨by simp only; rw [HLL.out]; omega, by simp only; rw [HLL.out]; omega⟩, ⟨by simp, by simp only; rw [HLL.out]; omega⟩, fun x hx => by
          obtain ⟨⟨q1, q2⟩, q3, q4, q5⟩ := HL.out x hx
          exact okLn_iff.2 ⟨⟨q1, by omega⟩, ⟨by omega, by omega⟩, by omega, q5⟩⟩
        refine ⟨⟨hok, HLL.out, hk2, fun i hi => (HL.out _ (hg i hi)).1, rfl, by omega, .inr ⟨rfl, rfl, rfl, by have := (HL.out _ (hg 0 (by omega))).2.1; simp only; omega⟩, fun i hi => ?_, fun i hi _ => by have := (HL.out _ (hg i hi)).2.1; simp only; omega, by have := (HL.out _ (hg 0 (by omega))).2.1; simp only; omega⟩, fun i hi => by have := (HL.out _ (hg i hi)).2.2.1; omega⟩
        have h0 := (HL.out _ (hg i hi)).2.1
        have hf : fac 0 false i = 0 := by unfold fac; rw [if_neg (by simp)]
        simp only [hf, h0]; simp
      clear hrow hO HN HLL HL
      go_upto_region 20 with fail
      have hbM : Below wr.heap.size wr (wr.alloc (.cells M 2)) := (Below.refl _ _).alloc (Nat.le_refl _) _
      have hoM := owns_made wr M 2 1 kn (by omega) (by omega)
      rw [hMl] at hoM
      have sM := hbM.size
      have szM : (wr.alloc (.cells M 2)).heap.size = wr.heap.size + 1 := by simp
      have HSM : Hid ((wr.alloc (.cells M 2)).ownsRow wr.heap.size 2 1 (.slice (some ⟨wr.heap.size, 0, none⟩) kn kn) kn (iv ((List.range kn).map (fun _ => (0 : Int))))) := by
        show World.ownsRow _ _ _ _ _ _ _
        have e : (List.range kn).map (fun _ => (0 : Int)) = List.replicate kn 0 := by simp [List.map_const']
        rw [e]; exact hoM
      replace BY := hide (BY.out.new hbM); replace HBW := hide (bchain HBW.out hbM)
      generalize wr.alloc (.cells M 2) = W at *
      have hgs : gq < wr.heap.size := hwr
      generalize wr.heap.size = gs at *
      clear hbM hoM hmk hMl hM sM
      go_wp2_with fail
      go_loopw [16, 17, 18] (fun r l s wr => ∃ (st last : Nat) (rounds : Int) (yd : RoundD) (sm : Nat → Int) (lo hi : Nat) (ay : Option Addr) (py : Nat), s = .int .i64 st ∧ l = .int .i64 last ∧ r = .int .i64 rounds ∧ st ≤ 40 ∧ 0 ≤ rounds ∧ rounds ≤ st ∧ last < kn ∧ Hid (Fair kn yd last rounds sm ∧ (∀ i, i < kn → 3 ≤ (ln yd.ls i).sz.length) ∧ ∀ i, i < kn → 0 ≤ sm i ∧ sm i ≤ 100 * st) ∧ Hid (BxN wr gq lo hi yd ay py) ∧ Hid (wr.ownsRow gs 2 1 (.slice (some ⟨gs, 0, none⟩) kn kn) kn (iv ((List.range kn).map sm))) ∧ Hid (Below w0.heap.size w0 wr)) (fun _ _ s _ => 40 - (intOf s).toNat)
      case atStart => exact ⟨0, 0, 0, ⟨0, false, L⟩, fun _ => 0, _, _, a1, p1, rfl, rfl, rfl, by omega, by omega, by omega, by omega, ⟨HF0.out.1, HF0.out.2, fun i _ => by simp⟩, BY, HSM, HBW⟩
      case round =>
        clear BY HSM HBW HF0
        obtain ⟨st, last, rounds, yd, sm, lo, hi, ay, py, rfl, rfl, rfl, hst, hr0, hr1, hlk, HF, BY, HSM, HBW⟩ := hrel
        by_cases hs40 : st < 40
        rotate_left
        · have hs40' : ¬ (st : Int) < 40 := by omega
          go_wp2_with fail
          go_ret
          exact ⟨rfl, HBW.out⟩
        have hs40' : (st : Int) < 40 := by omega
        obtain ⟨y2, k, n, hsv, hres, hkk, n1, n2, hcase⟩ := fair_step HF.out.1 (fun i hi c => by have := HF.out.2.1 i hi; rw [c] at this; simp at this)
        have c25 := implServed yd _ wr BY.out.rd
        rw [hsv] at c25
        dsimp only at c25
        have HYK : Hid (yd.ls.length = kn) := HF.out.1.len
        have HZK : Hid (y2.ls.length = kn) := hres.len.trans HF.out.1.len
        have HCS := hide hcase
        have hgl := BY.out.row.lt
        have hgsl : gs < wr.heap.size := by obtain ⟨g', _, hsl, hg0, _, hlt, _⟩ := owns_open HSM.out (by omega); simp only [Value.slice.injEq, Option.some.injEq, Addr.mk.injEq] at hsl; omega
        clear hsv hres hcase
        have x0 := BY.out.row.cell (j := 0) rfl
        have x1 := BY.out.row.cell (j := 1) rfl
        have x2 := BY.out.row.cell (j := 2) rfl
        go_wp2_with fail
        refine c25.mono ?_; rintro x wa ⟨va, rfl, oa, hba⟩
        obtain ⟨az, pz, rfl, _⟩ := oa.form
        clear c25 x0 x1 x2
        have sa := hba.size
        replace BY := hide (BY.out.new hba); replace HSM := hide (owns_new HSM.out hba); replace HBW := hide (bchain HBW.out hba)
        clear hba
        go_upto_region 26 with fail
        have hbv : Below wa.heap.size wa (wa.alloc (.cells #[.int .i64 y2.turn, .bool y2.given, .slice az y2.ls.length pz] 26)) := (Below.refl _ _).alloc (Nat.le_refl _) _
        have BZ := hide (BxN.make wa y2 oa)
        generalize wa.alloc (.cells #[.int .i64 y2.turn, .bool y2.given, .slice az y2.ls.length pz] 26) = wb at *
        replace BY := hide (BY.out.new hbv); replace HSM := hide (owns_new HSM.out hbv); replace HBW := hide (bchain HBW.out hbv)
        have sb := hbv.size
        clear hbv oa
        have hgz : wr.heap.size ≤ wa.heap.size := sa
        generalize hlz : wr.heap.size = lz at *
        generalize hgzz : wa.heap.size = gz at *
        go_upto_if 115 with fail
        go_cut [16, 115] (fun r b wx => ∃ rounds2 : Int, r = .int .i64 rounds2 ∧ 0 ≤ rounds2 ∧ rounds2 ≤ (st : Int) + 1 ∧ wx = wb ∧ Hid (Fair kn y2 k rounds2 (addAt sm k n)))
        case first =>
          have hcs := HCS.out
          rcases hcs with ⟨hlt, hF2, hin⟩ | ⟨hnl, hF2⟩
          · have hltI : (k : Int) < last := by omega
            have HF2 := hide hF2; have HIN := hide hin
            have wr1 : IntKind.i64.wrap (rounds + 1) = rounds + 1 := by rw [IntKind.wrap_i64]; omega
            have wr2 : IntKind.i64.wrap ((rounds + 1) * 100) = (rounds + 1) * 100 := by rw [IntKind.wrap_i64]; omega
            clear hF2 hin HCS hlt
            go_wp2_with fail
            go_loop [22] (fun i => ∃ j : Nat, i = .int .i64 j ∧ j ≤ kn) (fun i => kn - (intOf i).toNat)
            case atStart => exact ⟨0, rfl, by omega⟩
            case round =>
              obtain ⟨j, rfl, hj⟩ := hrel
              by_cases hjk : j < kn
              · have hjI : (j : Int) < kn := by omega
                have hjy : j < yd.ls.length := by rw [HYK.out]; exact hjk
                have hjyI : (j : Int) < yd.ls.length := by omega
                obtain ⟨b, o, aq, pq, rfl, hbl, cw, _, _, _, _⟩ := OwX.line (lo := 0) (hi := 0) BY.out.rd hjy
                have hwt := HF.out.1.wt j hjk
                have hins := HIN.out j hjk
                have y2c := BY.out.row.cell (j := 2) rfl
                have yl := BY.out.row.lt
                obtain ⟨g', gc, hsl, hg0, _, hgl2, _, _, hc, hf⟩ := owns_open HSM.out (by omega)
                simp only [Value.slice.injEq, Option.some.injEq, Addr.mk.injEq, true_and, and_true] at hsl
                obtain ⟨rfl, -⟩ := hsl
                have cs : wb.cell? ⟨gs, j, none⟩ = some (.int .i64 (sm j)) := hc j _ (by simp [iv, hjk])
                obtain ⟨wt, hwe⟩ : ∃ z, (ln yd.ls j).wt = z := ⟨_, rfl⟩
                rw [hwe] at cw hwt hins
                have hmm : (rounds + 1) * 100 * wt = 100 * (wt * (rounds + 1)) := by rw [Int.mul_comm (rounds + 1) 100, Int.mul_assoc, Int.mul_comm (rounds + 1) wt]
                obtain ⟨tg, htg⟩ : ∃ z, (rounds + 1) * 100 * wt = z := ⟨_, rfl⟩
                have hb0 : 0 ≤ tg ∧ tg ≤ 20000 := by
                  have hw3 : wt = 1 ∨ wt = 2 ∨ wt = 3 := by omega
                  rw [← htg]
                  rcases hw3 with h | h | h <;> rw [h] <;> omega
                rw [← hmm, htg] at hins
                obtain ⟨i1, i2⟩ := hins
                have wr3 : IntKind.i64.wrap ((rounds + 1) * 100 * wt) = tg := by rw [htg, IntKind.wrap_i64]; omega
                have wr4 : IntKind.i64.wrap (tg - 100) = tg - 100 := by rw [IntKind.wrap_i64]; omega
                have hd1 : decide (tg < sm j) = false := decide_eq_false (by omega)
                have hd2 : decide (sm j < tg - 100) = false := decide_eq_false (by omega)
                clear hc hf hmm htg hwe hg0
                go_wp2_with fail
                go_round
                case rel => exact ⟨j + 1, by go_num, by omega⟩
                case measure => simp [intOf]; omega
              · have hjI : ¬ (j : Int) < kn := by omega
                go_wp2_with fail
                go_meet
                case rel => exact ⟨rounds + 1, rfl, by omega, by omega, rfl, HF2⟩
          · have hltI : ¬ (k : Int) < last := by omega
            have HF2 := hide hF2
            clear hF2 HCS
            go_wp2_with fail
            go_meet
            case rel => exact ⟨rounds, rfl, by omega, by omega, rfl, HF2⟩
        case rest =>
          obtain ⟨rounds2, rfl, hq0, hq1, rfl, HF2⟩ := hcut
          clear HCS
          have hsk := HF.out.2.2 k hkk
          obtain ⟨k0, k1⟩ := hsk
          have hkI : (k : Int) < kn := by omega
          obtain ⟨g', gc, hsl, hg0, _, hgl2, _, _, hc, hf⟩ := owns_open HSM.out (by omega)
          simp only [Value.slice.injEq, Option.some.injEq, Addr.mk.injEq, true_and, and_true] at hsl
          obtain ⟨rfl, -⟩ := hsl
          have cs : wc.cell? ⟨gs, k, none⟩ = some (.int .i64 (sm k)) := hc k _ (by simp [iv, hkk])
          have cf := hf k
          have wk : IntKind.i64.wrap (sm k + n) = sm k + n := by rw [IntKind.wrap_i64]; omega
          have HG0 := hide hg0
          clear hc hf hg0
          go_upto_region 38 with fail
          have HSM7 : Hid ((wc.setCell ⟨gs, k, none⟩ (.int .i64 (sm k + n))).ownsRow gs 2 1 (.slice (some ⟨gs, 0, none⟩) kn kn) kn (iv ((List.range kn).map (addAt sm k n)))) := by
            show World.ownsRow _ _ _ _ _ _ _
            have h := owns_set HSM.out HG0.out k (.int .i64 (sm k + n))
            rw [sum_set sm kn k n hkk] at h
            exact h
          have BZ7 : Hid (BxN (wc.setCell ⟨gs, k, none⟩ (.int .i64 (sm k + n))) gz lz gz y2 az pz) := ⟨BZ.out.row.far _ _ (by simp; omega), BZ.out.own.far _ _ (.inl (by simp; omega))⟩
          have HR7 := hide (BY.out.row.far ⟨gs, k, none⟩ (.int .i64 (sm k + n)) (by simp; omega))
          have HB7 := hide (HBW.out.setCell (p := ⟨gs, k, none⟩) (show w0.heap.size ≤ gs by omega) (.int .i64 (sm k + n)))
          clear BY BZ HSM HBW cs cf HG0
          generalize wc.setCell ⟨gs, k, none⟩ (.int .i64 (sm k + n)) = w7 at *
          have x0 := BZ7.out.row.cell (j := 0) rfl
          have x1 := BZ7.out.row.cell (j := 1) rfl
          have x2 := BZ7.out.row.cell (j := 2) rfl
          have xl := BZ7.out.row.lt
          have y0 := HR7.out.cell (j := 0) rfl
          have y1 := HR7.out.cell (j := 1) rfl
          have y2' := HR7.out.cell (j := 2) rfl
          have y3 := HR7.out.frozen 0
          have y4 := HR7.out.frozen 1
          have y5 := HR7.out.frozen 2
          have yl := HR7.out.lt
          have hzq : gz ≠ gq := by omega
          go_upto_region 39 with fail
          have HP := hide (BxN.putR HR7.out BZ7.out.own (.inl (by omega)))
          have hgn : (Value.slice (some ⟨gs, 0, none⟩) kn kn).ownBlock ≠ some gq := by simp [Value.ownBlock]; omega
          have HSM8 := hide (owns_apart (owns_apart (owns_apart HSM7.out ⟨gq, 0, none⟩ (.int .i64 y2.turn) hgn) ⟨gq, 1, none⟩ (.bool y2.given) hgn) ⟨gq, 2, none⟩ (.slice az y2.ls.length pz) hgn)
          have HB8 := hide (below_put HB7.out s05 (.int .i64 y2.turn) (.bool y2.given) (.slice az y2.ls.length pz))
          clear x0 x1 x2 xl y0 y1 y2' y3 y4 y5 yl BZ7 HR7 HSM7 HB7 hgn
          generalize ((w7.setCell ⟨gq, 0, none⟩ (.int .i64 y2.turn)).setCell ⟨gq, 1, none⟩ (.bool y2.given)).setCell ⟨gq, 2, none⟩ (.slice az y2.ls.length pz) = w8 at *
          go_wp2_with fail
          go_loop [24] (fun i => ∃ j : Nat, i = .int .i64 j ∧ j ≤ kn ∧ Hid (∀ i, i < j → 3 ≤ (ln y2.ls i).sz.length)) (fun i => kn - (intOf i).toNat)
          case atStart => exact ⟨0, rfl, by omega, fun i hi => absurd hi (Nat.not_lt_zero _)⟩
          case round =>
            obtain ⟨j, rfl, hj, HJ⟩ := hrel
            by_cases hjk : j < kn
            · have hjI : (j : Int) < kn := by omega
              have hjy : j < y2.ls.length := by rw [HZK.out]; exact hjk
              have hjyI : (j : Int) < y2.ls.length := by omega
              obtain ⟨b, o, aq, pq, rfl, hbl, _, c2, _, z1, z2⟩ := OwX.line (lo := 0) (hi := 0) HP.out.rd hjy
              have r2 := HP.out.row.cell (j := 2) rfl
              have rl := HP.out.row.lt
              obtain ⟨ls, hls⟩ : ∃ z, (ln y2.ls j).sz.length = z := ⟨_, rfl⟩
              rw [hls] at c2 z1
              have HLS := hide hls
              clear hls
              by_cases h3 : (ls : Int) < 3
              · go_wp2_with fail
                go_ret
                exact ⟨rfl, HB8.out⟩
              · have HJ2 : Hid (∀ i, i < j + 1 → 3 ≤ (ln y2.ls i).sz.length) := fun i hi => by
                  by_cases e : i = j
                  · subst e; rw [HLS.out]; omega
                  · exact HJ.out i (by omega)
                go_wp2_with fail
                go_round
                case rel => exact ⟨j + 1, by go_num, by omega, HJ2⟩
                case measure => simp [intOf]; omega
            · have hjI : ¬ (j : Int) < kn := by omega
              have HFN : Hid (Fair kn y2 k rounds2 (addAt sm k n) ∧ (∀ i, i < kn → 3 ≤ (ln y2.ls i).sz.length) ∧ ∀ i, i < kn → 0 ≤ addAt sm k n i ∧ addAt sm k n i ≤ 100 * ((st + 1 : Nat) : Int)) := by
                refine ⟨HF2.out, fun i hi => HJ.out i (by omega), fun i hi => ?_⟩
                have hb := HF.out.2.2 i hi
                unfold addAt
                split <;> omega
              go_wp2_with fail
              go_roundw
              case rel => exact ⟨st + 1, k, rounds2, y2, addAt sm k n, _, _, az, pz, by go_num, rfl, rfl, by omega, by omega, by omega, hkk, HFN, HP, HSM8, HB8⟩
              case measure => simp [intOf]; omega

open Go.ChangeShapes Go.WideShapes Go.ChangeAt Go.Joins
open Go.ChangeMaps (open_string shut_string)


theorem own : ownKnob Try.prog.godebug = none := by kernel_rfl
theorem laidOut : laidOutB Try.prog = true := by kernel_rfl

set_option maxRecDepth 100000 in
theorem lifted (os : Os) (started : os.Started) (H : Type) (enc : TypeId × Value → H) :
    ReturnsInHanded {} Try.checked os 3 .any (Rows.fnFairSpec.pre6 enc Try.prog Try.f3 Rows.fnFairRow.domain false) (Rows.fnFairSpec.post enc Try.prog Try.f3 false true false false) := by
  refine returnsInHanded_of_change (C := Try.checked) own started (by kernel_rfl) Try.func3
    (ChangeSpec.witness6 (enc := enc) (C := Try.checked) false ⟨#[], #[.slice none 0 0], []⟩ 8 (by kernel_rfl) (by kernel_rfl) (by kernel_rfl) (by kernel_rfl)) ?_
  intro W base args ds gs before hval0 hW hcnd _
  have hval : ∀ (j : Nat) t v, Try.f3.params[j]? = some t → args[j]? = some v → Value.okWide Try.prog W .any base t v := hval0
  have hW' := hW
  obtain ⟨p, q, hA0, hV, rfl, hfz, hnd⟩ := hW
  have hA : DataW.TrodAll enc Try.prog W 0 (fun _ => true) true Try.f3.params.toList args.toList ds p := hA0
  rw [Try.params3] at hA hval
  obtain ⟨v0, vs0, d0, ds0, p0, q0, hargs, rfl, rfl, h0, r0⟩ := trodAll_cons hA
  obtain ⟨rfl, rfl, rfl⟩ := trodAll_nil r0
  obtain rfl : args = #[v0] := by cases args; simp_all
  obtain ⟨rfl, rfl⟩ := trodVars_none hV
  have k0 := h0
  have lt0 : ∀ x ∈ p0, x.block < W.heap.size := by obtain ⟨m, hm⟩ := k0; exact DataW.trod_lt m _ _ _ hm
  obtain ⟨a0, len0, cap0, rfl⟩ := okWide_slice Try.underlying22 (hval 0 22 v0 rfl rfl); obtain ⟨hl0, hc0⟩ := open_code h0
  clear hA0 hval0
  refine (walk a0 len0 cap0 W hl0 hc0).mono fun e W' ⟨he, bel⟩ => ?_
  subst he
  exact ⟨_, rfl, _, _, _, [], _, [], hW', trodAll_mk1 (shut_bool Try.underlying4 _), (trodAll_cons_mk (Below.trod laidOut (by kernel_rfl) (of_decide_eq_true (by kernel_rfl)) k0 bel lt0) trodAll_mk0), rfl, bel.frame _, fun h => by cases h⟩

theorem over : Rows.fnFairRow.holds Try.pinned (OpenSpec.ofChange Rows.fnFairSpec) :=
  OpenClaim.holds_of_wide 3 Try.f3 rfl rfl rfl rfl rfl rfl rfl ⟨rfl, rfl, rfl, rfl, rfl⟩ rfl rfl rfl rfl rfl (by kernel_rfl) Try.func3 (by kernel_rfl)
    (of_decide_eq_true (by kernel_rfl)) (by unfold Func.isWrapper; first | (rw [if_pos (by decide +kernel)]; kernel_rfl) | (rw [if_neg (by decide +kernel)]; exact ⟨rfl, rfl⟩))
    (fun os started H enc _ => lifted os started H enc)

end lawFair

theorem lawFair_proved : Rows.FnFairSaid := lawFair.over
#print axioms lawFair_proved
end Go.Proofs.Yteojibdnphaooaa
