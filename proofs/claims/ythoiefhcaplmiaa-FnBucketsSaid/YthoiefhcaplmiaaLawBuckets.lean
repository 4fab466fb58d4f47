/- The law FnBuckets returns true at every argument and leaves it as it was. No condition. -/
import Derived.Test.YthoiefhcaplmiaaBktSpec
import Derived.Test.YthoiefhcaplmiaaBktImpl
import Derived.Test.YthoiefhcaplmiaaBktDraw
import Derived.Test.YthoiefhcaplmiaaBktBox
import Derived.Test.YthoiefhcaplmiaaPickOne
import Derived.Deep.DeepCutAuto
import Derived.Deep.RegionHeld3
import Derived.WalkKit
import Derived.ProofKit
import Derived.OpenShut
import Derived.ShutString
import Derived.ChangeOld
import Derived.Below
import Derived.Lib.SmallJoins

namespace Go.Proofs.Ythoiefhcaplmiaa
open Go.RowKit
set_option maxRecDepth 100000
set_option linter.unusedSimpArgs false
set_option linter.unusedVariables false
namespace lawBuckets
set_option maxHeartbeats 8000000 in
set_option maxRecDepth 100000 in
theorem walk (a : Option Addr) (len cap : Nat) (w : World) (hl : len ≤ maxLen) (hcode : CodeAt w a len w.heap.size) :
    Calls Try.prog 3 #[.slice a len cap] w fun x w' => x = .returned (.bool true) ∧ Below w.heap.size w w' := by
  unfold maxLen at hl
  by_cases hbig : (4096 : Int) < len
  · go_enter Try.func3, Try.ntmps3
    go_wp2_with fail
    refine (big1 a len cap _).mono ?_; rw [decide_eq_true hbig]; rintro x w1 ⟨rfl, rfl⟩
    go_wp2_with fail
    go_ret
    exact ⟨rfl, Below.refl _ _⟩
  have hl' : len ≤ 4096 := by omega
  have HCODE := hide hcode
  clear hcode
  go_enter Try.func3, Try.ntmps3
  go_wp2_with fail
  refine (big1 a len cap _).mono ?_; rw [decide_eq_false (by omega)]; rintro x w0 ⟨rfl, rfl⟩
  have HBW := hide (Below.refl w0.heap.size w0)
  go_wp2_with fail
  refine (drawFilled a len cap _ hl' (HCODE.out.behind HBW.out)).mono ?_; rintro x w1 ⟨b, now, rfl, hb⟩
  dsimp only [bv]
  replace HBW := hide (bchain HBW.out hb)
  clear hb
  go_upto_region 4 with fail
  have hbV : Below w1.heap.size w1 (w1.alloc (.cells #[.int .i64 b.r, .int .i64 b.m, .int .i64 b.l, .int .i64 b.a] 25)) := (Below.refl _ _).alloc (Nat.le_refl _) _
  have B3 := hide (BxK.make w1 b)
  replace HBW := hide (bchain HBW.out hbV)
  clear hbV
  generalize hV : w1.alloc (.cells #[.int .i64 b.r, .int .i64 b.m, .int .i64 b.l, .int .i64 b.a] 25) = v1 at *
  clear hV
  obtain ⟨xd, hX⟩ : ∃ y, y = filV b now := ⟨_, rfl⟩
  have HX := hide hX
  clear hX
  have x0 := B3.out.row.cell (j := 0) rfl
  have x1 := B3.out.row.cell (j := 1) rfl
  have x2 := B3.out.row.cell (j := 2) rfl
  have x3 := B3.out.row.cell (j := 3) rfl
  have xl := B3.out.row.lt
  go_wp2_with fail
  clear x0 x1 x2 x3 xl
  have hcl := fun uq => implFilled b now uq
  rw [← HX.out] at hcl
  try dsimp only at hcl
  refine (hcl _).mono ?_; clear hcl; rintro x w2 ⟨rfl, hb⟩
  replace B3 := hide (B3.out.new hb)
  replace HBW := hide (bchain HBW.out hb)
  clear hb
  go_upto_region 5 with fail
  have hbV : Below w2.heap.size w2 (w2.alloc (.cells #[.int .i64 xd.r, .int .i64 xd.m, .int .i64 xd.l, .int .i64 xd.a] 25)) := (Below.refl _ _).alloc (Nat.le_refl _) _
  have B5 := hide (BxK.make w2 xd)
  replace B3 := hide (B3.out.new hbV)
  replace HBW := hide (bchain HBW.out hbV)
  clear hbV
  generalize hV : w2.alloc (.cells #[.int .i64 xd.r, .int .i64 xd.m, .int .i64 xd.l, .int .i64 xd.a] 25) = v2 at *
  clear hV
  go_wp2_with fail
  refine (drawWhenFull a len cap _ hl' (HCODE.out.behind HBW.out)).mono ?_; rintro x w3 ⟨wd, n, rfl, hb⟩
  dsimp only [bv]
  replace B3 := hide (B3.out.new hb)
  replace B5 := hide (B5.out.new hb)
  replace HBW := hide (bchain HBW.out hb)
  clear hb
  go_upto_region 6 with fail
  have hbV : Below w3.heap.size w3 (w3.alloc (.cells #[.int .i64 wd.r, .int .i64 wd.m, .int .i64 wd.l, .int .i64 wd.a] 25)) := (Below.refl _ _).alloc (Nat.le_refl _) _
  have B6 := hide (BxK.make w3 wd)
  replace B3 := hide (B3.out.new hbV)
  replace B5 := hide (B5.out.new hbV)
  replace HBW := hide (bchain HBW.out hbV)
  clear hbV
  generalize hV : w3.alloc (.cells #[.int .i64 wd.r, .int .i64 wd.m, .int .i64 wd.l, .int .i64 wd.a] 25) = v3 at *
  clear hV
  obtain ⟨t, hT⟩ : ∃ y, y = whV wd n := ⟨_, rfl⟩
  have HT := hide hT
  clear hT
  have x0 := B6.out.row.cell (j := 0) rfl
  have x1 := B6.out.row.cell (j := 1) rfl
  have x2 := B6.out.row.cell (j := 2) rfl
  have x3 := B6.out.row.cell (j := 3) rfl
  have xl := B6.out.row.lt
  go_wp2_with fail
  clear x0 x1 x2 x3 xl
  have hcl := fun uq => implWhenFull wd n uq
  rw [← HT.out] at hcl
  try dsimp only at hcl
  refine (hcl _).mono ?_; clear hcl; rintro x w4 ⟨rfl, hb⟩
  replace B3 := hide (B3.out.new hb)
  replace B5 := hide (B5.out.new hb)
  replace B6 := hide (B6.out.new hb)
  replace HBW := hide (bchain HBW.out hb)
  clear hb
  go_upto_region 7 with fail
  obtain ⟨S, HS0, HNEW, HLB⟩ : ∃ S : World → Prop, Hid (S w4) ∧ Hid (∀ u u1, S u → Below u.heap.size u u1 → S u1) ∧ Hid (∀ u, S u → Below w4.heap.size w4 u) := ⟨fun u => Below w4.heap.size w4 u, hide (Below.refl _ _), hide (fun u u1 h h1 => bchain h h1), hide (fun u h => h)⟩
  go_cut [46] (fun c wx => c = .bool false ∧ S wx)
  case first =>
    as_aux_lemma =>
      have hS : S (World.drew w4) := HNEW.out _ _ HS0.out (Below.refl _ _).drew
      go_wp2_with fail
      refine wp_region_held (S := S) (by kernel_rfl) ?_
      change wpAnyH _ _ _ _ _ _ _ _ (World.drew _)
      refine wpAnyH_take (i := 0) (v := (.agg #[.int .i64 xd.r, .int .i64 xd.m, .int .i64 xd.l, .int .i64 xd.a])) rfl (by kernel_rfl) (by kernel_rfl) (by kernel_rfl) (fun _ _ _ h => h) (Or.inl ⟨by kernel_rfl, ?ld⟩) hS ?_; case ld => (intro uu hu; have l0 := (B5.out.new (HLB.out _ hu)).row.cell (j := 0) rfl; have l1 := (B5.out.new (HLB.out _ hu)).row.cell (j := 1) rfl; have l2 := (B5.out.new (HLB.out _ hu)).row.cell (j := 2) rfl; have l3 := (B5.out.new (HLB.out _ hu)).row.cell (j := 3) rfl; have ll := (B5.out.new (HLB.out _ hu)).row.lt; clear hu; go_simp)
      try simp only [Act.put, List.getElem_toArray, List.getElem_cons_succ, List.getElem_cons_zero, List.setIfInBounds_toArray, List.set_cons_zero, List.set_cons_succ]
      refine wpAnyH_take (i := 1) (v := (.agg #[.int .i64 b.r, .int .i64 b.m, .int .i64 b.l, .int .i64 b.a])) rfl (by kernel_rfl) (by kernel_rfl) (by kernel_rfl) (fun _ _ _ h => h) (Or.inl ⟨by kernel_rfl, ?ld⟩) hS ?_; case ld => (intro uu hu; have l0 := (B3.out.new (HLB.out _ hu)).row.cell (j := 0) rfl; have l1 := (B3.out.new (HLB.out _ hu)).row.cell (j := 1) rfl; have l2 := (B3.out.new (HLB.out _ hu)).row.cell (j := 2) rfl; have l3 := (B3.out.new (HLB.out _ hu)).row.cell (j := 3) rfl; have ll := (B3.out.new (HLB.out _ hu)).row.lt; clear hu; go_simp)
      try simp only [Act.put, List.getElem_toArray, List.getElem_cons_succ, List.getElem_cons_zero, List.setIfInBounds_toArray, List.set_cons_zero, List.set_cons_succ]
      refine wpAnyH_take (i := 2) (v := ?_) rfl (by kernel_rfl) (by kernel_rfl) (by kernel_rfl) (fun _ _ _ h => h) (Or.inl ⟨by kernel_rfl, ?_⟩) hS ?_; rotate_left; focus (intro uu hu; clear hu; go_simp; try with_reducible rfl)
      try simp only [Act.put, List.getElem_toArray, List.getElem_cons_succ, List.getElem_cons_zero, List.setIfInBounds_toArray, List.set_cons_zero, List.set_cons_succ]
      refine wpAnyH_ready (rs := [3]) (by kernel_rfl) (by simp) ?_; refine AllReadyH.cons rfl (fun K hK => ?_) AllReadyH.nil; rw [if_pos (by kernel_rfl)]; go_simp
      have hcl := fun uq => specFilled b now uq
      rw [← HX.out] at hcl
      try dsimp only at hcl
      refine (hcl _).mono ?_; clear hcl; rintro e x1 ⟨rfl, hx1⟩
      refine hK.out _ _ (HNEW.out _ _ hS hx1) (fun hS => ?_)
      clear hK K
      try simp only [Act.put, List.getElem_toArray, List.getElem_cons_succ, List.getElem_cons_zero, List.setIfInBounds_toArray, List.set_cons_zero, List.set_cons_succ]
      refine wpAnyH_take (i := 4) (v := .bool false) rfl (by kernel_rfl) (by kernel_rfl) (by kernel_rfl) (fun _ _ _ h => h) (Or.inl ⟨by kernel_rfl, ?ld⟩) hS ?_; case ld => (intro uu hu; clear hu; have hq := bk_neq xd.r xd.m xd.l xd.a; have hg := bk_guard; go_simp)
      try simp only [Act.put, List.getElem_toArray, List.getElem_cons_succ, List.getElem_cons_zero, List.setIfInBounds_toArray, List.set_cons_zero, List.set_cons_succ]
      refine wpAnyH_take (i := 5) (v := .bool false) rfl (by kernel_rfl) (by kernel_rfl) (by kernel_rfl) (fun _ _ _ h => h) (Or.inl ⟨by kernel_rfl, fun uu hu => (by kernel_rfl)⟩) hS ?_
      try simp only [Act.put, List.getElem_toArray, List.getElem_cons_succ, List.getElem_cons_zero, List.setIfInBounds_toArray, List.set_cons_zero, List.set_cons_succ]
      refine wpAnyH_take (i := 6) (v := ?_) rfl (by kernel_rfl) (by kernel_rfl) (by kernel_rfl) (fun _ _ _ h => h) (Or.inl ⟨by kernel_rfl, ?_⟩) hS ?_; rotate_left; focus (intro uu hu; clear hu; go_simp; try with_reducible rfl)
      try simp only [Act.put, List.getElem_toArray, List.getElem_cons_succ, List.getElem_cons_zero, List.setIfInBounds_toArray, List.set_cons_zero, List.set_cons_succ]
      refine wpAnyH_take (i := 7) (v := (.agg #[.int .i64 wd.r, .int .i64 wd.m, .int .i64 wd.l, .int .i64 wd.a])) rfl (by kernel_rfl) (by kernel_rfl) (by kernel_rfl) (fun _ _ _ h => h) (Or.inl ⟨by kernel_rfl, ?ld⟩) hS ?_; case ld => (intro uu hu; have l0 := (B6.out.new (HLB.out _ hu)).row.cell (j := 0) rfl; have l1 := (B6.out.new (HLB.out _ hu)).row.cell (j := 1) rfl; have l2 := (B6.out.new (HLB.out _ hu)).row.cell (j := 2) rfl; have l3 := (B6.out.new (HLB.out _ hu)).row.cell (j := 3) rfl; have ll := (B6.out.new (HLB.out _ hu)).row.lt; clear hu; go_simp)
      try simp only [Act.put, List.getElem_toArray, List.getElem_cons_succ, List.getElem_cons_zero, List.setIfInBounds_toArray, List.set_cons_zero, List.set_cons_succ]
      refine wpAnyH_take (i := 8) (v := ?_) rfl (by kernel_rfl) (by kernel_rfl) (by kernel_rfl) (fun _ _ _ h => h) (Or.inl ⟨by kernel_rfl, ?_⟩) hS ?_; rotate_left; focus (intro uu hu; clear hu; go_simp; try with_reducible rfl)
      try simp only [Act.put, List.getElem_toArray, List.getElem_cons_succ, List.getElem_cons_zero, List.setIfInBounds_toArray, List.set_cons_zero, List.set_cons_succ]
      refine wpAnyH_ready (rs := [9]) (by kernel_rfl) (by simp) ?_; refine AllReadyH.cons rfl (fun K hK => ?_) AllReadyH.nil; rw [if_pos (by kernel_rfl)]; go_simp
      have hcl := fun uq => specWhenFull wd n uq
      rw [← HT.out] at hcl
      try dsimp only at hcl
      refine (hcl _).mono ?_; clear hcl; rintro e x2 ⟨rfl, hx2⟩
      refine hK.out _ _ (HNEW.out _ _ hS hx2) (fun hS => ?_)
      clear hK K
      try simp only [Act.put, List.getElem_toArray, List.getElem_cons_succ, List.getElem_cons_zero, List.setIfInBounds_toArray, List.set_cons_zero, List.set_cons_succ]
      refine wpAnyH_take (i := 10) (v := ?_) rfl (by kernel_rfl) (by kernel_rfl) (by kernel_rfl) (fun _ _ _ h => h) (Or.inl ⟨by kernel_rfl, ?_⟩) hS ?_; rotate_left; focus (intro uu hu; clear hu; go_simp; try with_reducible rfl)
      try simp only [Act.put, List.getElem_toArray, List.getElem_cons_succ, List.getElem_cons_zero, List.setIfInBounds_toArray, List.set_cons_zero, List.set_cons_succ]
      refine wpAnyH_take (i := 11) (v := .bool false) rfl (by kernel_rfl) (by kernel_rfl) (by kernel_rfl) (fun _ _ _ h => h) (Or.inl ⟨by kernel_rfl, fun uu hu => (by kernel_rfl)⟩) hS ?_
      try simp only [Act.put, List.getElem_toArray, List.getElem_cons_succ, List.getElem_cons_zero, List.setIfInBounds_toArray, List.set_cons_zero, List.set_cons_succ]
      refine wpAnyH_take (i := 12) (v := .bool false) rfl (by kernel_rfl) (by kernel_rfl) (by kernel_rfl) (fun _ _ _ h => h) (Or.inl ⟨by kernel_rfl, fun uu hu => (by kernel_rfl)⟩) hS ?_
      try simp only [Act.put, List.getElem_toArray, List.getElem_cons_succ, List.getElem_cons_zero, List.setIfInBounds_toArray, List.set_cons_zero, List.set_cons_succ]
      refine wpAnyH_take (i := 13) (v := (.agg #[.int .i64 b.r, .int .i64 b.m, .int .i64 b.l, .int .i64 b.a])) rfl (by kernel_rfl) (by kernel_rfl) (by kernel_rfl) (fun _ _ _ h => h) (Or.inl ⟨by kernel_rfl, ?ld⟩) hS ?_; case ld => (intro uu hu; have l0 := (B3.out.new (HLB.out _ hu)).row.cell (j := 0) rfl; have l1 := (B3.out.new (HLB.out _ hu)).row.cell (j := 1) rfl; have l2 := (B3.out.new (HLB.out _ hu)).row.cell (j := 2) rfl; have l3 := (B3.out.new (HLB.out _ hu)).row.cell (j := 3) rfl; have ll := (B3.out.new (HLB.out _ hu)).row.lt; clear hu; go_simp)
      try simp only [Act.put, List.getElem_toArray, List.getElem_cons_succ, List.getElem_cons_zero, List.setIfInBounds_toArray, List.set_cons_zero, List.set_cons_succ]
      refine wpAnyH_take (i := 15) (v := (.agg #[.int .i64 b.r, .int .i64 b.m, .int .i64 b.l, .int .i64 b.a])) rfl (by kernel_rfl) (by kernel_rfl) (by kernel_rfl) (fun _ _ _ h => h) (Or.inl ⟨by kernel_rfl, ?ld⟩) hS ?_; case ld => (intro uu hu; have l0 := (B3.out.new (HLB.out _ hu)).row.cell (j := 0) rfl; have l1 := (B3.out.new (HLB.out _ hu)).row.cell (j := 1) rfl; have l2 := (B3.out.new (HLB.out _ hu)).row.cell (j := 2) rfl; have l3 := (B3.out.new (HLB.out _ hu)).row.cell (j := 3) rfl; have ll := (B3.out.new (HLB.out _ hu)).row.lt; clear hu; go_simp)
      try simp only [Act.put, List.getElem_toArray, List.getElem_cons_succ, List.getElem_cons_zero, List.setIfInBounds_toArray, List.set_cons_zero, List.set_cons_succ]
      refine wpAnyH_ready (rs := [14]) (by kernel_rfl) (by simp) ?_; refine AllReadyH.cons rfl (fun K hK => ?_) AllReadyH.nil; rw [if_pos (by kernel_rfl)]; go_simp
      skip
      refine (implBucketOk b _).mono ?_; rintro e x3 ⟨rfl, hx3⟩
      refine hK.out _ _ (HNEW.out _ _ hS hx3) (fun hS => ?_)
      clear hK K
      try simp only [Act.put, List.getElem_toArray, List.getElem_cons_succ, List.getElem_cons_zero, List.setIfInBounds_toArray, List.set_cons_zero, List.set_cons_succ]
      refine wpAnyH_ready (rs := [16]) (by kernel_rfl) (by simp) ?_; refine AllReadyH.cons rfl (fun K hK => ?_) AllReadyH.nil; rw [if_pos (by kernel_rfl)]; go_simp
      skip
      refine (specBucketOk b _).mono ?_; rintro e x4 ⟨rfl, hx4⟩
      refine hK.out _ _ (HNEW.out _ _ hS hx4) (fun hS => ?_)
      clear hK K
      try simp only [Act.put, List.getElem_toArray, List.getElem_cons_succ, List.getElem_cons_zero, List.setIfInBounds_toArray, List.set_cons_zero, List.set_cons_succ]
      refine wpAnyH_take (i := 17) (v := .bool false) rfl (by kernel_rfl) (by kernel_rfl) (by kernel_rfl) (fun _ _ _ h => h) (Or.inl ⟨by kernel_rfl, ?ld⟩) hS ?_; case ld => (intro uu hu; clear hu; cases okBk b <;> go_simp)
      try simp only [Act.put, List.getElem_toArray, List.getElem_cons_succ, List.getElem_cons_zero, List.setIfInBounds_toArray, List.set_cons_zero, List.set_cons_succ]
      refine wpAnyH_take (i := 18) (v := .bool false) rfl (by kernel_rfl) (by kernel_rfl) (by kernel_rfl) (fun _ _ _ h => h) (Or.inl ⟨by kernel_rfl, fun uu hu => (by kernel_rfl)⟩) hS ?_
      try simp only [Act.put, List.getElem_toArray, List.getElem_cons_succ, List.getElem_cons_zero, List.setIfInBounds_toArray, List.set_cons_zero, List.set_cons_succ]
      refine wpAnyH_done (by kernel_rfl) ?_ _
      go_wp2_with fail
      go_meet
      exact ⟨rfl, hS⟩
  case rest =>
    obtain ⟨rfl, hS⟩ := hcut
    obtain ⟨v5, rfl⟩ : ∃ v : World, v = wc := ⟨_, rfl⟩
    have hbS := HLB.out _ hS
    clear hS HS0 HNEW HLB S
    replace B3 := hide (B3.out.new hbS)
    replace B5 := hide (B5.out.new hbS)
    replace B6 := hide (B6.out.new hbS)
    replace HBW := hide (bchain HBW.out hbS)
    clear hbS
    by_cases ht0 : 0 ≤ t
    · skip
      obtain ⟨ta, tb, tc, l1, hl1, hln, hback⟩ := wh_yes HT.out.symm ht0
      have hnl : ¬ l1 < n := by omega
      have HL1 := hide hl1
      have HBK := hide hback
      clear hl1 hback
      have x0 := B6.out.row.cell (j := 0) rfl
      have x1 := B6.out.row.cell (j := 1) rfl
      have x2 := B6.out.row.cell (j := 2) rfl
      have x3 := B6.out.row.cell (j := 3) rfl
      have xl := B6.out.row.lt
      go_wp2_with fail
      clear x0 x1 x2 x3 xl
      have hcl := fun uq => implFilled wd t uq
      rw [HL1.out] at hcl
      try dsimp only at hcl
      refine (hcl _).mono ?_; clear hcl; rintro x w6 ⟨rfl, hb⟩
      replace B3 := hide (B3.out.new hb)
      replace B5 := hide (B5.out.new hb)
      replace B6 := hide (B6.out.new hb)
      replace HBW := hide (bchain HBW.out hb)
      clear hb
      dsimp only [bv]
      have hfd := bk_field
      by_cases hat : wd.a < t
      · skip
        obtain ⟨l2, hl2, hlt2⟩ := HBK.out hat
        have HL2 := hide hl2
        clear hl2
        have wt : IntKind.i64.wrap (t - 1) = t - 1 := by rw [IntKind.wrap_i64]; omega
        have hnl2 : ¬ n ≤ l2 := by omega
        have x0 := B6.out.row.cell (j := 0) rfl
        have x1 := B6.out.row.cell (j := 1) rfl
        have x2 := B6.out.row.cell (j := 2) rfl
        have x3 := B6.out.row.cell (j := 3) rfl
        have xl := B6.out.row.lt
        go_wp2_with fail
        clear x0 x1 x2 x3 xl
        have hcl := fun uq => implFilled wd (t - 1) uq
        rw [HL2.out] at hcl
        try dsimp only at hcl
        refine (hcl _).mono ?_; clear hcl; rintro x w7 ⟨rfl, hb⟩
        replace B3 := hide (B3.out.new hb)
        replace B5 := hide (B5.out.new hb)
        replace B6 := hide (B6.out.new hb)
        replace HBW := hide (bchain HBW.out hb)
        clear hb
        dsimp only [bv]
        cases hok : okBk b
        · skip
          obtain rfl : xd = zBk := by rw [HX.out]; unfold filV; rw [if_pos hok]
          have x0 := B3.out.row.cell (j := 0) rfl
          have x1 := B3.out.row.cell (j := 1) rfl
          have x2 := B3.out.row.cell (j := 2) rfl
          have x3 := B3.out.row.cell (j := 3) rfl
          have xl := B3.out.row.lt
          have y0 := B5.out.row.cell (j := 0) rfl
          have y1 := B5.out.row.cell (j := 1) rfl
          have y2 := B5.out.row.cell (j := 2) rfl
          have y3 := B5.out.row.cell (j := 3) rfl
          have yl := B5.out.row.lt
          go_wp2_with fail
          refine (specBucketOk b _).mono ?_; rw [hok]; rintro x w9 ⟨rfl, hb⟩
          clear x0 x1 x2 x3 xl
          clear y0 y1 y2 y3 yl
          replace B3 := hide (B3.out.new hb)
          replace B5 := hide (B5.out.new hb)
          replace B6 := hide (B6.out.new hb)
          replace HBW := hide (bchain HBW.out hb)
          clear hb
          have y0 := B5.out.row.cell (j := 0) rfl
          have y1 := B5.out.row.cell (j := 1) rfl
          have y2 := B5.out.row.cell (j := 2) rfl
          have y3 := B5.out.row.cell (j := 3) rfl
          have yl := B5.out.row.lt
          have hq := bk_eql 0 0 0 0
          have hg := bk_guard
          dsimp only [zBk] at y0 y1 y2 y3
          go_wp2_with fail
          go_ret
          exact ⟨rfl, HBW.out⟩
        · skip
          have x0 := B3.out.row.cell (j := 0) rfl
          have x1 := B3.out.row.cell (j := 1) rfl
          have x2 := B3.out.row.cell (j := 2) rfl
          have x3 := B3.out.row.cell (j := 3) rfl
          have xl := B3.out.row.lt
          go_wp2_with fail
          refine (specBucketOk b _).mono ?_; rw [hok]; rintro x w9 ⟨rfl, hb⟩
          clear x0 x1 x2 x3 xl
          replace B3 := hide (B3.out.new hb)
          replace B5 := hide (B5.out.new hb)
          replace B6 := hide (B6.out.new hb)
          replace HBW := hide (bchain HBW.out hb)
          clear hb
          cases hin : inB now b.a 1000000
          · skip
            obtain rfl : xd = b := by rw [HX.out]; unfold filV; rw [if_neg (by rw [hok]; decide), if_pos hin]
            have hin2 := inB_false hin
            have hq := bk_eql xd.r xd.m xd.l xd.a
            have hg := bk_guard
            have x0 := B3.out.row.cell (j := 0) rfl
            have x1 := B3.out.row.cell (j := 1) rfl
            have x2 := B3.out.row.cell (j := 2) rfl
            have x3 := B3.out.row.cell (j := 3) rfl
            have xl := B3.out.row.lt
            have y0 := B5.out.row.cell (j := 0) rfl
            have y1 := B5.out.row.cell (j := 1) rfl
            have y2 := B5.out.row.cell (j := 2) rfl
            have y3 := B5.out.row.cell (j := 3) rfl
            have yl := B5.out.row.lt
            by_cases hlo : now < xd.a
            · go_wp2_with fail
              go_ret
              exact ⟨rfl, HBW.out⟩
            · have hhi : 1000000 < now := by omega
              clear hin2
              go_wp2_with fail
              go_ret
              exact ⟨rfl, HBW.out⟩
          · skip
            obtain ⟨n0, n1⟩ := inB_true hin
            have hxd : xd = fil b now := by rw [HX.out]; unfold filV; rw [if_neg (by rw [hok]; decide), if_neg (by rw [hin]; decide)]
            have hxl : b.l ≤ xd.l := by rw [hxd]; exact (lv_bd hok n0 n1).1
            have hxok : okBk xd = true := by rw [hxd]; exact fil_ok hok n0 n1
            clear hxd
            have hbs := okBk_true hok
            obtain ⟨-, -, -, t0, t1⟩ := hbs
            have wn : IntKind.i64.wrap (now - b.a) = now - b.a := by rw [IntKind.wrap_i64]; omega
            have wn2 : IntKind.i64.wrap (now - b.a + 1) = now - b.a + 1 := by rw [IntKind.wrap_i64]; omega
            have hlo : ¬ now < b.a := by omega
            have hhi : ¬ 1000000 < now := by omega
            have x0 := B3.out.row.cell (j := 0) rfl
            have x1 := B3.out.row.cell (j := 1) rfl
            have x2 := B3.out.row.cell (j := 2) rfl
            have x3 := B3.out.row.cell (j := 3) rfl
            have xl := B3.out.row.lt
            go_upto_region 16 with fail
            clear x0 x1 x2 x3 xl
            skip
            obtain ⟨S, HS0, HNEW, HLB⟩ : ∃ S : World → Prop, Hid (S w9) ∧ Hid (∀ u u1, S u → Below u.heap.size u u1 → S u1) ∧ Hid (∀ u, S u → Below w9.heap.size w9 u) := ⟨fun u => Below w9.heap.size w9 u, hide (Below.refl _ _), hide (fun u u1 h h1 => bchain h h1), hide (fun u h => h)⟩
            go_cut [9] (fun c wx => (∃ z : Int, c = .int .i64 (b.a + z) ∧ 0 ≤ z ∧ z < now - b.a + 1) ∧ S wx)
            case first =>
              as_aux_lemma =>
                have hS : S (World.drew w9) := HNEW.out _ _ HS0.out (Below.refl _ _).drew
                go_wp2_with fail
                refine wp_region_held (S := S) (by kernel_rfl) ?_
                change wpAnyH _ _ _ _ _ _ _ _ (World.drew _)
                refine wpAnyH_take (i := 0) (v := ?_) rfl (by kernel_rfl) (by kernel_rfl) (by kernel_rfl) (fun _ _ _ h => h) (Or.inl ⟨by kernel_rfl, ?_⟩) hS ?_; rotate_left; focus (intro uu hu; clear hu; go_simp; try with_reducible rfl)
                try simp only [Act.put, List.getElem_toArray, List.getElem_cons_succ, List.getElem_cons_zero, List.setIfInBounds_toArray, List.set_cons_zero, List.set_cons_succ]
                refine wpAnyH_take (i := 1) (v := (.int .i64 b.a)) rfl (by kernel_rfl) (by kernel_rfl) (by kernel_rfl) (fun _ _ _ h => h) (Or.inl ⟨by kernel_rfl, ?ld⟩) hS ?_; case ld => (intro uu hu; have l0 := (B3.out.new (HLB.out _ hu)).row.cell (j := 0) rfl; have l1 := (B3.out.new (HLB.out _ hu)).row.cell (j := 1) rfl; have l2 := (B3.out.new (HLB.out _ hu)).row.cell (j := 2) rfl; have l3 := (B3.out.new (HLB.out _ hu)).row.cell (j := 3) rfl; have ll := (B3.out.new (HLB.out _ hu)).row.lt; clear hu; go_simp)
                try simp only [Act.put, List.getElem_toArray, List.getElem_cons_succ, List.getElem_cons_zero, List.setIfInBounds_toArray, List.set_cons_zero, List.set_cons_succ]
                refine wpAnyH_take (i := 2) (v := ?_) rfl (by kernel_rfl) (by kernel_rfl) (by kernel_rfl) (fun _ _ _ h => h) (Or.inl ⟨by kernel_rfl, ?_⟩) hS ?_; rotate_left; focus (intro uu hu; clear hu; go_simp; try with_reducible rfl)
                try simp only [Act.put, List.getElem_toArray, List.getElem_cons_succ, List.getElem_cons_zero, List.setIfInBounds_toArray, List.set_cons_zero, List.set_cons_succ]
                refine wpAnyH_take (i := 3) (v := ?_) rfl (by kernel_rfl) (by kernel_rfl) (by kernel_rfl) (fun _ _ _ h => h) (Or.inl ⟨by kernel_rfl, ?_⟩) hS ?_; rotate_left; focus (intro uu hu; clear hu; go_simp; try with_reducible rfl)
                try simp only [Act.put, List.getElem_toArray, List.getElem_cons_succ, List.getElem_cons_zero, List.setIfInBounds_toArray, List.set_cons_zero, List.set_cons_succ]
                refine wpAnyH_take (i := 4) (v := ?_) rfl (by kernel_rfl) (by kernel_rfl) (by kernel_rfl) (fun _ _ _ h => h) (Or.inl ⟨by kernel_rfl, ?_⟩) hS ?_; rotate_left; focus (intro uu hu; clear hu; go_simp; try with_reducible rfl)
                try simp only [Act.put, List.getElem_toArray, List.getElem_cons_succ, List.getElem_cons_zero, List.setIfInBounds_toArray, List.set_cons_zero, List.set_cons_succ]
                refine wpAnyH_take (i := 5) (v := (.int .i64 b.a)) rfl (by kernel_rfl) (by kernel_rfl) (by kernel_rfl) (fun _ _ _ h => h) (Or.inl ⟨by kernel_rfl, ?ld⟩) hS ?_; case ld => (intro uu hu; have l0 := (B3.out.new (HLB.out _ hu)).row.cell (j := 0) rfl; have l1 := (B3.out.new (HLB.out _ hu)).row.cell (j := 1) rfl; have l2 := (B3.out.new (HLB.out _ hu)).row.cell (j := 2) rfl; have l3 := (B3.out.new (HLB.out _ hu)).row.cell (j := 3) rfl; have ll := (B3.out.new (HLB.out _ hu)).row.lt; clear hu; go_simp)
                try simp only [Act.put, List.getElem_toArray, List.getElem_cons_succ, List.getElem_cons_zero, List.setIfInBounds_toArray, List.set_cons_zero, List.set_cons_succ]
                refine wpAnyH_take (i := 6) (v := ?_) rfl (by kernel_rfl) (by kernel_rfl) (by kernel_rfl) (fun _ _ _ h => h) (Or.inl ⟨by kernel_rfl, ?_⟩) hS ?_; rotate_left; focus (intro uu hu; clear hu; go_simp; try with_reducible rfl)
                try simp only [Act.put, List.getElem_toArray, List.getElem_cons_succ, List.getElem_cons_zero, List.setIfInBounds_toArray, List.set_cons_zero, List.set_cons_succ]
                refine wpAnyH_take (i := 7) (v := ?_) rfl (by kernel_rfl) (by kernel_rfl) (by kernel_rfl) (fun _ _ _ h => h) (Or.inl ⟨by kernel_rfl, ?_⟩) hS ?_; rotate_left; focus (intro uu hu; clear hu; go_simp; try with_reducible rfl)
                try simp only [Act.put, List.getElem_toArray, List.getElem_cons_succ, List.getElem_cons_zero, List.setIfInBounds_toArray, List.set_cons_zero, List.set_cons_succ]
                refine wpAnyH_ready (rs := [8]) (by kernel_rfl) (by simp) ?_; refine AllReadyH.cons rfl (fun K hK => ?_) AllReadyH.nil; rw [if_pos (by kernel_rfl)]; go_simp
                refine (pick1 a len cap 1 (now - b.a + 1) _ _ hl' ((HCODE.out.behind HBW.out).behind (HLB.out _ hS)) (by omega) (by omega) (by omega) (by omega)).mono ?_; rintro e x5 ⟨z, z0, z1, rfl, hsame⟩; obtain rfl := hsame.symm; clear hsame
                refine hK.out _ _ hS (fun hS => ?_)
                clear hK K
                try simp only [Act.put, List.getElem_toArray, List.getElem_cons_succ, List.getElem_cons_zero, List.setIfInBounds_toArray, List.set_cons_zero, List.set_cons_succ]
                have wz : IntKind.i64.wrap (b.a + z) = b.a + z := by rw [IntKind.wrap_i64]; omega
                refine wpAnyH_take (i := 9) (v := ?_) rfl (by kernel_rfl) (by kernel_rfl) (by kernel_rfl) (fun _ _ _ h => h) (Or.inl ⟨by kernel_rfl, ?_⟩) hS ?_; rotate_left; focus (intro uu hu; clear hu; go_simp; try with_reducible rfl)
                try simp only [Act.put, List.getElem_toArray, List.getElem_cons_succ, List.getElem_cons_zero, List.setIfInBounds_toArray, List.set_cons_zero, List.set_cons_succ]
                refine wpAnyH_take (i := 10) (v := ?_) rfl (by kernel_rfl) (by kernel_rfl) (by kernel_rfl) (fun _ _ _ h => h) (Or.inl ⟨by kernel_rfl, ?_⟩) hS ?_; rotate_left; focus (intro uu hu; clear hu; go_simp; try with_reducible rfl)
                try simp only [Act.put, List.getElem_toArray, List.getElem_cons_succ, List.getElem_cons_zero, List.setIfInBounds_toArray, List.set_cons_zero, List.set_cons_succ]
                refine wpAnyH_done (by kernel_rfl) ?_ _
                go_wp2_with fail
                go_meet
                exact ⟨⟨z, rfl, z0, z1⟩, hS⟩
            case rest =>
              obtain ⟨⟨z, rfl, z0, z1⟩, hS⟩ := hcut
              obtain ⟨w10, rfl⟩ : ∃ v : World, v = wc := ⟨_, rfl⟩
              have hbS := HLB.out _ hS
              clear hS HS0 HNEW HLB S
              replace B3 := hide (B3.out.new hbS)
              replace B5 := hide (B5.out.new hbS)
              replace B6 := hide (B6.out.new hbS)
              replace HBW := hide (bchain HBW.out hbS)
              clear hbS
              have hff := filV_filV hok (mid := b.a + z) (now := now) (by omega) (by omega) n1
              rw [← HX.out] at hff
              have HFF := hide hff
              clear hff
              go_upto_region 17 with fail
              obtain ⟨S, HS0, HNEW, HLB⟩ : ∃ S : World → Prop, Hid (S w10) ∧ Hid (∀ u u1, S u → Below u.heap.size u u1 → S u1) ∧ Hid (∀ u, S u → Below w10.heap.size w10 u) := ⟨fun u => Below w10.heap.size w10 u, hide (Below.refl _ _), hide (fun u u1 h h1 => bchain h h1), hide (fun u h => h)⟩
              go_cut [2] (fun c wx => c = .bool true ∧ S wx)
              case first =>
                as_aux_lemma =>
                  have hS : S (World.drew w10) := HNEW.out _ _ HS0.out (Below.refl _ _).drew
                  go_wp2_with fail
                  refine wp_region_held (S := S) (by kernel_rfl) ?_
                  change wpAnyH _ _ _ _ _ _ _ _ (World.drew _)
                  refine wpAnyH_take (i := 0) (v := (.agg #[.int .i64 xd.r, .int .i64 xd.m, .int .i64 xd.l, .int .i64 xd.a])) rfl (by kernel_rfl) (by kernel_rfl) (by kernel_rfl) (fun _ _ _ h => h) (Or.inl ⟨by kernel_rfl, ?ld⟩) hS ?_; case ld => (intro uu hu; have l0 := (B5.out.new (HLB.out _ hu)).row.cell (j := 0) rfl; have l1 := (B5.out.new (HLB.out _ hu)).row.cell (j := 1) rfl; have l2 := (B5.out.new (HLB.out _ hu)).row.cell (j := 2) rfl; have l3 := (B5.out.new (HLB.out _ hu)).row.cell (j := 3) rfl; have ll := (B5.out.new (HLB.out _ hu)).row.lt; clear hu; go_simp)
                  try simp only [Act.put, List.getElem_toArray, List.getElem_cons_succ, List.getElem_cons_zero, List.setIfInBounds_toArray, List.set_cons_zero, List.set_cons_succ]
                  refine wpAnyH_ready (rs := [1]) (by kernel_rfl) (by simp) ?_; refine AllReadyH.cons rfl (fun K hK => ?_) AllReadyH.nil; rw [if_pos (by kernel_rfl)]; go_simp
                  have hcl := fun uq => implBucketOk xd uq
                  rw [hxok] at hcl
                  try dsimp only at hcl
                  refine (hcl _).mono ?_; clear hcl; rintro e x6 ⟨rfl, hx6⟩
                  refine hK.out _ _ (HNEW.out _ _ hS hx6) (fun hS => ?_)
                  clear hK K
                  try simp only [Act.put, List.getElem_toArray, List.getElem_cons_succ, List.getElem_cons_zero, List.setIfInBounds_toArray, List.set_cons_zero, List.set_cons_succ]
                  refine wpAnyH_take (i := 2) (v := .bool true) rfl (by kernel_rfl) (by kernel_rfl) (by kernel_rfl) (fun _ _ _ h => h) (Or.inl ⟨by kernel_rfl, fun uu hu => (by kernel_rfl)⟩) hS ?_
                  try simp only [Act.put, List.getElem_toArray, List.getElem_cons_succ, List.getElem_cons_zero, List.setIfInBounds_toArray, List.set_cons_zero, List.set_cons_succ]
                  refine wpAnyH_take (i := 3) (v := (.agg #[.int .i64 b.r, .int .i64 b.m, .int .i64 b.l, .int .i64 b.a])) rfl (by kernel_rfl) (by kernel_rfl) (by kernel_rfl) (fun _ _ _ h => h) (Or.inl ⟨by kernel_rfl, ?ld⟩) hS ?_; case ld => (intro uu hu; have l0 := (B3.out.new (HLB.out _ hu)).row.cell (j := 0) rfl; have l1 := (B3.out.new (HLB.out _ hu)).row.cell (j := 1) rfl; have l2 := (B3.out.new (HLB.out _ hu)).row.cell (j := 2) rfl; have l3 := (B3.out.new (HLB.out _ hu)).row.cell (j := 3) rfl; have ll := (B3.out.new (HLB.out _ hu)).row.lt; clear hu; go_simp)
                  try simp only [Act.put, List.getElem_toArray, List.getElem_cons_succ, List.getElem_cons_zero, List.setIfInBounds_toArray, List.set_cons_zero, List.set_cons_succ]
                  refine wpAnyH_take (i := 4) (v := ?_) rfl (by kernel_rfl) (by kernel_rfl) (by kernel_rfl) (fun _ _ _ h => h) (Or.inl ⟨by kernel_rfl, ?_⟩) hS ?_; rotate_left; focus (intro uu hu; clear hu; go_simp; try with_reducible rfl)
                  try simp only [Act.put, List.getElem_toArray, List.getElem_cons_succ, List.getElem_cons_zero, List.setIfInBounds_toArray, List.set_cons_zero, List.set_cons_succ]
                  refine wpAnyH_take (i := 6) (v := ?_) rfl (by kernel_rfl) (by kernel_rfl) (by kernel_rfl) (fun _ _ _ h => h) (Or.inl ⟨by kernel_rfl, ?_⟩) hS ?_; rotate_left; focus (intro uu hu; clear hu; go_simp; try with_reducible rfl)
                  try simp only [Act.put, List.getElem_toArray, List.getElem_cons_succ, List.getElem_cons_zero, List.setIfInBounds_toArray, List.set_cons_zero, List.set_cons_succ]
                  refine wpAnyH_take (i := 8) (v := (.agg #[.int .i64 xd.r, .int .i64 xd.m, .int .i64 xd.l, .int .i64 xd.a])) rfl (by kernel_rfl) (by kernel_rfl) (by kernel_rfl) (fun _ _ _ h => h) (Or.inl ⟨by kernel_rfl, ?ld⟩) hS ?_; case ld => (intro uu hu; have l0 := (B5.out.new (HLB.out _ hu)).row.cell (j := 0) rfl; have l1 := (B5.out.new (HLB.out _ hu)).row.cell (j := 1) rfl; have l2 := (B5.out.new (HLB.out _ hu)).row.cell (j := 2) rfl; have l3 := (B5.out.new (HLB.out _ hu)).row.cell (j := 3) rfl; have ll := (B5.out.new (HLB.out _ hu)).row.lt; clear hu; go_simp)
                  try simp only [Act.put, List.getElem_toArray, List.getElem_cons_succ, List.getElem_cons_zero, List.setIfInBounds_toArray, List.set_cons_zero, List.set_cons_succ]
                  refine wpAnyH_ready (rs := [5]) (by kernel_rfl) (by simp) ?_; refine AllReadyH.cons rfl (fun K hK => ?_) AllReadyH.nil; rw [if_pos (by kernel_rfl)]; go_simp
                  skip
                  refine (implFilled b (b.a + z) _).mono ?_; rintro e x7 ⟨rfl, hx7⟩
                  refine hK.out _ _ (HNEW.out _ _ hS hx7) (fun hS => ?_)
                  clear hK K
                  try simp only [Act.put, List.getElem_toArray, List.getElem_cons_succ, List.getElem_cons_zero, List.setIfInBounds_toArray, List.set_cons_zero, List.set_cons_succ]
                  refine wpAnyH_ready (rs := [7]) (by kernel_rfl) (by simp) ?_; refine AllReadyH.cons rfl (fun K hK => ?_) AllReadyH.nil; rw [if_pos (by kernel_rfl)]; go_simp
                  have hcl := fun uq => implFilled (filV b (b.a + z)) now uq
                  rw [HFF.out] at hcl
                  try dsimp only at hcl
                  refine (hcl _).mono ?_; clear hcl; rintro e x8 ⟨rfl, hx8⟩
                  refine hK.out _ _ (HNEW.out _ _ hS hx8) (fun hS => ?_)
                  clear hK K
                  try simp only [Act.put, List.getElem_toArray, List.getElem_cons_succ, List.getElem_cons_zero, List.setIfInBounds_toArray, List.set_cons_zero, List.set_cons_succ]
                  refine wpAnyH_take (i := 9) (v := .bool true) rfl (by kernel_rfl) (by kernel_rfl) (by kernel_rfl) (fun _ _ _ h => h) (Or.inl ⟨by kernel_rfl, ?ld⟩) hS ?_; case ld => (intro uu hu; clear hu; have hq := bk_eql xd.r xd.m xd.l xd.a; have hg := bk_guard; go_simp)
                  try simp only [Act.put, List.getElem_toArray, List.getElem_cons_succ, List.getElem_cons_zero, List.setIfInBounds_toArray, List.set_cons_zero, List.set_cons_succ]
                  refine wpAnyH_take (i := 10) (v := .bool true) rfl (by kernel_rfl) (by kernel_rfl) (by kernel_rfl) (fun _ _ _ h => h) (Or.inl ⟨by kernel_rfl, fun uu hu => (by kernel_rfl)⟩) hS ?_
                  try simp only [Act.put, List.getElem_toArray, List.getElem_cons_succ, List.getElem_cons_zero, List.setIfInBounds_toArray, List.set_cons_zero, List.set_cons_succ]
                  refine wpAnyH_take (i := 11) (v := .bool true) rfl (by kernel_rfl) (by kernel_rfl) (by kernel_rfl) (fun _ _ _ h => h) (Or.inl ⟨by kernel_rfl, fun uu hu => (by kernel_rfl)⟩) hS ?_
                  try simp only [Act.put, List.getElem_toArray, List.getElem_cons_succ, List.getElem_cons_zero, List.setIfInBounds_toArray, List.set_cons_zero, List.set_cons_succ]
                  refine wpAnyH_take (i := 12) (v := ?_) rfl (by kernel_rfl) (by kernel_rfl) (by kernel_rfl) (fun _ _ _ h => h) (Or.inl ⟨by kernel_rfl, ?_⟩) hS ?_; rotate_left; focus (intro uu hu; clear hu; go_simp; try with_reducible rfl)
                  try simp only [Act.put, List.getElem_toArray, List.getElem_cons_succ, List.getElem_cons_zero, List.setIfInBounds_toArray, List.set_cons_zero, List.set_cons_succ]
                  refine wpAnyH_take (i := 13) (v := (.int .i64 xd.l)) rfl (by kernel_rfl) (by kernel_rfl) (by kernel_rfl) (fun _ _ _ h => h) (Or.inl ⟨by kernel_rfl, ?ld⟩) hS ?_; case ld => (intro uu hu; have l0 := (B5.out.new (HLB.out _ hu)).row.cell (j := 0) rfl; have l1 := (B5.out.new (HLB.out _ hu)).row.cell (j := 1) rfl; have l2 := (B5.out.new (HLB.out _ hu)).row.cell (j := 2) rfl; have l3 := (B5.out.new (HLB.out _ hu)).row.cell (j := 3) rfl; have ll := (B5.out.new (HLB.out _ hu)).row.lt; clear hu; go_simp)
                  try simp only [Act.put, List.getElem_toArray, List.getElem_cons_succ, List.getElem_cons_zero, List.setIfInBounds_toArray, List.set_cons_zero, List.set_cons_succ]
                  refine wpAnyH_take (i := 14) (v := ?_) rfl (by kernel_rfl) (by kernel_rfl) (by kernel_rfl) (fun _ _ _ h => h) (Or.inl ⟨by kernel_rfl, ?_⟩) hS ?_; rotate_left; focus (intro uu hu; clear hu; go_simp; try with_reducible rfl)
                  try simp only [Act.put, List.getElem_toArray, List.getElem_cons_succ, List.getElem_cons_zero, List.setIfInBounds_toArray, List.set_cons_zero, List.set_cons_succ]
                  refine wpAnyH_take (i := 15) (v := (.int .i64 b.l)) rfl (by kernel_rfl) (by kernel_rfl) (by kernel_rfl) (fun _ _ _ h => h) (Or.inl ⟨by kernel_rfl, ?ld⟩) hS ?_; case ld => (intro uu hu; have l0 := (B3.out.new (HLB.out _ hu)).row.cell (j := 0) rfl; have l1 := (B3.out.new (HLB.out _ hu)).row.cell (j := 1) rfl; have l2 := (B3.out.new (HLB.out _ hu)).row.cell (j := 2) rfl; have l3 := (B3.out.new (HLB.out _ hu)).row.cell (j := 3) rfl; have ll := (B3.out.new (HLB.out _ hu)).row.lt; clear hu; go_simp)
                  try simp only [Act.put, List.getElem_toArray, List.getElem_cons_succ, List.getElem_cons_zero, List.setIfInBounds_toArray, List.set_cons_zero, List.set_cons_succ]
                  refine wpAnyH_take (i := 16) (v := .bool true) rfl (by kernel_rfl) (by kernel_rfl) (by kernel_rfl) (fun _ _ _ h => h) (Or.inl ⟨by kernel_rfl, ?ld⟩) hS ?_; case ld => (intro uu hu; clear hu; go_simp)
                  try simp only [Act.put, List.getElem_toArray, List.getElem_cons_succ, List.getElem_cons_zero, List.setIfInBounds_toArray, List.set_cons_zero, List.set_cons_succ]
                  refine wpAnyH_take (i := 17) (v := .bool true) rfl (by kernel_rfl) (by kernel_rfl) (by kernel_rfl) (fun _ _ _ h => h) (Or.inl ⟨by kernel_rfl, fun uu hu => (by kernel_rfl)⟩) hS ?_
                  try simp only [Act.put, List.getElem_toArray, List.getElem_cons_succ, List.getElem_cons_zero, List.setIfInBounds_toArray, List.set_cons_zero, List.set_cons_succ]
                  refine wpAnyH_take (i := 18) (v := ?_) rfl (by kernel_rfl) (by kernel_rfl) (by kernel_rfl) (fun _ _ _ h => h) (Or.inl ⟨by kernel_rfl, ?_⟩) hS ?_; rotate_left; focus (intro uu hu; clear hu; go_simp; try with_reducible rfl)
                  try simp only [Act.put, List.getElem_toArray, List.getElem_cons_succ, List.getElem_cons_zero, List.setIfInBounds_toArray, List.set_cons_zero, List.set_cons_succ]
                  refine wpAnyH_done (by kernel_rfl) ?_ _
                  go_wp2_with fail
                  go_meet
                  exact ⟨rfl, hS⟩
              case rest =>
                obtain ⟨rfl, hS⟩ := hcut
                obtain ⟨v11, rfl⟩ : ∃ v : World, v = wc := ⟨_, rfl⟩
                have hbS := HLB.out _ hS
                clear hS HS0 HNEW HLB S
                replace B3 := hide (B3.out.new hbS)
                replace B5 := hide (B5.out.new hbS)
                replace B6 := hide (B6.out.new hbS)
                replace HBW := hide (bchain HBW.out hbS)
                clear hbS
                go_wp2_with fail
                go_ret
                exact ⟨rfl, HBW.out⟩
      · skip
        have z0 := B6.out.row.cell (j := 0) rfl
        have z1 := B6.out.row.cell (j := 1) rfl
        have z2 := B6.out.row.cell (j := 2) rfl
        have z3 := B6.out.row.cell (j := 3) rfl
        have zl := B6.out.row.lt
        go_upto_region 12 with fail
        clear z0 z1 z2 z3 zl
        cases hok : okBk b
        · skip
          obtain rfl : xd = zBk := by rw [HX.out]; unfold filV; rw [if_pos hok]
          have x0 := B3.out.row.cell (j := 0) rfl
          have x1 := B3.out.row.cell (j := 1) rfl
          have x2 := B3.out.row.cell (j := 2) rfl
          have x3 := B3.out.row.cell (j := 3) rfl
          have xl := B3.out.row.lt
          have y0 := B5.out.row.cell (j := 0) rfl
          have y1 := B5.out.row.cell (j := 1) rfl
          have y2 := B5.out.row.cell (j := 2) rfl
          have y3 := B5.out.row.cell (j := 3) rfl
          have yl := B5.out.row.lt
          go_wp2_with fail
          refine (specBucketOk b _).mono ?_; rw [hok]; rintro x w9 ⟨rfl, hb⟩
          clear x0 x1 x2 x3 xl
          clear y0 y1 y2 y3 yl
          replace B3 := hide (B3.out.new hb)
          replace B5 := hide (B5.out.new hb)
          replace B6 := hide (B6.out.new hb)
          replace HBW := hide (bchain HBW.out hb)
          clear hb
          have y0 := B5.out.row.cell (j := 0) rfl
          have y1 := B5.out.row.cell (j := 1) rfl
          have y2 := B5.out.row.cell (j := 2) rfl
          have y3 := B5.out.row.cell (j := 3) rfl
          have yl := B5.out.row.lt
          have hq := bk_eql 0 0 0 0
          have hg := bk_guard
          dsimp only [zBk] at y0 y1 y2 y3
          go_wp2_with fail
          go_ret
          exact ⟨rfl, HBW.out⟩
        · skip
          have x0 := B3.out.row.cell (j := 0) rfl
          have x1 := B3.out.row.cell (j := 1) rfl
          have x2 := B3.out.row.cell (j := 2) rfl
          have x3 := B3.out.row.cell (j := 3) rfl
          have xl := B3.out.row.lt
          go_wp2_with fail
          refine (specBucketOk b _).mono ?_; rw [hok]; rintro x w9 ⟨rfl, hb⟩
          clear x0 x1 x2 x3 xl
          replace B3 := hide (B3.out.new hb)
          replace B5 := hide (B5.out.new hb)
          replace B6 := hide (B6.out.new hb)
          replace HBW := hide (bchain HBW.out hb)
          clear hb
          cases hin : inB now b.a 1000000
          · skip
            obtain rfl : xd = b := by rw [HX.out]; unfold filV; rw [if_neg (by rw [hok]; decide), if_pos hin]
            have hin2 := inB_false hin
            have hq := bk_eql xd.r xd.m xd.l xd.a
            have hg := bk_guard
            have x0 := B3.out.row.cell (j := 0) rfl
            have x1 := B3.out.row.cell (j := 1) rfl
            have x2 := B3.out.row.cell (j := 2) rfl
            have x3 := B3.out.row.cell (j := 3) rfl
            have xl := B3.out.row.lt
            have y0 := B5.out.row.cell (j := 0) rfl
            have y1 := B5.out.row.cell (j := 1) rfl
            have y2 := B5.out.row.cell (j := 2) rfl
            have y3 := B5.out.row.cell (j := 3) rfl
            have yl := B5.out.row.lt
            by_cases hlo : now < xd.a
            · go_wp2_with fail
              go_ret
              exact ⟨rfl, HBW.out⟩
            · have hhi : 1000000 < now := by omega
              clear hin2
              go_wp2_with fail
              go_ret
              exact ⟨rfl, HBW.out⟩
          · skip
            obtain ⟨n0, n1⟩ := inB_true hin
            have hxd : xd = fil b now := by rw [HX.out]; unfold filV; rw [if_neg (by rw [hok]; decide), if_neg (by rw [hin]; decide)]
            have hxl : b.l ≤ xd.l := by rw [hxd]; exact (lv_bd hok n0 n1).1
            have hxok : okBk xd = true := by rw [hxd]; exact fil_ok hok n0 n1
            clear hxd
            have hbs := okBk_true hok
            obtain ⟨-, -, -, t0, t1⟩ := hbs
            have wn : IntKind.i64.wrap (now - b.a) = now - b.a := by rw [IntKind.wrap_i64]; omega
            have wn2 : IntKind.i64.wrap (now - b.a + 1) = now - b.a + 1 := by rw [IntKind.wrap_i64]; omega
            have hlo : ¬ now < b.a := by omega
            have hhi : ¬ 1000000 < now := by omega
            have x0 := B3.out.row.cell (j := 0) rfl
            have x1 := B3.out.row.cell (j := 1) rfl
            have x2 := B3.out.row.cell (j := 2) rfl
            have x3 := B3.out.row.cell (j := 3) rfl
            have xl := B3.out.row.lt
            go_upto_region 16 with fail
            clear x0 x1 x2 x3 xl
            skip
            obtain ⟨S, HS0, HNEW, HLB⟩ : ∃ S : World → Prop, Hid (S w9) ∧ Hid (∀ u u1, S u → Below u.heap.size u u1 → S u1) ∧ Hid (∀ u, S u → Below w9.heap.size w9 u) := ⟨fun u => Below w9.heap.size w9 u, hide (Below.refl _ _), hide (fun u u1 h h1 => bchain h h1), hide (fun u h => h)⟩
            go_cut [9] (fun c wx => (∃ z : Int, c = .int .i64 (b.a + z) ∧ 0 ≤ z ∧ z < now - b.a + 1) ∧ S wx)
            case first =>
              as_aux_lemma =>
                have hS : S (World.drew w9) := HNEW.out _ _ HS0.out (Below.refl _ _).drew
                go_wp2_with fail
                refine wp_region_held (S := S) (by kernel_rfl) ?_
                change wpAnyH _ _ _ _ _ _ _ _ (World.drew _)
                refine wpAnyH_take (i := 0) (v := ?_) rfl (by kernel_rfl) (by kernel_rfl) (by kernel_rfl) (fun _ _ _ h => h) (Or.inl ⟨by kernel_rfl, ?_⟩) hS ?_; rotate_left; focus (intro uu hu; clear hu; go_simp; try with_reducible rfl)
                try simp only [Act.put, List.getElem_toArray, List.getElem_cons_succ, List.getElem_cons_zero, List.setIfInBounds_toArray, List.set_cons_zero, List.set_cons_succ]
                refine wpAnyH_take (i := 1) (v := (.int .i64 b.a)) rfl (by kernel_rfl) (by kernel_rfl) (by kernel_rfl) (fun _ _ _ h => h) (Or.inl ⟨by kernel_rfl, ?ld⟩) hS ?_; case ld => (intro uu hu; have l0 := (B3.out.new (HLB.out _ hu)).row.cell (j := 0) rfl; have l1 := (B3.out.new (HLB.out _ hu)).row.cell (j := 1) rfl; have l2 := (B3.out.new (HLB.out _ hu)).row.cell (j := 2) rfl; have l3 := (B3.out.new (HLB.out _ hu)).row.cell (j := 3) rfl; have ll := (B3.out.new (HLB.out _ hu)).row.lt; clear hu; go_simp)
                try simp only [Act.put, List.getElem_toArray, List.getElem_cons_succ, List.getElem_cons_zero, List.setIfInBounds_toArray, List.set_cons_zero, List.set_cons_succ]
                refine wpAnyH_take (i := 2) (v := ?_) rfl (by kernel_rfl) (by kernel_rfl) (by kernel_rfl) (fun _ _ _ h => h) (Or.inl ⟨by kernel_rfl, ?_⟩) hS ?_; rotate_left; focus (intro uu hu; clear hu; go_simp; try with_reducible rfl)
                try simp only [Act.put, List.getElem_toArray, List.getElem_cons_succ, List.getElem_cons_zero, List.setIfInBounds_toArray, List.set_cons_zero, List.set_cons_succ]
                refine wpAnyH_take (i := 3) (v := ?_) rfl (by kernel_rfl) (by kernel_rfl) (by kernel_rfl) (fun _ _ _ h => h) (Or.inl ⟨by kernel_rfl, ?_⟩) hS ?_; rotate_left; focus (intro uu hu; clear hu; go_simp; try with_reducible rfl)
                try simp only [Act.put, List.getElem_toArray, List.getElem_cons_succ, List.getElem_cons_zero, List.setIfInBounds_toArray, List.set_cons_zero, List.set_cons_succ]
                refine wpAnyH_take (i := 4) (v := ?_) rfl (by kernel_rfl) (by kernel_rfl) (by kernel_rfl) (fun _ _ _ h => h) (Or.inl ⟨by kernel_rfl, ?_⟩) hS ?_; rotate_left; focus (intro uu hu; clear hu; go_simp; try with_reducible rfl)
                try simp only [Act.put, List.getElem_toArray, List.getElem_cons_succ, List.getElem_cons_zero, List.setIfInBounds_toArray, List.set_cons_zero, List.set_cons_succ]
                refine wpAnyH_take (i := 5) (v := (.int .i64 b.a)) rfl (by kernel_rfl) (by kernel_rfl) (by kernel_rfl) (fun _ _ _ h => h) (Or.inl ⟨by kernel_rfl, ?ld⟩) hS ?_; case ld => (intro uu hu; have l0 := (B3.out.new (HLB.out _ hu)).row.cell (j := 0) rfl; have l1 := (B3.out.new (HLB.out _ hu)).row.cell (j := 1) rfl; have l2 := (B3.out.new (HLB.out _ hu)).row.cell (j := 2) rfl; have l3 := (B3.out.new (HLB.out _ hu)).row.cell (j := 3) rfl; have ll := (B3.out.new (HLB.out _ hu)).row.lt; clear hu; go_simp)
                try simp only [Act.put, List.getElem_toArray, List.getElem_cons_succ, List.getElem_cons_zero, List.setIfInBounds_toArray, List.set_cons_zero, List.set_cons_succ]
                refine wpAnyH_take (i := 6) (v := ?_) rfl (by kernel_rfl) (by kernel_rfl) (by kernel_rfl) (fun _ _ _ h => h) (Or.inl ⟨by kernel_rfl, ?_⟩) hS ?_; rotate_left; focus (intro uu hu; clear hu; go_simp; try with_reducible rfl)
                try simp only [Act.put, List.getElem_toArray, List.getElem_cons_succ, List.getElem_cons_zero, List.setIfInBounds_toArray, List.set_cons_zero, List.set_cons_succ]
                refine wpAnyH_take (i := 7) (v := ?_) rfl (by kernel_rfl) (by kernel_rfl) (by kernel_rfl) (fun _ _ _ h => h) (Or.inl ⟨by kernel_rfl, ?_⟩) hS ?_; rotate_left; focus (intro uu hu; clear hu; go_simp; try with_reducible rfl)
                try simp only [Act.put, List.getElem_toArray, List.getElem_cons_succ, List.getElem_cons_zero, List.setIfInBounds_toArray, List.set_cons_zero, List.set_cons_succ]
                refine wpAnyH_ready (rs := [8]) (by kernel_rfl) (by simp) ?_; refine AllReadyH.cons rfl (fun K hK => ?_) AllReadyH.nil; rw [if_pos (by kernel_rfl)]; go_simp
                refine (pick1 a len cap 1 (now - b.a + 1) _ _ hl' ((HCODE.out.behind HBW.out).behind (HLB.out _ hS)) (by omega) (by omega) (by omega) (by omega)).mono ?_; rintro e x9 ⟨z, z0, z1, rfl, hsame⟩; obtain rfl := hsame.symm; clear hsame
                refine hK.out _ _ hS (fun hS => ?_)
                clear hK K
                try simp only [Act.put, List.getElem_toArray, List.getElem_cons_succ, List.getElem_cons_zero, List.setIfInBounds_toArray, List.set_cons_zero, List.set_cons_succ]
                have wz : IntKind.i64.wrap (b.a + z) = b.a + z := by rw [IntKind.wrap_i64]; omega
                refine wpAnyH_take (i := 9) (v := ?_) rfl (by kernel_rfl) (by kernel_rfl) (by kernel_rfl) (fun _ _ _ h => h) (Or.inl ⟨by kernel_rfl, ?_⟩) hS ?_; rotate_left; focus (intro uu hu; clear hu; go_simp; try with_reducible rfl)
                try simp only [Act.put, List.getElem_toArray, List.getElem_cons_succ, List.getElem_cons_zero, List.setIfInBounds_toArray, List.set_cons_zero, List.set_cons_succ]
                refine wpAnyH_take (i := 10) (v := ?_) rfl (by kernel_rfl) (by kernel_rfl) (by kernel_rfl) (fun _ _ _ h => h) (Or.inl ⟨by kernel_rfl, ?_⟩) hS ?_; rotate_left; focus (intro uu hu; clear hu; go_simp; try with_reducible rfl)
                try simp only [Act.put, List.getElem_toArray, List.getElem_cons_succ, List.getElem_cons_zero, List.setIfInBounds_toArray, List.set_cons_zero, List.set_cons_succ]
                refine wpAnyH_done (by kernel_rfl) ?_ _
                go_wp2_with fail
                go_meet
                exact ⟨⟨z, rfl, z0, z1⟩, hS⟩
            case rest =>
              obtain ⟨⟨z, rfl, z0, z1⟩, hS⟩ := hcut
              obtain ⟨w10, rfl⟩ : ∃ v : World, v = wc := ⟨_, rfl⟩
              have hbS := HLB.out _ hS
              clear hS HS0 HNEW HLB S
              replace B3 := hide (B3.out.new hbS)
              replace B5 := hide (B5.out.new hbS)
              replace B6 := hide (B6.out.new hbS)
              replace HBW := hide (bchain HBW.out hbS)
              clear hbS
              have hff := filV_filV hok (mid := b.a + z) (now := now) (by omega) (by omega) n1
              rw [← HX.out] at hff
              have HFF := hide hff
              clear hff
              go_upto_region 17 with fail
              obtain ⟨S, HS0, HNEW, HLB⟩ : ∃ S : World → Prop, Hid (S w10) ∧ Hid (∀ u u1, S u → Below u.heap.size u u1 → S u1) ∧ Hid (∀ u, S u → Below w10.heap.size w10 u) := ⟨fun u => Below w10.heap.size w10 u, hide (Below.refl _ _), hide (fun u u1 h h1 => bchain h h1), hide (fun u h => h)⟩
              go_cut [2] (fun c wx => c = .bool true ∧ S wx)
              case first =>
                as_aux_lemma =>
                  have hS : S (World.drew w10) := HNEW.out _ _ HS0.out (Below.refl _ _).drew
                  go_wp2_with fail
                  refine wp_region_held (S := S) (by kernel_rfl) ?_
                  change wpAnyH _ _ _ _ _ _ _ _ (World.drew _)
                  refine wpAnyH_take (i := 0) (v := (.agg #[.int .i64 xd.r, .int .i64 xd.m, .int .i64 xd.l, .int .i64 xd.a])) rfl (by kernel_rfl) (by kernel_rfl) (by kernel_rfl) (fun _ _ _ h => h) (Or.inl ⟨by kernel_rfl, ?ld⟩) hS ?_; case ld => (intro uu hu; have l0 := (B5.out.new (HLB.out _ hu)).row.cell (j := 0) rfl; have l1 := (B5.out.new (HLB.out _ hu)).row.cell (j := 1) rfl; have l2 := (B5.out.new (HLB.out _ hu)).row.cell (j := 2) rfl; have l3 := (B5.out.new (HLB.out _ hu)).row.cell (j := 3) rfl; have ll := (B5.out.new (HLB.out _ hu)).row.lt; clear hu; go_simp)
                  try simp only [Act.put, List.getElem_toArray, List.getElem_cons_succ, List.getElem_cons_zero, List.setIfInBounds_toArray, List.set_cons_zero, List.set_cons_succ]
                  refine wpAnyH_ready (rs := [1]) (by kernel_rfl) (by simp) ?_; refine AllReadyH.cons rfl (fun K hK => ?_) AllReadyH.nil; rw [if_pos (by kernel_rfl)]; go_simp
                  have hcl := fun uq => implBucketOk xd uq
                  rw [hxok] at hcl
                  try dsimp only at hcl
                  refine (hcl _).mono ?_; clear hcl; rintro e x10 ⟨rfl, hx10⟩
                  refine hK.out _ _ (HNEW.out _ _ hS hx10) (fun hS => ?_)
                  clear hK K
                  try simp only [Act.put, List.getElem_toArray, List.getElem_cons_succ, List.getElem_cons_zero, List.setIfInBounds_toArray, List.set_cons_zero, List.set_cons_succ]
                  refine wpAnyH_take (i := 2) (v := .bool true) rfl (by kernel_rfl) (by kernel_rfl) (by kernel_rfl) (fun _ _ _ h => h) (Or.inl ⟨by kernel_rfl, fun uu hu => (by kernel_rfl)⟩) hS ?_
                  try simp only [Act.put, List.getElem_toArray, List.getElem_cons_succ, List.getElem_cons_zero, List.setIfInBounds_toArray, List.set_cons_zero, List.set_cons_succ]
                  refine wpAnyH_take (i := 3) (v := (.agg #[.int .i64 b.r, .int .i64 b.m, .int .i64 b.l, .int .i64 b.a])) rfl (by kernel_rfl) (by kernel_rfl) (by kernel_rfl) (fun _ _ _ h => h) (Or.inl ⟨by kernel_rfl, ?ld⟩) hS ?_; case ld => (intro uu hu; have l0 := (B3.out.new (HLB.out _ hu)).row.cell (j := 0) rfl; have l1 := (B3.out.new (HLB.out _ hu)).row.cell (j := 1) rfl; have l2 := (B3.out.new (HLB.out _ hu)).row.cell (j := 2) rfl; have l3 := (B3.out.new (HLB.out _ hu)).row.cell (j := 3) rfl; have ll := (B3.out.new (HLB.out _ hu)).row.lt; clear hu; go_simp)
                  try simp only [Act.put, List.getElem_toArray, List.getElem_cons_succ, List.getElem_cons_zero, List.setIfInBounds_toArray, List.set_cons_zero, List.set_cons_succ]
                  refine wpAnyH_take (i := 4) (v := ?_) rfl (by kernel_rfl) (by kernel_rfl) (by kernel_rfl) (fun _ _ _ h => h) (Or.inl ⟨by kernel_rfl, ?_⟩) hS ?_; rotate_left; focus (intro uu hu; clear hu; go_simp; try with_reducible rfl)
                  try simp only [Act.put, List.getElem_toArray, List.getElem_cons_succ, List.getElem_cons_zero, List.setIfInBounds_toArray, List.set_cons_zero, List.set_cons_succ]
                  refine wpAnyH_take (i := 6) (v := ?_) rfl (by kernel_rfl) (by kernel_rfl) (by kernel_rfl) (fun _ _ _ h => h) (Or.inl ⟨by kernel_rfl, ?_⟩) hS ?_; rotate_left; focus (intro uu hu; clear hu; go_simp; try with_reducible rfl)
                  try simp only [Act.put, List.getElem_toArray, List.getElem_cons_succ, List.getElem_cons_zero, List.setIfInBounds_toArray, List.set_cons_zero, List.set_cons_succ]
                  refine wpAnyH_take (i := 8) (v := (.agg #[.int .i64 xd.r, .int .i64 xd.m, .int .i64 xd.l, .int .i64 xd.a])) rfl (by kernel_rfl) (by kernel_rfl) (by kernel_rfl) (fun _ _ _ h => h) (Or.inl ⟨by kernel_rfl, ?ld⟩) hS ?_; case ld => (intro uu hu; have l0 := (B5.out.new (HLB.out _ hu)).row.cell (j := 0) rfl; have l1 := (B5.out.new (HLB.out _ hu)).row.cell (j := 1) rfl; have l2 := (B5.out.new (HLB.out _ hu)).row.cell (j := 2) rfl; have l3 := (B5.out.new (HLB.out _ hu)).row.cell (j := 3) rfl; have ll := (B5.out.new (HLB.out _ hu)).row.lt; clear hu; go_simp)
                  try simp only [Act.put, List.getElem_toArray, List.getElem_cons_succ, List.getElem_cons_zero, List.setIfInBounds_toArray, List.set_cons_zero, List.set_cons_succ]
                  refine wpAnyH_ready (rs := [5]) (by kernel_rfl) (by simp) ?_; refine AllReadyH.cons rfl (fun K hK => ?_) AllReadyH.nil; rw [if_pos (by kernel_rfl)]; go_simp
                  skip
                  refine (implFilled b (b.a + z) _).mono ?_; rintro e x11 ⟨rfl, hx11⟩
                  refine hK.out _ _ (HNEW.out _ _ hS hx11) (fun hS => ?_)
                  clear hK K
                  try simp only [Act.put, List.getElem_toArray, List.getElem_cons_succ, List.getElem_cons_zero, List.setIfInBounds_toArray, List.set_cons_zero, List.set_cons_succ]
                  refine wpAnyH_ready (rs := [7]) (by kernel_rfl) (by simp) ?_; refine AllReadyH.cons rfl (fun K hK => ?_) AllReadyH.nil; rw [if_pos (by kernel_rfl)]; go_simp
                  have hcl := fun uq => implFilled (filV b (b.a + z)) now uq
                  rw [HFF.out] at hcl
                  try dsimp only at hcl
                  refine (hcl _).mono ?_; clear hcl; rintro e x12 ⟨rfl, hx12⟩
                  refine hK.out _ _ (HNEW.out _ _ hS hx12) (fun hS => ?_)
                  clear hK K
                  try simp only [Act.put, List.getElem_toArray, List.getElem_cons_succ, List.getElem_cons_zero, List.setIfInBounds_toArray, List.set_cons_zero, List.set_cons_succ]
                  refine wpAnyH_take (i := 9) (v := .bool true) rfl (by kernel_rfl) (by kernel_rfl) (by kernel_rfl) (fun _ _ _ h => h) (Or.inl ⟨by kernel_rfl, ?ld⟩) hS ?_; case ld => (intro uu hu; clear hu; have hq := bk_eql xd.r xd.m xd.l xd.a; have hg := bk_guard; go_simp)
                  try simp only [Act.put, List.getElem_toArray, List.getElem_cons_succ, List.getElem_cons_zero, List.setIfInBounds_toArray, List.set_cons_zero, List.set_cons_succ]
                  refine wpAnyH_take (i := 10) (v := .bool true) rfl (by kernel_rfl) (by kernel_rfl) (by kernel_rfl) (fun _ _ _ h => h) (Or.inl ⟨by kernel_rfl, fun uu hu => (by kernel_rfl)⟩) hS ?_
                  try simp only [Act.put, List.getElem_toArray, List.getElem_cons_succ, List.getElem_cons_zero, List.setIfInBounds_toArray, List.set_cons_zero, List.set_cons_succ]
                  refine wpAnyH_take (i := 11) (v := .bool true) rfl (by kernel_rfl) (by kernel_rfl) (by kernel_rfl) (fun _ _ _ h => h) (Or.inl ⟨by kernel_rfl, fun uu hu => (by kernel_rfl)⟩) hS ?_
                  try simp only [Act.put, List.getElem_toArray, List.getElem_cons_succ, List.getElem_cons_zero, List.setIfInBounds_toArray, List.set_cons_zero, List.set_cons_succ]
                  refine wpAnyH_take (i := 12) (v := ?_) rfl (by kernel_rfl) (by kernel_rfl) (by kernel_rfl) (fun _ _ _ h => h) (Or.inl ⟨by kernel_rfl, ?_⟩) hS ?_; rotate_left; focus (intro uu hu; clear hu; go_simp; try with_reducible rfl)
                  try simp only [Act.put, List.getElem_toArray, List.getElem_cons_succ, List.getElem_cons_zero, List.setIfInBounds_toArray, List.set_cons_zero, List.set_cons_succ]
                  refine wpAnyH_take (i := 13) (v := (.int .i64 xd.l)) rfl (by kernel_rfl) (by kernel_rfl) (by kernel_rfl) (fun _ _ _ h => h) (Or.inl ⟨by kernel_rfl, ?ld⟩) hS ?_; case ld => (intro uu hu; have l0 := (B5.out.new (HLB.out _ hu)).row.cell (j := 0) rfl; have l1 := (B5.out.new (HLB.out _ hu)).row.cell (j := 1) rfl; have l2 := (B5.out.new (HLB.out _ hu)).row.cell (j := 2) rfl; have l3 := (B5.out.new (HLB.out _ hu)).row.cell (j := 3) rfl; have ll := (B5.out.new (HLB.out _ hu)).row.lt; clear hu; go_simp)
                  try simp only [Act.put, List.getElem_toArray, List.getElem_cons_succ, List.getElem_cons_zero, List.setIfInBounds_toArray, List.set_cons_zero, List.set_cons_succ]
                  refine wpAnyH_take (i := 14) (v := ?_) rfl (by kernel_rfl) (by kernel_rfl) (by kernel_rfl) (fun _ _ _ h => h) (Or.inl ⟨by kernel_rfl, ?_⟩) hS ?_; rotate_left; focus (intro uu hu; clear hu; go_simp; try with_reducible rfl)
                  try simp only [Act.put, List.getElem_toArray, List.getElem_cons_succ, List.getElem_cons_zero, List.setIfInBounds_toArray, List.set_cons_zero, List.set_cons_succ]
                  refine wpAnyH_take (i := 15) (v := (.int .i64 b.l)) rfl (by kernel_rfl) (by kernel_rfl) (by kernel_rfl) (fun _ _ _ h => h) (Or.inl ⟨by kernel_rfl, ?ld⟩) hS ?_; case ld => (intro uu hu; have l0 := (B3.out.new (HLB.out _ hu)).row.cell (j := 0) rfl; have l1 := (B3.out.new (HLB.out _ hu)).row.cell (j := 1) rfl; have l2 := (B3.out.new (HLB.out _ hu)).row.cell (j := 2) rfl; have l3 := (B3.out.new (HLB.out _ hu)).row.cell (j := 3) rfl; have ll := (B3.out.new (HLB.out _ hu)).row.lt; clear hu; go_simp)
                  try simp only [Act.put, List.getElem_toArray, List.getElem_cons_succ, List.getElem_cons_zero, List.setIfInBounds_toArray, List.set_cons_zero, List.set_cons_succ]
                  refine wpAnyH_take (i := 16) (v := .bool true) rfl (by kernel_rfl) (by kernel_rfl) (by kernel_rfl) (fun _ _ _ h => h) (Or.inl ⟨by kernel_rfl, ?ld⟩) hS ?_; case ld => (intro uu hu; clear hu; go_simp)
                  try simp only [Act.put, List.getElem_toArray, List.getElem_cons_succ, List.getElem_cons_zero, List.setIfInBounds_toArray, List.set_cons_zero, List.set_cons_succ]
                  refine wpAnyH_take (i := 17) (v := .bool true) rfl (by kernel_rfl) (by kernel_rfl) (by kernel_rfl) (fun _ _ _ h => h) (Or.inl ⟨by kernel_rfl, fun uu hu => (by kernel_rfl)⟩) hS ?_
                  try simp only [Act.put, List.getElem_toArray, List.getElem_cons_succ, List.getElem_cons_zero, List.setIfInBounds_toArray, List.set_cons_zero, List.set_cons_succ]
                  refine wpAnyH_take (i := 18) (v := ?_) rfl (by kernel_rfl) (by kernel_rfl) (by kernel_rfl) (fun _ _ _ h => h) (Or.inl ⟨by kernel_rfl, ?_⟩) hS ?_; rotate_left; focus (intro uu hu; clear hu; go_simp; try with_reducible rfl)
                  try simp only [Act.put, List.getElem_toArray, List.getElem_cons_succ, List.getElem_cons_zero, List.setIfInBounds_toArray, List.set_cons_zero, List.set_cons_succ]
                  refine wpAnyH_done (by kernel_rfl) ?_ _
                  go_wp2_with fail
                  go_meet
                  exact ⟨rfl, hS⟩
              case rest =>
                obtain ⟨rfl, hS⟩ := hcut
                obtain ⟨v11, rfl⟩ : ∃ v : World, v = wc := ⟨_, rfl⟩
                have hbS := HLB.out _ hS
                clear hS HS0 HNEW HLB S
                replace B3 := hide (B3.out.new hbS)
                replace B5 := hide (B5.out.new hbS)
                replace B6 := hide (B6.out.new hbS)
                replace HBW := hide (bchain HBW.out hbS)
                clear hbS
                go_wp2_with fail
                go_ret
                exact ⟨rfl, HBW.out⟩
    · skip
      cases hok : okBk b
      · skip
        obtain rfl : xd = zBk := by rw [HX.out]; unfold filV; rw [if_pos hok]
        have x0 := B3.out.row.cell (j := 0) rfl
        have x1 := B3.out.row.cell (j := 1) rfl
        have x2 := B3.out.row.cell (j := 2) rfl
        have x3 := B3.out.row.cell (j := 3) rfl
        have xl := B3.out.row.lt
        have y0 := B5.out.row.cell (j := 0) rfl
        have y1 := B5.out.row.cell (j := 1) rfl
        have y2 := B5.out.row.cell (j := 2) rfl
        have y3 := B5.out.row.cell (j := 3) rfl
        have yl := B5.out.row.lt
        go_wp2_with fail
        refine (specBucketOk b _).mono ?_; rw [hok]; rintro x w9 ⟨rfl, hb⟩
        clear x0 x1 x2 x3 xl
        clear y0 y1 y2 y3 yl
        replace B3 := hide (B3.out.new hb)
        replace B5 := hide (B5.out.new hb)
        replace B6 := hide (B6.out.new hb)
        replace HBW := hide (bchain HBW.out hb)
        clear hb
        have y0 := B5.out.row.cell (j := 0) rfl
        have y1 := B5.out.row.cell (j := 1) rfl
        have y2 := B5.out.row.cell (j := 2) rfl
        have y3 := B5.out.row.cell (j := 3) rfl
        have yl := B5.out.row.lt
        have hq := bk_eql 0 0 0 0
        have hg := bk_guard
        dsimp only [zBk] at y0 y1 y2 y3
        go_wp2_with fail
        go_ret
        exact ⟨rfl, HBW.out⟩
      · skip
        have x0 := B3.out.row.cell (j := 0) rfl
        have x1 := B3.out.row.cell (j := 1) rfl
        have x2 := B3.out.row.cell (j := 2) rfl
        have x3 := B3.out.row.cell (j := 3) rfl
        have xl := B3.out.row.lt
        go_wp2_with fail
        refine (specBucketOk b _).mono ?_; rw [hok]; rintro x w9 ⟨rfl, hb⟩
        clear x0 x1 x2 x3 xl
        replace B3 := hide (B3.out.new hb)
        replace B5 := hide (B5.out.new hb)
        replace B6 := hide (B6.out.new hb)
        replace HBW := hide (bchain HBW.out hb)
        clear hb
        cases hin : inB now b.a 1000000
        · skip
          obtain rfl : xd = b := by rw [HX.out]; unfold filV; rw [if_neg (by rw [hok]; decide), if_pos hin]
          have hin2 := inB_false hin
          have hq := bk_eql xd.r xd.m xd.l xd.a
          have hg := bk_guard
          have x0 := B3.out.row.cell (j := 0) rfl
          have x1 := B3.out.row.cell (j := 1) rfl
          have x2 := B3.out.row.cell (j := 2) rfl
          have x3 := B3.out.row.cell (j := 3) rfl
          have xl := B3.out.row.lt
          have y0 := B5.out.row.cell (j := 0) rfl
          have y1 := B5.out.row.cell (j := 1) rfl
          have y2 := B5.out.row.cell (j := 2) rfl
          have y3 := B5.out.row.cell (j := 3) rfl
          have yl := B5.out.row.lt
          by_cases hlo : now < xd.a
          · go_wp2_with fail
            go_ret
            exact ⟨rfl, HBW.out⟩
          · have hhi : 1000000 < now := by omega
            clear hin2
            go_wp2_with fail
            go_ret
            exact ⟨rfl, HBW.out⟩
        · skip
          obtain ⟨n0, n1⟩ := inB_true hin
          have hxd : xd = fil b now := by rw [HX.out]; unfold filV; rw [if_neg (by rw [hok]; decide), if_neg (by rw [hin]; decide)]
          have hxl : b.l ≤ xd.l := by rw [hxd]; exact (lv_bd hok n0 n1).1
          have hxok : okBk xd = true := by rw [hxd]; exact fil_ok hok n0 n1
          clear hxd
          have hbs := okBk_true hok
          obtain ⟨-, -, -, t0, t1⟩ := hbs
          have wn : IntKind.i64.wrap (now - b.a) = now - b.a := by rw [IntKind.wrap_i64]; omega
          have wn2 : IntKind.i64.wrap (now - b.a + 1) = now - b.a + 1 := by rw [IntKind.wrap_i64]; omega
          have hlo : ¬ now < b.a := by omega
          have hhi : ¬ 1000000 < now := by omega
          have x0 := B3.out.row.cell (j := 0) rfl
          have x1 := B3.out.row.cell (j := 1) rfl
          have x2 := B3.out.row.cell (j := 2) rfl
          have x3 := B3.out.row.cell (j := 3) rfl
          have xl := B3.out.row.lt
          go_upto_region 16 with fail
          clear x0 x1 x2 x3 xl
          skip
          obtain ⟨S, HS0, HNEW, HLB⟩ : ∃ S : World → Prop, Hid (S w9) ∧ Hid (∀ u u1, S u → Below u.heap.size u u1 → S u1) ∧ Hid (∀ u, S u → Below w9.heap.size w9 u) := ⟨fun u => Below w9.heap.size w9 u, hide (Below.refl _ _), hide (fun u u1 h h1 => bchain h h1), hide (fun u h => h)⟩
          go_cut [9] (fun c wx => (∃ z : Int, c = .int .i64 (b.a + z) ∧ 0 ≤ z ∧ z < now - b.a + 1) ∧ S wx)
          case first =>
            as_aux_lemma =>
              have hS : S (World.drew w9) := HNEW.out _ _ HS0.out (Below.refl _ _).drew
              go_wp2_with fail
              refine wp_region_held (S := S) (by kernel_rfl) ?_
              change wpAnyH _ _ _ _ _ _ _ _ (World.drew _)
              refine wpAnyH_take (i := 0) (v := ?_) rfl (by kernel_rfl) (by kernel_rfl) (by kernel_rfl) (fun _ _ _ h => h) (Or.inl ⟨by kernel_rfl, ?_⟩) hS ?_; rotate_left; focus (intro uu hu; clear hu; go_simp; try with_reducible rfl)
              try simp only [Act.put, List.getElem_toArray, List.getElem_cons_succ, List.getElem_cons_zero, List.setIfInBounds_toArray, List.set_cons_zero, List.set_cons_succ]
              refine wpAnyH_take (i := 1) (v := (.int .i64 b.a)) rfl (by kernel_rfl) (by kernel_rfl) (by kernel_rfl) (fun _ _ _ h => h) (Or.inl ⟨by kernel_rfl, ?ld⟩) hS ?_; case ld => (intro uu hu; have l0 := (B3.out.new (HLB.out _ hu)).row.cell (j := 0) rfl; have l1 := (B3.out.new (HLB.out _ hu)).row.cell (j := 1) rfl; have l2 := (B3.out.new (HLB.out _ hu)).row.cell (j := 2) rfl; have l3 := (B3.out.new (HLB.out _ hu)).row.cell (j := 3) rfl; have ll := (B3.out.new (HLB.out _ hu)).row.lt; clear hu; go_simp)
              try simp only [Act.put, List.getElem_toArray, List.getElem_cons_succ, List.getElem_cons_zero, List.setIfInBounds_toArray, List.set_cons_zero, List.set_cons_succ]
              refine wpAnyH_take (i := 2) (v := ?_) rfl (by kernel_rfl) (by kernel_rfl) (by kernel_rfl) (fun _ _ _ h => h) (Or.inl ⟨by kernel_rfl, ?_⟩) hS ?_; rotate_left; focus (intro uu hu; clear hu; go_simp; try with_reducible rfl)
              try simp only [Act.put, List.getElem_toArray, List.getElem_cons_succ, List.getElem_cons_zero, List.setIfInBounds_toArray, List.set_cons_zero, List.set_cons_succ]
              refine wpAnyH_take (i := 3) (v := ?_) rfl (by kernel_rfl) (by kernel_rfl) (by kernel_rfl) (fun _ _ _ h => h) (Or.inl ⟨by kernel_rfl, ?_⟩) hS ?_; rotate_left; focus (intro uu hu; clear hu; go_simp; try with_reducible rfl)
              try simp only [Act.put, List.getElem_toArray, List.getElem_cons_succ, List.getElem_cons_zero, List.setIfInBounds_toArray, List.set_cons_zero, List.set_cons_succ]
              refine wpAnyH_take (i := 4) (v := ?_) rfl (by kernel_rfl) (by kernel_rfl) (by kernel_rfl) (fun _ _ _ h => h) (Or.inl ⟨by kernel_rfl, ?_⟩) hS ?_; rotate_left; focus (intro uu hu; clear hu; go_simp; try with_reducible rfl)
              try simp only [Act.put, List.getElem_toArray, List.getElem_cons_succ, List.getElem_cons_zero, List.setIfInBounds_toArray, List.set_cons_zero, List.set_cons_succ]
              refine wpAnyH_take (i := 5) (v := (.int .i64 b.a)) rfl (by kernel_rfl) (by kernel_rfl) (by kernel_rfl) (fun _ _ _ h => h) (Or.inl ⟨by kernel_rfl, ?ld⟩) hS ?_; case ld => (intro uu hu; have l0 := (B3.out.new (HLB.out _ hu)).row.cell (j := 0) rfl; have l1 := (B3.out.new (HLB.out _ hu)).row.cell (j := 1) rfl; have l2 := (B3.out.new (HLB.out _ hu)).row.cell (j := 2) rfl; have l3 := (B3.out.new (HLB.out _ hu)).row.cell (j := 3) rfl; have ll := (B3.out.new (HLB.out _ hu)).row.lt; clear hu; go_simp)
              try simp only [Act.put, List.getElem_toArray, List.getElem_cons_succ, List.getElem_cons_zero, List.setIfInBounds_toArray, List.set_cons_zero, List.set_cons_succ]
              refine wpAnyH_take (i := 6) (v := ?_) rfl (by kernel_rfl) (by kernel_rfl) (by kernel_rfl) (fun _ _ _ h => h) (Or.inl ⟨by kernel_rfl, ?_⟩) hS ?_; rotate_left; focus (intro uu hu; clear hu; go_simp; try with_reducible rfl)
              try simp only [Act.put, List.getElem_toArray, List.getElem_cons_succ, List.getElem_cons_zero, List.setIfInBounds_toArray, List.set_cons_zero, List.set_cons_succ]
              refine wpAnyH_take (i := 7) (v := ?_) rfl (by kernel_rfl) (by kernel_rfl) (by kernel_rfl) (fun _ _ _ h => h) (Or.inl ⟨by kernel_rfl, ?_⟩) hS ?_; rotate_left; focus (intro uu hu; clear hu; go_simp; try with_reducible rfl)
              try simp only [Act.put, List.getElem_toArray, List.getElem_cons_succ, List.getElem_cons_zero, List.setIfInBounds_toArray, List.set_cons_zero, List.set_cons_succ]
              refine wpAnyH_ready (rs := [8]) (by kernel_rfl) (by simp) ?_; refine AllReadyH.cons rfl (fun K hK => ?_) AllReadyH.nil; rw [if_pos (by kernel_rfl)]; go_simp
              refine (pick1 a len cap 1 (now - b.a + 1) _ _ hl' ((HCODE.out.behind HBW.out).behind (HLB.out _ hS)) (by omega) (by omega) (by omega) (by omega)).mono ?_; rintro e x13 ⟨z, z0, z1, rfl, hsame⟩; obtain rfl := hsame.symm; clear hsame
              refine hK.out _ _ hS (fun hS => ?_)
              clear hK K
              try simp only [Act.put, List.getElem_toArray, List.getElem_cons_succ, List.getElem_cons_zero, List.setIfInBounds_toArray, List.set_cons_zero, List.set_cons_succ]
              have wz : IntKind.i64.wrap (b.a + z) = b.a + z := by rw [IntKind.wrap_i64]; omega
              refine wpAnyH_take (i := 9) (v := ?_) rfl (by kernel_rfl) (by kernel_rfl) (by kernel_rfl) (fun _ _ _ h => h) (Or.inl ⟨by kernel_rfl, ?_⟩) hS ?_; rotate_left; focus (intro uu hu; clear hu; go_simp; try with_reducible rfl)
              try simp only [Act.put, List.getElem_toArray, List.getElem_cons_succ, List.getElem_cons_zero, List.setIfInBounds_toArray, List.set_cons_zero, List.set_cons_succ]
              refine wpAnyH_take (i := 10) (v := ?_) rfl (by kernel_rfl) (by kernel_rfl) (by kernel_rfl) (fun _ _ _ h => h) (Or.inl ⟨by kernel_rfl, ?_⟩) hS ?_; rotate_left; focus (intro uu hu; clear hu; go_simp; try with_reducible rfl)
              try simp only [Act.put, List.getElem_toArray, List.getElem_cons_succ, List.getElem_cons_zero, List.setIfInBounds_toArray, List.set_cons_zero, List.set_cons_succ]
              refine wpAnyH_done (by kernel_rfl) ?_ _
              go_wp2_with fail
              go_meet
              exact ⟨⟨z, rfl, z0, z1⟩, hS⟩
          case rest =>
            obtain ⟨⟨z, rfl, z0, z1⟩, hS⟩ := hcut
            obtain ⟨w10, rfl⟩ : ∃ v : World, v = wc := ⟨_, rfl⟩
            have hbS := HLB.out _ hS
            clear hS HS0 HNEW HLB S
            replace B3 := hide (B3.out.new hbS)
            replace B5 := hide (B5.out.new hbS)
            replace B6 := hide (B6.out.new hbS)
            replace HBW := hide (bchain HBW.out hbS)
            clear hbS
            have hff := filV_filV hok (mid := b.a + z) (now := now) (by omega) (by omega) n1
            rw [← HX.out] at hff
            have HFF := hide hff
            clear hff
            go_upto_region 17 with fail
            obtain ⟨S, HS0, HNEW, HLB⟩ : ∃ S : World → Prop, Hid (S w10) ∧ Hid (∀ u u1, S u → Below u.heap.size u u1 → S u1) ∧ Hid (∀ u, S u → Below w10.heap.size w10 u) := ⟨fun u => Below w10.heap.size w10 u, hide (Below.refl _ _), hide (fun u u1 h h1 => bchain h h1), hide (fun u h => h)⟩
            go_cut [2] (fun c wx => c = .bool true ∧ S wx)
            case first =>
              as_aux_lemma =>
                have hS : S (World.drew w10) := HNEW.out _ _ HS0.out (Below.refl _ _).drew
                go_wp2_with fail
                refine wp_region_held (S := S) (by kernel_rfl) ?_
                change wpAnyH _ _ _ _ _ _ _ _ (World.drew _)
                refine wpAnyH_take (i := 0) (v := (.agg #[.int .i64 xd.r, .int .i64 xd.m, .int .i64 xd.l, .int .i64 xd.a])) rfl (by kernel_rfl) (by kernel_rfl) (by kernel_rfl) (fun _ _ _ h => h) (Or.inl ⟨by kernel_rfl, ?ld⟩) hS ?_; case ld => (intro uu hu; have l0 := (B5.out.new (HLB.out _ hu)).row.cell (j := 0) rfl; have l1 := (B5.out.new (HLB.out _ hu)).row.cell (j := 1) rfl; have l2 := (B5.out.new (HLB.out _ hu)).row.cell (j := 2) rfl; have l3 := (B5.out.new (HLB.out _ hu)).row.cell (j := 3) rfl; have ll := (B5.out.new (HLB.out _ hu)).row.lt; clear hu; go_simp)
                try simp only [Act.put, List.getElem_toArray, List.getElem_cons_succ, List.getElem_cons_zero, List.setIfInBounds_toArray, List.set_cons_zero, List.set_cons_succ]
                refine wpAnyH_ready (rs := [1]) (by kernel_rfl) (by simp) ?_; refine AllReadyH.cons rfl (fun K hK => ?_) AllReadyH.nil; rw [if_pos (by kernel_rfl)]; go_simp
                have hcl := fun uq => implBucketOk xd uq
                rw [hxok] at hcl
                try dsimp only at hcl
                refine (hcl _).mono ?_; clear hcl; rintro e x14 ⟨rfl, hx14⟩
                refine hK.out _ _ (HNEW.out _ _ hS hx14) (fun hS => ?_)
                clear hK K
                try simp only [Act.put, List.getElem_toArray, List.getElem_cons_succ, List.getElem_cons_zero, List.setIfInBounds_toArray, List.set_cons_zero, List.set_cons_succ]
                refine wpAnyH_take (i := 2) (v := .bool true) rfl (by kernel_rfl) (by kernel_rfl) (by kernel_rfl) (fun _ _ _ h => h) (Or.inl ⟨by kernel_rfl, fun uu hu => (by kernel_rfl)⟩) hS ?_
                try simp only [Act.put, List.getElem_toArray, List.getElem_cons_succ, List.getElem_cons_zero, List.setIfInBounds_toArray, List.set_cons_zero, List.set_cons_succ]
                refine wpAnyH_take (i := 3) (v := (.agg #[.int .i64 b.r, .int .i64 b.m, .int .i64 b.l, .int .i64 b.a])) rfl (by kernel_rfl) (by kernel_rfl) (by kernel_rfl) (fun _ _ _ h => h) (Or.inl ⟨by kernel_rfl, ?ld⟩) hS ?_; case ld => (intro uu hu; have l0 := (B3.out.new (HLB.out _ hu)).row.cell (j := 0) rfl; have l1 := (B3.out.new (HLB.out _ hu)).row.cell (j := 1) rfl; have l2 := (B3.out.new (HLB.out _ hu)).row.cell (j := 2) rfl; have l3 := (B3.out.new (HLB.out _ hu)).row.cell (j := 3) rfl; have ll := (B3.out.new (HLB.out _ hu)).row.lt; clear hu; go_simp)
                try simp only [Act.put, List.getElem_toArray, List.getElem_cons_succ, List.getElem_cons_zero, List.setIfInBounds_toArray, List.set_cons_zero, List.set_cons_succ]
                refine wpAnyH_take (i := 4) (v := ?_) rfl (by kernel_rfl) (by kernel_rfl) (by kernel_rfl) (fun _ _ _ h => h) (Or.inl ⟨by kernel_rfl, ?_⟩) hS ?_; rotate_left; focus (intro uu hu; clear hu; go_simp; try with_reducible rfl)
                try simp only [Act.put, List.getElem_toArray, List.getElem_cons_succ, List.getElem_cons_zero, List.setIfInBounds_toArray, List.set_cons_zero, List.set_cons_succ]
                refine wpAnyH_take (i := 6) (v := ?_) rfl (by kernel_rfl) (by kernel_rfl) (by kernel_rfl) (fun _ _ _ h => h) (Or.inl ⟨by kernel_rfl, ?_⟩) hS ?_; rotate_left; focus (intro uu hu; clear hu; go_simp; try with_reducible rfl)
                try simp only [Act.put, List.getElem_toArray, List.getElem_cons_succ, List.getElem_cons_zero, List.setIfInBounds_toArray, List.set_cons_zero, List.set_cons_succ]
                refine wpAnyH_take (i := 8) (v := (.agg #[.int .i64 xd.r, .int .i64 xd.m, .int .i64 xd.l, .int .i64 xd.a])) rfl (by kernel_rfl) (by kernel_rfl) (by kernel_rfl) (fun _ _ _ h => h) (Or.inl ⟨by kernel_rfl, ?ld⟩) hS ?_; case ld => (intro uu hu; have l0 := (B5.out.new (HLB.out _ hu)).row.cell (j := 0) rfl; have l1 := (B5.out.new (HLB.out _ hu)).row.cell (j := 1) rfl; have l2 := (B5.out.new (HLB.out _ hu)).row.cell (j := 2) rfl; have l3 := (B5.out.new (HLB.out _ hu)).row.cell (j := 3) rfl; have ll := (B5.out.new (HLB.out _ hu)).row.lt; clear hu; go_simp)
                try simp only [Act.put, List.getElem_toArray, List.getElem_cons_succ, List.getElem_cons_zero, List.setIfInBounds_toArray, List.set_cons_zero, List.set_cons_succ]
                refine wpAnyH_ready (rs := [5]) (by kernel_rfl) (by simp) ?_; refine AllReadyH.cons rfl (fun K hK => ?_) AllReadyH.nil; rw [if_pos (by kernel_rfl)]; go_simp
                skip
                refine (implFilled b (b.a + z) _).mono ?_; rintro e x15 ⟨rfl, hx15⟩
                refine hK.out _ _ (HNEW.out _ _ hS hx15) (fun hS => ?_)
                clear hK K
                try simp only [Act.put, List.getElem_toArray, List.getElem_cons_succ, List.getElem_cons_zero, List.setIfInBounds_toArray, List.set_cons_zero, List.set_cons_succ]
                refine wpAnyH_ready (rs := [7]) (by kernel_rfl) (by simp) ?_; refine AllReadyH.cons rfl (fun K hK => ?_) AllReadyH.nil; rw [if_pos (by kernel_rfl)]; go_simp
                have hcl := fun uq => implFilled (filV b (b.a + z)) now uq
                rw [HFF.out] at hcl
                try dsimp only at hcl
                refine (hcl _).mono ?_; clear hcl; rintro e x16 ⟨rfl, hx16⟩
                refine hK.out _ _ (HNEW.out _ _ hS hx16) (fun hS => ?_)
                clear hK K
                try simp only [Act.put, List.getElem_toArray, List.getElem_cons_succ, List.getElem_cons_zero, List.setIfInBounds_toArray, List.set_cons_zero, List.set_cons_succ]
                refine wpAnyH_take (i := 9) (v := .bool true) rfl (by kernel_rfl) (by kernel_rfl) (by kernel_rfl) (fun _ _ _ h => h) (Or.inl ⟨by kernel_rfl, ?ld⟩) hS ?_; case ld => (intro uu hu; clear hu; have hq := bk_eql xd.r xd.m xd.l xd.a; have hg := bk_guard; go_simp)
                try simp only [Act.put, List.getElem_toArray, List.getElem_cons_succ, List.getElem_cons_zero, List.setIfInBounds_toArray, List.set_cons_zero, List.set_cons_succ]
                refine wpAnyH_take (i := 10) (v := .bool true) rfl (by kernel_rfl) (by kernel_rfl) (by kernel_rfl) (fun _ _ _ h => h) (Or.inl ⟨by kernel_rfl, fun uu hu => (by kernel_rfl)⟩) hS ?_
                try simp only [Act.put, List.getElem_toArray, List.getElem_cons_succ, List.getElem_cons_zero, List.setIfInBounds_toArray, List.set_cons_zero, List.set_cons_succ]
                refine wpAnyH_take (i := 11) (v := .bool true) rfl (by kernel_rfl) (by kernel_rfl) (by kernel_rfl) (fun _ _ _ h => h) (Or.inl ⟨by kernel_rfl, fun uu hu => (by kernel_rfl)⟩) hS ?_
                try simp only [Act.put, List.getElem_toArray, List.getElem_cons_succ, List.getElem_cons_zero, List.setIfInBounds_toArray, List.set_cons_zero, List.set_cons_succ]
                refine wpAnyH_take (i := 12) (v := ?_) rfl (by kernel_rfl) (by kernel_rfl) (by kernel_rfl) (fun _ _ _ h => h) (Or.inl ⟨by kernel_rfl, ?_⟩) hS ?_; rotate_left; focus (intro uu hu; clear hu; go_simp; try with_reducible rfl)
                try simp only [Act.put, List.getElem_toArray, List.getElem_cons_succ, List.getElem_cons_zero, List.setIfInBounds_toArray, List.set_cons_zero, List.set_cons_succ]
                refine wpAnyH_take (i := 13) (v := (.int .i64 xd.l)) rfl (by kernel_rfl) (by kernel_rfl) (by kernel_rfl) (fun _ _ _ h => h) (Or.inl ⟨by kernel_rfl, ?ld⟩) hS ?_; case ld => (intro uu hu; have l0 := (B5.out.new (HLB.out _ hu)).row.cell (j := 0) rfl; have l1 := (B5.out.new (HLB.out _ hu)).row.cell (j := 1) rfl; have l2 := (B5.out.new (HLB.out _ hu)).row.cell (j := 2) rfl; have l3 := (B5.out.new (HLB.out _ hu)).row.cell (j := 3) rfl; have ll := (B5.out.new (HLB.out _ hu)).row.lt; clear hu; go_simp)
                try simp only [Act.put, List.getElem_toArray, List.getElem_cons_succ, List.getElem_cons_zero, List.setIfInBounds_toArray, List.set_cons_zero, List.set_cons_succ]
                refine wpAnyH_take (i := 14) (v := ?_) rfl (by kernel_rfl) (by kernel_rfl) (by kernel_rfl) (fun _ _ _ h => h) (Or.inl ⟨by kernel_rfl, ?_⟩) hS ?_; rotate_left; focus (intro uu hu; clear hu; go_simp; try with_reducible rfl)
                try simp only [Act.put, List.getElem_toArray, List.getElem_cons_succ, List.getElem_cons_zero, List.setIfInBounds_toArray, List.set_cons_zero, List.set_cons_succ]
                refine wpAnyH_take (i := 15) (v := (.int .i64 b.l)) rfl (by kernel_rfl) (by kernel_rfl) (by kernel_rfl) (fun _ _ _ h => h) (Or.inl ⟨by kernel_rfl, ?ld⟩) hS ?_; case ld => (intro uu hu; have l0 := (B3.out.new (HLB.out _ hu)).row.cell (j := 0) rfl; have l1 := (B3.out.new (HLB.out _ hu)).row.cell (j := 1) rfl; have l2 := (B3.out.new (HLB.out _ hu)).row.cell (j := 2) rfl; have l3 := (B3.out.new (HLB.out _ hu)).row.cell (j := 3) rfl; have ll := (B3.out.new (HLB.out _ hu)).row.lt; clear hu; go_simp)
                try simp only [Act.put, List.getElem_toArray, List.getElem_cons_succ, List.getElem_cons_zero, List.setIfInBounds_toArray, List.set_cons_zero, List.set_cons_succ]
                refine wpAnyH_take (i := 16) (v := .bool true) rfl (by kernel_rfl) (by kernel_rfl) (by kernel_rfl) (fun _ _ _ h => h) (Or.inl ⟨by kernel_rfl, ?ld⟩) hS ?_; case ld => (intro uu hu; clear hu; go_simp)
                try simp only [Act.put, List.getElem_toArray, List.getElem_cons_succ, List.getElem_cons_zero, List.setIfInBounds_toArray, List.set_cons_zero, List.set_cons_succ]
                refine wpAnyH_take (i := 17) (v := .bool true) rfl (by kernel_rfl) (by kernel_rfl) (by kernel_rfl) (fun _ _ _ h => h) (Or.inl ⟨by kernel_rfl, fun uu hu => (by kernel_rfl)⟩) hS ?_
                try simp only [Act.put, List.getElem_toArray, List.getElem_cons_succ, List.getElem_cons_zero, List.setIfInBounds_toArray, List.set_cons_zero, List.set_cons_succ]
                refine wpAnyH_take (i := 18) (v := ?_) rfl (by kernel_rfl) (by kernel_rfl) (by kernel_rfl) (fun _ _ _ h => h) (Or.inl ⟨by kernel_rfl, ?_⟩) hS ?_; rotate_left; focus (intro uu hu; clear hu; go_simp; try with_reducible rfl)
                try simp only [Act.put, List.getElem_toArray, List.getElem_cons_succ, List.getElem_cons_zero, List.setIfInBounds_toArray, List.set_cons_zero, List.set_cons_succ]
                refine wpAnyH_done (by kernel_rfl) ?_ _
                go_wp2_with fail
                go_meet
                exact ⟨rfl, hS⟩
            case rest =>
              obtain ⟨rfl, hS⟩ := hcut
              obtain ⟨v11, rfl⟩ : ∃ v : World, v = wc := ⟨_, rfl⟩
              have hbS := HLB.out _ hS
              clear hS HS0 HNEW HLB S
              replace B3 := hide (B3.out.new hbS)
              replace B5 := hide (B5.out.new hbS)
              replace B6 := hide (B6.out.new hbS)
              replace HBW := hide (bchain HBW.out hbS)
              clear hbS
              go_wp2_with fail
              go_ret
              exact ⟨rfl, HBW.out⟩

open Go.ChangeShapes Go.WideShapes Go.ChangeAt Go.Joins
open Go.ChangeMaps (open_string shut_string)


theorem own : ownKnob Try.prog.godebug = none := by kernel_rfl
theorem laidOut : laidOutB Try.prog = true := by kernel_rfl

set_option maxRecDepth 100000 in
theorem lifted (os : Os) (started : os.Started) (H : Type) (enc : TypeId × Value → H) :
    ReturnsInHanded {} Try.checked os 3 .any (Rows.fnBucketsSpec.pre6 enc Try.prog Try.f3 Rows.fnBucketsRow.domain false) (Rows.fnBucketsSpec.post enc Try.prog Try.f3 false true false false) := by
  refine returnsInHanded_of_change (C := Try.checked) own started (by kernel_rfl) Try.func3
    (ChangeSpec.witness6 (enc := enc) (C := Try.checked) false ⟨#[], #[.slice none 0 0], []⟩ 8 (by kernel_rfl) (by kernel_rfl) (by kernel_rfl) (by kernel_rfl)) ?_
  intro W base args ds gs before hval0 hW hcnd _
  have hval : ∀ (j : Nat) t v, Try.f3.params[j]? = some t → args[j]? = some v → Value.okWide Try.prog W .any base t v := hval0
  have hW' := hW
  obtain ⟨p, q, hA0, hV, rfl, hfz, hnd⟩ := hW
  have hA : DataW.TrodAll enc Try.prog W 0 (fun _ => true) true Try.f3.params.toList args.toList ds p := hA0
  rw [Try.params3] at hA hval
  obtain ⟨v0, vs0, d0, ds0, p0, q0, hargs, rfl, rfl, h0, r0⟩ := trodAll_cons hA
  obtain ⟨rfl, rfl, rfl⟩ := trodAll_nil r0
  obtain rfl : args = #[v0] := by cases args; simp_all
  obtain ⟨rfl, rfl⟩ := trodVars_none hV
  have k0 := h0
  have lt0 : ∀ x ∈ p0, x.block < W.heap.size := by obtain ⟨m, hm⟩ := k0; exact DataW.trod_lt m _ _ _ hm
  obtain ⟨a0, len0, cap0, rfl⟩ := okWide_slice Try.underlying22 (hval 0 22 v0 rfl rfl); obtain ⟨hl0, hc0⟩ := open_code h0
  clear hA0 hval0
  refine (walk a0 len0 cap0 W hl0 hc0).mono fun e W' ⟨he, bel⟩ => ?_
  subst he
  exact ⟨_, rfl, _, _, _, [], _, [], hW', trodAll_mk1 (shut_bool Try.underlying4 _), (trodAll_cons_mk (Below.trod laidOut (by kernel_rfl) (of_decide_eq_true (by kernel_rfl)) k0 bel lt0) trodAll_mk0), rfl, bel.frame _, fun h => by cases h⟩

theorem over : Rows.fnBucketsRow.holds Try.pinned (OpenSpec.ofChange Rows.fnBucketsSpec) :=
  OpenClaim.holds_of_wide 3 Try.f3 rfl rfl rfl rfl rfl rfl rfl ⟨rfl, rfl, rfl, rfl, rfl⟩ rfl rfl rfl rfl rfl (by kernel_rfl) Try.func3 (by kernel_rfl)
    (of_decide_eq_true (by kernel_rfl)) (by unfold Func.isWrapper; first | (rw [if_pos (by decide +kernel)]; kernel_rfl) | (rw [if_neg (by decide +kernel)]; exact ⟨rfl, rfl⟩))
    (fun os started H enc _ => lifted os started H enc)

end lawBuckets

theorem lawBuckets_proved : Rows.FnBucketsSaid := lawBuckets.over
#print axioms lawBuckets_proved
end Go.Proofs.Ythoiefhcaplmiaa
