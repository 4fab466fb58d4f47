/- The law FnTables returns true at every argument and leaves it as it was: the walk. -/
import Derived.Test.YthjbmmppckgcjaaDrawTabs
import Derived.Test.YthjbmmppckgcjaaLikeTab
import Derived.Test.YthjbmmppckgcjaaRowAt
import Derived.Test.YthjbmmppckgcjaaLookup
import Derived.Test.YthjbmmppckgcjaaImplNoted
import Derived.Test.YthjbmmppckgcjaaLawTabMath
import Derived.Deep.DeepCutAuto
import Derived.Deep.RegionHeld3
import Derived.WalkKit
import Derived.ProofKit
import Derived.OpenShut
import Derived.ShutString
import Derived.ChangeOld
import Derived.Below
import Derived.Lib.SmallJoins


namespace Go.Proofs.Ythjbmmppckgcjaa
open Go.RowKit
set_option linter.unusedSimpArgs false
set_option linter.unusedVariables false

/-- A Table in its box. -/
structure BxT (w : World) (b : Nat) (room : Int) (a : Option Addr) (p : Nat) (L : List Fd) : Prop where
  row : RowIs w b 26 [.int .i64 room, .slice a L.length p]
  rd : Reads w (.slice a L.length p) L.length 2 (fv L)
theorem BxT.new {w w' : World} {b : Nat} {room : Int} {a : Option Addr} {p : Nat} {L : List Fd} (h : BxT w b room a p L) (hb : Below w.heap.size w w') : BxT w' b room a p L := ⟨h.row.new hb, h.rd.new hb⟩
theorem BxT.make (w : World) (room : Int) {a : Option Addr} {p : Nat} {L : List Fd} (h : Reads w (.slice a L.length p) L.length 2 (fv L)) : BxT (w.alloc (.cells #[.int .i64 room, .slice a L.length p] 26)) w.heap.size room a p L :=
  ⟨rowIs_new w 26 [.int .i64 room, .slice a L.length p], h.alloc _⟩
/-- A Field in its box. -/
structure BxF (w : World) (b : Nat) (f : Fd) : Prop where
  row : RowIs w b 28 [.string f.n, .string f.v]
theorem BxF.new {w w' : World} {b : Nat} {f : Fd} (h : BxF w b f) (hb : Below w.heap.size w w') : BxF w' b f := ⟨h.row.new hb⟩
theorem BxF.make (w : World) (f : Fd) : BxF (w.alloc (.cells #[.string f.n, .string f.v] 28)) w.heap.size f := ⟨rowIs_new w 28 [.string f.n, .string f.v]⟩
theorem al_below (w : World) (o : Obj) : Below w.heap.size w (w.alloc o) := (Below.refl _ _).alloc (Nat.le_refl _) _

set_option maxHeartbeats 8000000 in
set_option maxRecDepth 100000 in
theorem lawTables (a : Option Addr) (len cap : Nat) (w : World) (hl : len ≤ maxLen) (hcode : CodeAt w a len w.heap.size) :
    Calls Try.prog 3 #[.slice a len cap] w fun x w' => x = .returned (.bool true) ∧ Below w.heap.size w w' := by
  unfold maxLen at hl
  by_cases hbig : (4096 : Int) < len
  · go_enter Try.func3, Try.ntmps3
    go_wp2_with fail
    refine (big1 a len cap _).mono ?_; rw [decide_eq_true hbig]; rintro x w1 ⟨rfl, rfl⟩
    go_wp2_with fail
    go_ret
    exact ⟨rfl, Below.refl _ _⟩
  have hl' : len ≤ 4096 := by omega
  have HCODE := hide hcode
  clear hcode
  go_enter Try.func3, Try.ntmps3
  go_wp2_with fail
  refine (big1 a len cap _).mono ?_; rw [decide_eq_false (by omega)]; rintro x w0 ⟨rfl, rfl⟩
  go_wp2_with fail
  refine (drawNoted a len cap _ hl' HCODE.out).mono ?_; rintro x w1 ⟨rt, vt, Lt, f, rfl, hrt, hst, hsf, hlt, _, hb1⟩
  obtain ⟨at1, pt, rfl, _⟩ := hrt.2
  have HST : Hid (∀ u ∈ Lt, u.fine) := fun u hu => (hst u hu).fine
  have HSF := hide hsf.fine
  have HBW := hide hb1
  clear hst hsf hb1
  go_upto_region 4 with fail
  have hbA := al_below w1 (.cells #[.int .i64 rt, .slice at1 Lt.length pt] 26)
  have hbB := al_below (w1.alloc (.cells #[.int .i64 rt, .slice at1 Lt.length pt] 26)) (.cells #[.string f.n, .string f.v] 28)
  have hbV := bchain hbA hbB
  have B3 := hide ((BxT.make w1 rt hrt).new hbB)
  have B4 : Hid (BxF ((w1.alloc (.cells #[.int .i64 rt, .slice at1 Lt.length pt] 26)).alloc (.cells #[.string f.n, .string f.v] 28)) (w1.heap.size + 1) f) := by show BxF _ _ _; simpa using BxF.make (w1.alloc (.cells #[.int .i64 rt, .slice at1 Lt.length pt] 26)) f
  replace HBW := hide (bchain HBW.out hbV)
  clear hbA hbB hbV
  generalize hV : (w1.alloc (.cells #[.int .i64 rt, .slice at1 Lt.length pt] 26)).alloc (.cells #[.string f.n, .string f.v] 28) = v1 at *
  clear hV hrt
  obtain ⟨⟨⟨nr, nL⟩, nb⟩, hN⟩ : ∃ D, D = notedD rt Lt f := ⟨_, rfl⟩
  have HN := hide hN
  clear hN
  have x0 := B3.out.row.cell (j := 0) rfl
  have x1 := B3.out.row.cell (j := 1) rfl
  have y0 := B4.out.row.cell (j := 0) rfl
  have y1 := B4.out.row.cell (j := 1) rfl
  go_wp2_with fail
  clear x0 x1 y0 y1
  have hcl := implNoted Lt rt _ f _ B3.out.rd HST.out HSF.out
  rw [← HN.out] at hcl
  dsimp only at hcl
  refine hcl.mono ?_; clear hcl; rintro x w2 ⟨v2, rfl, ho2, hb2⟩
  obtain ⟨a5, p5, rfl, _⟩ := owns_form ho2
  have r5 := reads_of_owns ho2
  clear ho2
  replace B3 := hide (B3.out.new hb2)
  replace B4 := hide (B4.out.new hb2)
  replace HBW := hide (bchain HBW.out hb2)
  clear hb2
  go_upto_region 5 with fail
  have hbV := al_below w2 (.cells #[.int .i64 nr, .slice a5 nL.length p5] 26)
  have B5 := hide (BxT.make w2 nr r5)
  replace B3 := hide (B3.out.new hbV)
  replace B4 := hide (B4.out.new hbV)
  replace HBW := hide (bchain HBW.out hbV)
  clear hbV
  generalize hV : w2.alloc (.cells #[.int .i64 nr, .slice a5 nL.length p5] 26) = v2 at *
  clear hV r5
  go_wp2_with fail
  refine (drawResized a len cap _ hl' (HCODE.out.behind HBW.out)).mono ?_; rintro x w3 ⟨ra, va, La, r, rfl, hra, hsa, hla, hb3⟩
  obtain ⟨a7, p7, rfl, _⟩ := hra.2
  have HSA : Hid (∀ u ∈ La, u.fine) := fun u hu => (hsa u hu).fine
  clear hsa
  replace B3 := hide (B3.out.new hb3)
  replace B4 := hide (B4.out.new hb3)
  replace B5 := hide (B5.out.new hb3)
  replace HBW := hide (bchain HBW.out hb3)
  clear hb3
  go_upto_region 6 with fail
  have hbV := al_below w3 (.cells #[.int .i64 ra, .slice a7 La.length p7] 26)
  have B7 := hide (BxT.make w3 ra hra)
  replace B3 := hide (B3.out.new hbV)
  replace B4 := hide (B4.out.new hbV)
  replace B5 := hide (B5.out.new hbV)
  replace HBW := hide (bchain HBW.out hbV)
  clear hbV
  generalize hV : w3.alloc (.cells #[.int .i64 ra, .slice a7 La.length p7] 26) = v3 at *
  clear hV hra
  obtain ⟨⟨⟨yr, yL⟩, yb⟩, hY⟩ : ∃ D, D = resizedD ra La r := ⟨_, rfl⟩
  have HY := hide hY
  clear hY
  have x0 := B7.out.row.cell (j := 0) rfl
  have x1 := B7.out.row.cell (j := 1) rfl
  go_wp2_with fail
  clear x0 x1
  have hcl := implResized La ra _ r _ B7.out.rd HSA.out
  rw [← HY.out] at hcl
  dsimp only at hcl
  refine hcl.mono ?_; clear hcl; rintro x w4 ⟨v4, rfl, ho4, hb4⟩
  obtain ⟨a9, p9, rfl, _⟩ := owns_form ho4
  have r9 := reads_of_owns ho4
  clear ho4
  replace B3 := hide (B3.out.new hb4)
  replace B4 := hide (B4.out.new hb4)
  replace B5 := hide (B5.out.new hb4)
  replace B7 := hide (B7.out.new hb4)
  replace HBW := hide (bchain HBW.out hb4)
  clear hb4
  go_upto_region 7 with fail
  have hbV := al_below w4 (.cells #[.int .i64 yr, .slice a9 yL.length p9] 26)
  have B9 := hide (BxT.make w4 yr r9)
  replace B3 := hide (B3.out.new hbV)
  replace B4 := hide (B4.out.new hbV)
  replace B5 := hide (B5.out.new hbV)
  replace B7 := hide (B7.out.new hbV)
  replace HBW := hide (bchain HBW.out hbV)
  clear hbV
  generalize hV : w4.alloc (.cells #[.int .i64 yr, .slice a9 yL.length p9] 26) = v4 at *
  clear hV r9
  go_wp2_with fail
  refine (drawRowAt a len cap _ hl' (HCODE.out.behind HBW.out)).mono ?_; rintro x w5 ⟨rb, vb, Lb, n, rfl, hrb, hsb, hlb, hb5⟩
  obtain ⟨a11, p11, rfl, _⟩ := hrb.2
  have HSB : Hid (∀ u ∈ Lb, u.fine) := fun u hu => (hsb u hu).fine
  clear hsb
  replace B3 := hide (B3.out.new hb5)
  replace B4 := hide (B4.out.new hb5)
  replace B5 := hide (B5.out.new hb5)
  replace B7 := hide (B7.out.new hb5)
  replace B9 := hide (B9.out.new hb5)
  replace HBW := hide (bchain HBW.out hb5)
  clear hb5
  go_upto_region 8 with fail
  have hbV := al_below w5 (.cells #[.int .i64 rb, .slice a11 Lb.length p11] 26)
  have B11 := hide (BxT.make w5 rb hrb)
  replace B3 := hide (B3.out.new hbV)
  replace B4 := hide (B4.out.new hbV)
  replace B5 := hide (B5.out.new hbV)
  replace B7 := hide (B7.out.new hbV)
  replace B9 := hide (B9.out.new hbV)
  replace HBW := hide (bchain HBW.out hbV)
  clear hbV
  generalize hV : w5.alloc (.cells #[.int .i64 rb, .slice a11 Lb.length p11] 26) = v5 at *
  clear hV hrb
  obtain ⟨⟨rf, rth⟩, hR⟩ : ∃ D, D = rowAtD rb Lb n := ⟨_, rfl⟩
  have HR := hide hR
  clear hR
  have x0 := B11.out.row.cell (j := 0) rfl
  have x1 := B11.out.row.cell (j := 1) rfl
  go_wp2_with fail
  clear x0 x1
  have hcl := implRowAt Lb rb _ n _ B11.out.rd HSB.out
  rw [← HR.out] at hcl
  dsimp only at hcl
  refine hcl.mono ?_; clear hcl; rintro x w6 ⟨rfl, hb6⟩
  replace B3 := hide (B3.out.new hb6)
  replace B4 := hide (B4.out.new hb6)
  replace B5 := hide (B5.out.new hb6)
  replace B7 := hide (B7.out.new hb6)
  replace B9 := hide (B9.out.new hb6)
  replace B11 := hide (B11.out.new hb6)
  replace HBW := hide (bchain HBW.out hb6)
  clear hb6
  go_upto_region 9 with fail
  have hbV := al_below w6 (.cells #[.string rf.n, .string rf.v] 28)
  have B13 := hide (BxF.make w6 rf)
  replace B3 := hide (B3.out.new hbV)
  replace B4 := hide (B4.out.new hbV)
  replace B5 := hide (B5.out.new hbV)
  replace B7 := hide (B7.out.new hbV)
  replace B9 := hide (B9.out.new hbV)
  replace B11 := hide (B11.out.new hbV)
  replace HBW := hide (bchain HBW.out hbV)
  clear hbV
  generalize hV : w6.alloc (.cells #[.string rf.n, .string rf.v] 28) = v6 at *
  clear hV
  go_wp2_with fail
  refine (drawLookup a len cap _ hl' (HCODE.out.behind HBW.out)).mono ?_; rintro x w7 ⟨rl, vl, Ll, g, rfl, hrl, hsl, hsg, hll, _, hb7⟩
  obtain ⟨a15, p15, rfl, _⟩ := hrl.2
  have HSL : Hid (∀ u ∈ Ll, u.fine) := fun u hu => (hsl u hu).fine
  have HSG := hide hsg.fine
  clear hsl hsg
  replace B3 := hide (B3.out.new hb7)
  replace B4 := hide (B4.out.new hb7)
  replace B5 := hide (B5.out.new hb7)
  replace B7 := hide (B7.out.new hb7)
  replace B9 := hide (B9.out.new hb7)
  replace B11 := hide (B11.out.new hb7)
  replace B13 := hide (B13.out.new hb7)
  replace HBW := hide (bchain HBW.out hb7)
  clear hb7
  go_upto_region 10 with fail
  have hbA := al_below w7 (.cells #[.int .i64 rl, .slice a15 Ll.length p15] 26)
  have hbB := al_below (w7.alloc (.cells #[.int .i64 rl, .slice a15 Ll.length p15] 26)) (.cells #[.string g.n, .string g.v] 28)
  have hbV := bchain hbA hbB
  have B15 := hide ((BxT.make w7 rl hrl).new hbB)
  have B16 : Hid (BxF ((w7.alloc (.cells #[.int .i64 rl, .slice a15 Ll.length p15] 26)).alloc (.cells #[.string g.n, .string g.v] 28)) (w7.heap.size + 1) g) := by show BxF _ _ _; simpa using BxF.make (w7.alloc (.cells #[.int .i64 rl, .slice a15 Ll.length p15] 26)) g
  replace B3 := hide (B3.out.new hbV)
  replace B4 := hide (B4.out.new hbV)
  replace B5 := hide (B5.out.new hbV)
  replace B7 := hide (B7.out.new hbV)
  replace B9 := hide (B9.out.new hbV)
  replace B11 := hide (B11.out.new hbV)
  replace B13 := hide (B13.out.new hbV)
  replace HBW := hide (bchain HBW.out hbV)
  clear hbA hbB hbV
  generalize hV : (w7.alloc (.cells #[.int .i64 rl, .slice a15 Ll.length p15] 26)).alloc (.cells #[.string g.n, .string g.v] 28) = v7 at *
  clear hV hrl
  obtain ⟨⟨k, al⟩, hK⟩ : ∃ D, D = lookD rl Ll g := ⟨_, rfl⟩
  have HK := hide hK
  clear hK
  have x0 := B15.out.row.cell (j := 0) rfl
  have x1 := B15.out.row.cell (j := 1) rfl
  have y0 := B16.out.row.cell (j := 0) rfl
  have y1 := B16.out.row.cell (j := 1) rfl
  go_wp2_with fail
  clear x0 x1 y0 y1
  have hcl := implLookup Ll rl _ g _ B15.out.rd HSL.out HSG.out
  rw [← HK.out] at hcl
  dsimp only at hcl
  refine hcl.mono ?_; clear hcl; rintro x w8 ⟨rfl, hb8⟩
  replace B3 := hide (B3.out.new hb8)
  replace B4 := hide (B4.out.new hb8)
  replace B5 := hide (B5.out.new hb8)
  replace B7 := hide (B7.out.new hb8)
  replace B9 := hide (B9.out.new hb8)
  replace B11 := hide (B11.out.new hb8)
  replace B13 := hide (B13.out.new hb8)
  replace B15 := hide (B15.out.new hb8)
  replace B16 := hide (B16.out.new hb8)
  replace HBW := hide (bchain HBW.out hb8)
  clear hb8
  go_upto_region 11 with fail
  have x0 := B3.out.row.cell (j := 0) rfl
  have x1 := B3.out.row.cell (j := 1) rfl
  have y0 := B4.out.row.cell (j := 0) rfl
  have y1 := B4.out.row.cell (j := 1) rfl
  go_wp2_with fail
  clear x0 x1 y0 y1
  have hcl := specNoted Lt rt _ f _ B3.out.rd HST.out HSF.out
  rw [← HN.out] at hcl
  dsimp only at hcl
  refine hcl.mono ?_; clear hcl; rintro x w9 ⟨v9, rfl, ho9, hb9⟩
  obtain ⟨a19, p19, rfl, _⟩ := owns_form ho9
  have r19 := reads_of_owns ho9
  clear ho9
  replace B3 := hide (B3.out.new hb9)
  replace B4 := hide (B4.out.new hb9)
  replace B5 := hide (B5.out.new hb9)
  replace B7 := hide (B7.out.new hb9)
  replace B9 := hide (B9.out.new hb9)
  replace B11 := hide (B11.out.new hb9)
  replace B13 := hide (B13.out.new hb9)
  replace B15 := hide (B15.out.new hb9)
  replace B16 := hide (B16.out.new hb9)
  replace HBW := hide (bchain HBW.out hb9)
  clear hb9
  go_upto_region 12 with fail
  have hbV := al_below w9 (.cells #[.int .i64 nr, .slice a19 nL.length p19] 26)
  have B19 := hide (BxT.make w9 nr r19)
  replace B3 := hide (B3.out.new hbV)
  replace B4 := hide (B4.out.new hbV)
  replace B5 := hide (B5.out.new hbV)
  replace B7 := hide (B7.out.new hbV)
  replace B9 := hide (B9.out.new hbV)
  replace B11 := hide (B11.out.new hbV)
  replace B13 := hide (B13.out.new hbV)
  replace B15 := hide (B15.out.new hbV)
  replace B16 := hide (B16.out.new hbV)
  replace HBW := hide (bchain HBW.out hbV)
  clear hbV
  generalize hV : w9.alloc (.cells #[.int .i64 nr, .slice a19 nL.length p19] 26) = v9 at *
  clear hV r19
  obtain ⟨S, HS0, HNEW, HLB⟩ : ∃ S : World → Prop, Hid (S v9) ∧ Hid (∀ u u1, S u → Below u.heap.size u u1 → S u1) ∧ Hid (∀ u, S u → Below v9.heap.size v9 u) := ⟨fun u => Below v9.heap.size v9 u, hide (Below.refl _ _), hide (fun u u1 h h1 => bchain h h1), hide (fun u h => h)⟩
  go_cut [103] (fun c wx => c = .bool false ∧ S wx)
  case first =>
    rename_i K1 a3 r0 K0 a2 Jc Kc hJ hK
    clear a2 a3 B7 B9 B11 B13 B15 B16 HBW
    as_aux_lemma =>
      have hS : S (World.drew v9) := HNEW.out _ _ HS0.out (Below.refl _ _).drew
      go_wp2_with fail
      refine wp_region_held (S := S) (by kernel_rfl) ?_
      change wpAnyH _ _ _ _ _ _ _ _ (World.drew _)
      refine wpAnyH_take (i := 0) (v := (.bool nb)) rfl (by kernel_rfl) (by kernel_rfl) (by kernel_rfl) (fun _ _ _ h => h) (Or.inl ⟨by kernel_rfl, fun w hw => (by kernel_rfl)⟩) hS ?_
      simp only [Act.put, List.getElem_toArray, List.getElem_cons_succ, List.getElem_cons_zero, List.setIfInBounds_toArray, List.set_cons_zero, List.set_cons_succ]
      refine wpAnyH_take (i := 1) (v := (.bool nb)) rfl (by kernel_rfl) (by kernel_rfl) (by kernel_rfl) (fun _ _ _ h => h) (Or.inl ⟨by kernel_rfl, fun w hw => (by kernel_rfl)⟩) hS ?_
      simp only [Act.put, List.getElem_toArray, List.getElem_cons_succ, List.getElem_cons_zero, List.setIfInBounds_toArray, List.set_cons_zero, List.set_cons_succ]
      refine wpAnyH_take (i := 2) (v := ?_) rfl (by kernel_rfl) (by kernel_rfl) (by kernel_rfl) (fun _ _ _ h => h) (Or.inl ⟨by kernel_rfl, ?_⟩) hS ?_; rotate_left; focus (intro w hw; clear hw; go_simp; try with_reducible rfl)
      simp only [Act.put, List.getElem_toArray, List.getElem_cons_succ, List.getElem_cons_zero, List.setIfInBounds_toArray, List.set_cons_zero, List.set_cons_succ]
      refine wpAnyH_take (i := 3) (v := (.bool false)) rfl (by kernel_rfl) (by kernel_rfl) (by kernel_rfl) (fun _ _ _ h => h) (Or.inl ⟨by kernel_rfl, fun w hw => (by kernel_rfl)⟩) hS ?_
      simp only [Act.put, List.getElem_toArray, List.getElem_cons_succ, List.getElem_cons_zero, List.setIfInBounds_toArray, List.set_cons_zero, List.set_cons_succ]
      refine wpAnyH_take (i := 4) (v := (.agg #[.int .i64 nr, .slice a5 nL.length p5])) rfl (by kernel_rfl) (by kernel_rfl) (by kernel_rfl) (fun _ _ _ h => h) (Or.inl ⟨by kernel_rfl, ?ld⟩) hS ?_; case ld => (intro w hw; have l0 := (B5.out.new (HLB.out _ hw)).row.cell (j := 0) rfl; have l1 := (B5.out.new (HLB.out _ hw)).row.cell (j := 1) rfl; clear hw; go_simp)
      refine wpAnyH_take (i := 5) (v := (.agg #[.int .i64 nr, .slice a19 nL.length p19])) rfl (by kernel_rfl) (by kernel_rfl) (by kernel_rfl) (fun _ _ _ h => h) (Or.inl ⟨by kernel_rfl, ?ld⟩) hS ?_; case ld => (intro w hw; have l0 := (B19.out.new (HLB.out _ hw)).row.cell (j := 0) rfl; have l1 := (B19.out.new (HLB.out _ hw)).row.cell (j := 1) rfl; clear hw; go_simp)
      refine wpAnyH_ready (rs := [6]) (by kernel_rfl) (by simp) ?_; refine AllReadyH.cons rfl (fun K hK => ?_) AllReadyH.nil; rw [if_pos (by kernel_rfl)]; go_simp
      refine (likeTable1 nL nr _ _ _ (B5.out.new (HLB.out _ hS)).rd (B19.out.new (HLB.out _ hS)).rd).mono ?_; rintro e w10 ⟨rfl, hw10⟩
      refine hK.out _ _ (HNEW.out _ _ hS hw10) (fun hS => ?_)
      clear hK K
      refine wpAnyH_take (i := 7) (v := (.bool false)) rfl (by kernel_rfl) (by kernel_rfl) (by kernel_rfl) (fun _ _ _ h => h) (Or.inl ⟨by kernel_rfl, fun w hw => (by kernel_rfl)⟩) hS ?_
      simp only [Act.put, List.getElem_toArray, List.getElem_cons_succ, List.getElem_cons_zero, List.setIfInBounds_toArray, List.set_cons_zero, List.set_cons_succ]
      refine wpAnyH_take (i := 8) (v := (.bool false)) rfl (by kernel_rfl) (by kernel_rfl) (by kernel_rfl) (fun _ _ _ h => h) (Or.inl ⟨by kernel_rfl, fun w hw => (by kernel_rfl)⟩) hS ?_
      simp only [Act.put, List.getElem_toArray, List.getElem_cons_succ, List.getElem_cons_zero, List.setIfInBounds_toArray, List.set_cons_zero, List.set_cons_succ]
      refine wpAnyH_take (i := 9) (v := (.bool false)) rfl (by kernel_rfl) (by kernel_rfl) (by kernel_rfl) (fun _ _ _ h => h) (Or.inl ⟨by kernel_rfl, fun w hw => (by kernel_rfl)⟩) hS ?_
      simp only [Act.put, List.getElem_toArray, List.getElem_cons_succ, List.getElem_cons_zero, List.setIfInBounds_toArray, List.set_cons_zero, List.set_cons_succ]
      refine wpAnyH_take (i := 10) (v := (.agg #[.int .i64 rt, .slice at1 Lt.length pt])) rfl (by kernel_rfl) (by kernel_rfl) (by kernel_rfl) (fun _ _ _ h => h) (Or.inl ⟨by kernel_rfl, ?ld⟩) hS ?_; case ld => (intro w hw; have l0 := (B3.out.new (HLB.out _ hw)).row.cell (j := 0) rfl; have l1 := (B3.out.new (HLB.out _ hw)).row.cell (j := 1) rfl; clear hw; go_simp)
      refine wpAnyH_take (i := 12) (v := (.agg #[.int .i64 rt, .slice at1 Lt.length pt])) rfl (by kernel_rfl) (by kernel_rfl) (by kernel_rfl) (fun _ _ _ h => h) (Or.inl ⟨by kernel_rfl, ?ld⟩) hS ?_; case ld => (intro w hw; have l0 := (B3.out.new (HLB.out _ hw)).row.cell (j := 0) rfl; have l1 := (B3.out.new (HLB.out _ hw)).row.cell (j := 1) rfl; clear hw; go_simp)
      refine wpAnyH_ready (rs := [11]) (by kernel_rfl) (by simp) ?_; refine AllReadyH.cons rfl (fun K hK => ?_) AllReadyH.nil; rw [if_pos (by kernel_rfl)]; go_simp
      refine (implTOk Lt rt _ _ (B3.out.new (HLB.out _ hS)).rd HST.out).mono ?_; rintro e w11 ⟨rfl, hw11⟩
      refine hK.out _ _ (HNEW.out _ _ hS hw11) (fun hS => ?_)
      clear hK K
      refine wpAnyH_ready (rs := [13]) (by kernel_rfl) (by simp) ?_; refine AllReadyH.cons rfl (fun K hK => ?_) AllReadyH.nil; rw [if_pos (by kernel_rfl)]; go_simp
      refine (specTOk Lt rt _ _ (B3.out.new (HLB.out _ hS)).rd HST.out).mono ?_; rintro e w12 ⟨rfl, hw12⟩
      refine hK.out _ _ (HNEW.out _ _ hS hw12) (fun hS => ?_)
      clear hK K
      refine wpAnyH_take (i := 14) (v := ?_) rfl (by kernel_rfl) (by kernel_rfl) (by kernel_rfl) (fun _ _ _ h => h) (Or.inl ⟨by kernel_rfl, ?_⟩) hS ?_; rotate_left; focus (intro w hw; clear hw; go_simp; try with_reducible rfl)
      simp only [Act.put, List.getElem_toArray, List.getElem_cons_succ, List.getElem_cons_zero, List.setIfInBounds_toArray, List.set_cons_zero, List.set_cons_succ]
      refine wpAnyH_take (i := 15) (v := (.bool false)) rfl (by kernel_rfl) (by kernel_rfl) (by kernel_rfl) (fun _ _ _ h => h) (Or.inl ⟨by kernel_rfl, fun w hw => (by kernel_rfl)⟩) hS ?_
      simp only [Act.put, List.getElem_toArray, List.getElem_cons_succ, List.getElem_cons_zero, List.setIfInBounds_toArray, List.set_cons_zero, List.set_cons_succ]
      refine wpAnyH_take (i := 16) (v := (.bool false)) rfl (by kernel_rfl) (by kernel_rfl) (by kernel_rfl) (fun _ _ _ h => h) (Or.inl ⟨by kernel_rfl, fun w hw => (by kernel_rfl)⟩) hS ?_
      simp only [Act.put, List.getElem_toArray, List.getElem_cons_succ, List.getElem_cons_zero, List.setIfInBounds_toArray, List.set_cons_zero, List.set_cons_succ]
      refine wpAnyH_take (i := 17) (v := (.agg #[.string f.n, .string f.v])) rfl (by kernel_rfl) (by kernel_rfl) (by kernel_rfl) (fun _ _ _ h => h) (Or.inl ⟨by kernel_rfl, ?ld⟩) hS ?_; case ld => (intro w hw; have l0 := (B4.out.new (HLB.out _ hw)).row.cell (j := 0) rfl; have l1 := (B4.out.new (HLB.out _ hw)).row.cell (j := 1) rfl; clear hw; go_simp)
      refine wpAnyH_take (i := 19) (v := (.agg #[.string f.n, .string f.v])) rfl (by kernel_rfl) (by kernel_rfl) (by kernel_rfl) (fun _ _ _ h => h) (Or.inl ⟨by kernel_rfl, ?ld⟩) hS ?_; case ld => (intro w hw; have l0 := (B4.out.new (HLB.out _ hw)).row.cell (j := 0) rfl; have l1 := (B4.out.new (HLB.out _ hw)).row.cell (j := 1) rfl; clear hw; go_simp)
      refine wpAnyH_ready (rs := [18]) (by kernel_rfl) (by simp) ?_; refine AllReadyH.cons rfl (fun K hK => ?_) AllReadyH.nil; rw [if_pos (by kernel_rfl)]; go_simp
      refine (implWt f _ HSF.out).mono ?_; rintro e w13 ⟨rfl, hw13⟩
      refine hK.out _ _ (HNEW.out _ _ hS hw13) (fun hS => ?_)
      clear hK K
      refine wpAnyH_ready (rs := [20]) (by kernel_rfl) (by simp) ?_; refine AllReadyH.cons rfl (fun K hK => ?_) AllReadyH.nil; rw [if_pos (by kernel_rfl)]; go_simp
      refine (specWt f _ HSF.out).mono ?_; rintro e w14 ⟨rfl, hw14⟩
      refine hK.out _ _ (HNEW.out _ _ hS hw14) (fun hS => ?_)
      clear hK K
      refine wpAnyH_take (i := 21) (v := ?_) rfl (by kernel_rfl) (by kernel_rfl) (by kernel_rfl) (fun _ _ _ h => h) (Or.inl ⟨by kernel_rfl, ?_⟩) hS ?_; rotate_left; focus (intro w hw; clear hw; go_simp; try with_reducible rfl)
      simp only [Act.put, List.getElem_toArray, List.getElem_cons_succ, List.getElem_cons_zero, List.setIfInBounds_toArray, List.set_cons_zero, List.set_cons_succ]
      refine wpAnyH_take (i := 22) (v := (.bool false)) rfl (by kernel_rfl) (by kernel_rfl) (by kernel_rfl) (fun _ _ _ h => h) (Or.inl ⟨by kernel_rfl, fun w hw => (by kernel_rfl)⟩) hS ?_
      simp only [Act.put, List.getElem_toArray, List.getElem_cons_succ, List.getElem_cons_zero, List.setIfInBounds_toArray, List.set_cons_zero, List.set_cons_succ]
      refine wpAnyH_done (by kernel_rfl) ?_ _
      go_wp2_with fail
      go_meet
      exact ⟨rfl, hS⟩
  case rest =>
  obtain ⟨rfl, hS⟩ := hcut
  obtain ⟨v10, rfl⟩ : ∃ v : World, v = wc := ⟨_, rfl⟩
  have hbS := HLB.out _ hS
  clear hS HS0 HNEW HLB S
  replace B3 := hide (B3.out.new hbS)
  replace B4 := hide (B4.out.new hbS)
  replace B5 := hide (B5.out.new hbS)
  replace B7 := hide (B7.out.new hbS)
  replace B9 := hide (B9.out.new hbS)
  replace B11 := hide (B11.out.new hbS)
  replace B13 := hide (B13.out.new hbS)
  replace B15 := hide (B15.out.new hbS)
  replace B16 := hide (B16.out.new hbS)
  replace B19 := hide (B19.out.new hbS)
  replace HBW := hide (bchain HBW.out hbS)
  clear hbS
  have x0 := B7.out.row.cell (j := 0) rfl
  have x1 := B7.out.row.cell (j := 1) rfl
  go_wp2_with fail
  clear x0 x1
  have hcl := specResized La ra _ r _ B7.out.rd HSA.out
  rw [← HY.out] at hcl
  dsimp only at hcl
  refine hcl.mono ?_; clear hcl; rintro x w11 ⟨v11, rfl, ho11, hb11⟩
  obtain ⟨a21, p21, rfl, _⟩ := owns_form ho11
  have r21 := reads_of_owns ho11
  clear ho11
  replace B3 := hide (B3.out.new hb11)
  replace B4 := hide (B4.out.new hb11)
  replace B5 := hide (B5.out.new hb11)
  replace B7 := hide (B7.out.new hb11)
  replace B9 := hide (B9.out.new hb11)
  replace B11 := hide (B11.out.new hb11)
  replace B13 := hide (B13.out.new hb11)
  replace B15 := hide (B15.out.new hb11)
  replace B16 := hide (B16.out.new hb11)
  replace B19 := hide (B19.out.new hb11)
  replace HBW := hide (bchain HBW.out hb11)
  clear hb11
  go_upto_region 15 with fail
  have hbV := al_below w11 (.cells #[.int .i64 yr, .slice a21 yL.length p21] 26)
  have B21 := hide (BxT.make w11 yr r21)
  replace B3 := hide (B3.out.new hbV)
  replace B4 := hide (B4.out.new hbV)
  replace B5 := hide (B5.out.new hbV)
  replace B7 := hide (B7.out.new hbV)
  replace B9 := hide (B9.out.new hbV)
  replace B11 := hide (B11.out.new hbV)
  replace B13 := hide (B13.out.new hbV)
  replace B15 := hide (B15.out.new hbV)
  replace B16 := hide (B16.out.new hbV)
  replace B19 := hide (B19.out.new hbV)
  replace HBW := hide (bchain HBW.out hbV)
  clear hbV
  generalize hV : w11.alloc (.cells #[.int .i64 yr, .slice a21 yL.length p21] 26) = v11 at *
  clear hV r21
  have x0 := B9.out.row.cell (j := 0) rfl
  have x1 := B9.out.row.cell (j := 1) rfl
  have y0 := B21.out.row.cell (j := 0) rfl
  have y1 := B21.out.row.cell (j := 1) rfl
  go_wp2_with fail
  clear x0 x1 y0 y1
  refine (likeTable1 yL yr _ _ _ B9.out.rd B21.out.rd).mono ?_; rintro x w12 ⟨rfl, hb12⟩
  replace B3 := hide (B3.out.new hb12)
  replace B4 := hide (B4.out.new hb12)
  replace B5 := hide (B5.out.new hb12)
  replace B7 := hide (B7.out.new hb12)
  replace B9 := hide (B9.out.new hb12)
  replace B11 := hide (B11.out.new hb12)
  replace B13 := hide (B13.out.new hb12)
  replace B15 := hide (B15.out.new hb12)
  replace B16 := hide (B16.out.new hb12)
  replace B19 := hide (B19.out.new hb12)
  replace B21 := hide (B21.out.new hb12)
  replace HBW := hide (bchain HBW.out hb12)
  clear hb12
  clear B19 B21
  go_upto_region 17 with fail
  have x0 := B11.out.row.cell (j := 0) rfl
  have x1 := B11.out.row.cell (j := 1) rfl
  go_wp2_with fail
  clear x0 x1
  have hcl := specRowAt Lb rb _ n _ B11.out.rd HSB.out
  rw [← HR.out] at hcl
  dsimp only at hcl
  refine hcl.mono ?_; clear hcl; rintro x w13 ⟨rfl, hb13⟩
  replace B3 := hide (B3.out.new hb13)
  replace B4 := hide (B4.out.new hb13)
  replace B5 := hide (B5.out.new hb13)
  replace B7 := hide (B7.out.new hb13)
  replace B9 := hide (B9.out.new hb13)
  replace B11 := hide (B11.out.new hb13)
  replace B13 := hide (B13.out.new hb13)
  replace B15 := hide (B15.out.new hb13)
  replace B16 := hide (B16.out.new hb13)
  replace HBW := hide (bchain HBW.out hb13)
  clear hb13
  go_upto_region 18 with fail
  have hbV := al_below w13 (.cells #[.string rf.n, .string rf.v] 28)
  have B23 := hide (BxF.make w13 rf)
  replace B3 := hide (B3.out.new hbV)
  replace B4 := hide (B4.out.new hbV)
  replace B5 := hide (B5.out.new hbV)
  replace B7 := hide (B7.out.new hbV)
  replace B9 := hide (B9.out.new hbV)
  replace B11 := hide (B11.out.new hbV)
  replace B13 := hide (B13.out.new hbV)
  replace B15 := hide (B15.out.new hbV)
  replace B16 := hide (B16.out.new hbV)
  replace HBW := hide (bchain HBW.out hbV)
  clear hbV
  generalize hV : w13.alloc (.cells #[.string rf.n, .string rf.v] 28) = v13 at *
  clear hV
  have x0 := B13.out.row.cell (j := 0) rfl
  have x1 := B13.out.row.cell (j := 1) rfl
  have y0 := B23.out.row.cell (j := 0) rfl
  have y1 := B23.out.row.cell (j := 1) rfl
  go_upto_region 20 with fail
  clear x0 x1 y0 y1
  clear B11 B13 B23 HR HSB
  have x0 := B15.out.row.cell (j := 0) rfl
  have x1 := B15.out.row.cell (j := 1) rfl
  have y0 := B16.out.row.cell (j := 0) rfl
  have y1 := B16.out.row.cell (j := 1) rfl
  go_wp2_with fail
  clear x0 x1 y0 y1
  have hcl := specLookup Ll rl _ g _ B15.out.rd HSL.out
  rw [← HK.out] at hcl
  dsimp only at hcl
  refine hcl.mono ?_; clear hcl; rintro x w14 ⟨rfl, hb14⟩
  replace B3 := hide (B3.out.new hb14)
  replace B4 := hide (B4.out.new hb14)
  replace B5 := hide (B5.out.new hb14)
  replace B7 := hide (B7.out.new hb14)
  replace B9 := hide (B9.out.new hb14)
  replace B15 := hide (B15.out.new hb14)
  replace B16 := hide (B16.out.new hb14)
  replace HBW := hide (bchain HBW.out hb14)
  clear hb14
  go_upto_region 23 with fail
  obtain ⟨S, HS0, HNEW, HLB⟩ : ∃ S : World → Prop, Hid (S w14) ∧ Hid (∀ u u1, S u → Below u.heap.size u u1 → S u1) ∧ Hid (∀ u, S u → Below w14.heap.size w14 u) := ⟨fun u => Below w14.heap.size w14 u, hide (Below.refl _ _), hide (fun u u1 h h1 => bchain h h1), hide (fun u h => h)⟩
  go_upto_if 148 with fail
  go_cut [] (fun wx => S wx)
  case first =>
    rename_i K0 a2 Jc Kc hJ hK
    clear a2 B3 B4 B5 B7 B9 HBW
    as_aux_lemma =>
      by_cases hk : 0 < k
      · have hlr := look_row (room := rl) (L := Ll) (g := g) (by rw [← HK.out]; exact hk)
        rw [← HK.out] at hlr
        dsimp only at hlr
        obtain ⟨row, hrow, hn, hv1, hv0⟩ := hlr
        have HROW := hide hrow; have HV1 := hide hv1; have HV0 := hide hv0
        clear hrow hv1 hv0
        have x0 := B15.out.row.cell (j := 0) rfl
        have x1 := B15.out.row.cell (j := 1) rfl
        go_wp2_with fail
        clear x0 x1
        have hcl := implRowAt Ll rl _ k _ B15.out.rd HSL.out
        rw [HROW.out] at hcl
        dsimp only at hcl
        refine hcl.mono ?_; clear hcl; rintro x w15 ⟨rfl, hb15⟩
        have hS1 := HNEW.out _ _ HS0.out hb15
        have C16 := hide (B16.out.new hb15)
        go_upto_region 25 with fail
        have hbV := al_below w15 (.cells #[.string row.n, .string row.v] 28)
        have hS2 := HNEW.out _ _ hS1 hbV
        have C27 := hide (BxF.make w15 row)
        replace C16 := hide (C16.out.new hbV)
        clear hbV hS1 hb15
        generalize hV : w15.alloc (.cells #[.string row.n, .string row.v] 28) = v15 at *
        clear hV
        have x0 := C27.out.row.cell (j := 0) rfl
        have x1 := C27.out.row.cell (j := 1) rfl
        have y0 := C16.out.row.cell (j := 0) rfl
        have y1 := C16.out.row.cell (j := 1) rfl
        cases al
        · have hv := HV0.out rfl
          go_wp2_with fail
          go_meet
          exact hS2
        · have hv := HV1.out rfl
          go_wp2_with fail
          go_meet
          exact hS2
      · go_wp2_with fail
        go_meet
        exact HS0.out
  case rest =>
  have hS := hcut
  obtain ⟨v16, rfl⟩ : ∃ v : World, v = wc := ⟨_, rfl⟩
  have hbS := HLB.out _ hS
  clear hS hcut HS0 HNEW HLB S
  replace B3 := hide (B3.out.new hbS)
  replace B4 := hide (B4.out.new hbS)
  replace B5 := hide (B5.out.new hbS)
  replace B7 := hide (B7.out.new hbS)
  replace B9 := hide (B9.out.new hbS)
  replace B15 := hide (B15.out.new hbS)
  replace B16 := hide (B16.out.new hbS)
  replace HBW := hide (bchain HBW.out hbS)
  clear hbS
  clear B15 B16 HK HSL HSG
  go_upto_region 27 with fail
  obtain ⟨S, HS0, HNEW, HLB⟩ : ∃ S : World → Prop, Hid (S v16) ∧ Hid (∀ u u1, S u → Below u.heap.size u u1 → S u1) ∧ Hid (∀ u, S u → Below v16.heap.size v16 u) := ⟨fun u => Below v16.heap.size v16 u, hide (Below.refl _ _), hide (fun u u1 h h1 => bchain h h1), hide (fun u h => h)⟩
  go_cut [198] (fun c wx => c = .bool false ∧ S wx)
  case first =>
    rename_i K1 a3 K0 a2 Jc Kc hJ hK
    clear a2 a3 B3 B4 B5 HBW
    as_aux_lemma =>
      cases hok : okT ra La
      · skip
        have hS : S (World.drew v16) := HNEW.out _ _ HS0.out (Below.refl _ _).drew
        go_wp2_with fail
        refine wp_region_held (S := S) (by kernel_rfl) ?_
        change wpAnyH _ _ _ _ _ _ _ _ (World.drew _)
        refine wpAnyH_take (i := 0) (v := (.agg #[.int .i64 ra, .slice a7 La.length p7])) rfl (by kernel_rfl) (by kernel_rfl) (by kernel_rfl) (fun _ _ _ h => h) (Or.inl ⟨by kernel_rfl, ?ld⟩) hS ?_; case ld => (intro w hw; have l0 := (B7.out.new (HLB.out _ hw)).row.cell (j := 0) rfl; have l1 := (B7.out.new (HLB.out _ hw)).row.cell (j := 1) rfl; clear hw; go_simp)
        refine wpAnyH_ready (rs := [1]) (by kernel_rfl) (by simp) ?_; refine AllReadyH.cons rfl (fun K hK => ?_) AllReadyH.nil; rw [if_pos (by kernel_rfl)]; go_simp
        have hcl := specTOk La ra _ _ (B7.out.new (HLB.out _ hS)).rd HSA.out
        rw [hok] at hcl
        refine hcl.mono ?_; clear hcl; rintro e w17 ⟨rfl, hw17⟩
        refine hK.out _ _ (HNEW.out _ _ hS hw17) (fun hS => ?_)
        clear hK K
        refine wpAnyH_take (i := 2) (v := (.bool false)) rfl (by kernel_rfl) (by kernel_rfl) (by kernel_rfl) (fun _ _ _ h => h) (Or.inl ⟨by kernel_rfl, fun w hw => (by kernel_rfl)⟩) hS ?_
        simp only [Act.put, List.getElem_toArray, List.getElem_cons_succ, List.getElem_cons_zero, List.setIfInBounds_toArray, List.set_cons_zero, List.set_cons_succ]
        refine wpAnyH_take (i := 3) (v := undef) rfl (by kernel_rfl) (by kernel_rfl) (by kernel_rfl) (fun _ _ _ h => h) (Or.inr ⟨by kernel_rfl, rfl⟩) hS ?_
        simp only [Act.put, List.getElem_toArray, List.getElem_cons_succ, List.getElem_cons_zero, List.setIfInBounds_toArray, List.set_cons_zero, List.set_cons_succ]
        refine wpAnyH_take (i := 4) (v := undef) rfl (by kernel_rfl) (by kernel_rfl) (by kernel_rfl) (fun _ _ _ h => h) (Or.inr ⟨by kernel_rfl, rfl⟩) hS ?_
        simp only [Act.put, List.getElem_toArray, List.getElem_cons_succ, List.getElem_cons_zero, List.setIfInBounds_toArray, List.set_cons_zero, List.set_cons_succ]
        refine wpAnyH_take (i := 5) (v := undef) rfl (by kernel_rfl) (by kernel_rfl) (by kernel_rfl) (fun _ _ _ h => h) (Or.inr ⟨by kernel_rfl, rfl⟩) hS ?_
        simp only [Act.put, List.getElem_toArray, List.getElem_cons_succ, List.getElem_cons_zero, List.setIfInBounds_toArray, List.set_cons_zero, List.set_cons_succ]
        refine wpAnyH_take (i := 6) (v := undef) rfl (by kernel_rfl) (by kernel_rfl) (by kernel_rfl) (fun _ _ _ h => h) (Or.inr ⟨by kernel_rfl, rfl⟩) hS ?_
        simp only [Act.put, List.getElem_toArray, List.getElem_cons_succ, List.getElem_cons_zero, List.setIfInBounds_toArray, List.set_cons_zero, List.set_cons_succ]
        refine wpAnyH_take (i := 7) (v := undef) rfl (by kernel_rfl) (by kernel_rfl) (by kernel_rfl) (fun _ _ _ h => h) (Or.inr ⟨by kernel_rfl, rfl⟩) hS ?_
        simp only [Act.put, List.getElem_toArray, List.getElem_cons_succ, List.getElem_cons_zero, List.setIfInBounds_toArray, List.set_cons_zero, List.set_cons_succ]
        refine wpAnyH_take (i := 8) (v := undef) rfl (by kernel_rfl) (by kernel_rfl) (by kernel_rfl) (fun _ _ _ h => h) (Or.inr ⟨by kernel_rfl, rfl⟩) hS ?_
        simp only [Act.put, List.getElem_toArray, List.getElem_cons_succ, List.getElem_cons_zero, List.setIfInBounds_toArray, List.set_cons_zero, List.set_cons_succ]
        refine wpAnyH_take (i := 9) (v := undef) rfl (by kernel_rfl) (by kernel_rfl) (by kernel_rfl) (fun _ _ _ h => h) (Or.inr ⟨by kernel_rfl, rfl⟩) hS ?_
        simp only [Act.put, List.getElem_toArray, List.getElem_cons_succ, List.getElem_cons_zero, List.setIfInBounds_toArray, List.set_cons_zero, List.set_cons_succ]
        refine wpAnyH_take (i := 10) (v := undef) rfl (by kernel_rfl) (by kernel_rfl) (by kernel_rfl) (fun _ _ _ h => h) (Or.inr ⟨by kernel_rfl, rfl⟩) hS ?_
        simp only [Act.put, List.getElem_toArray, List.getElem_cons_succ, List.getElem_cons_zero, List.setIfInBounds_toArray, List.set_cons_zero, List.set_cons_succ]
        refine wpAnyH_take (i := 11) (v := undef) rfl (by kernel_rfl) (by kernel_rfl) (by kernel_rfl) (fun _ _ _ h => h) (Or.inr ⟨by kernel_rfl, rfl⟩) hS ?_
        simp only [Act.put, List.getElem_toArray, List.getElem_cons_succ, List.getElem_cons_zero, List.setIfInBounds_toArray, List.set_cons_zero, List.set_cons_succ]
        refine wpAnyH_take (i := 12) (v := undef) rfl (by kernel_rfl) (by kernel_rfl) (by kernel_rfl) (fun _ _ _ h => h) (Or.inr ⟨by kernel_rfl, rfl⟩) hS ?_
        simp only [Act.put, List.getElem_toArray, List.getElem_cons_succ, List.getElem_cons_zero, List.setIfInBounds_toArray, List.set_cons_zero, List.set_cons_succ]
        refine wpAnyH_take (i := 13) (v := undef) rfl (by kernel_rfl) (by kernel_rfl) (by kernel_rfl) (fun _ _ _ h => h) (Or.inr ⟨by kernel_rfl, rfl⟩) hS ?_
        simp only [Act.put, List.getElem_toArray, List.getElem_cons_succ, List.getElem_cons_zero, List.setIfInBounds_toArray, List.set_cons_zero, List.set_cons_succ]
        refine wpAnyH_take (i := 14) (v := undef) rfl (by kernel_rfl) (by kernel_rfl) (by kernel_rfl) (fun _ _ _ h => h) (Or.inr ⟨by kernel_rfl, rfl⟩) hS ?_
        simp only [Act.put, List.getElem_toArray, List.getElem_cons_succ, List.getElem_cons_zero, List.setIfInBounds_toArray, List.set_cons_zero, List.set_cons_succ]
        refine wpAnyH_take (i := 15) (v := undef) rfl (by kernel_rfl) (by kernel_rfl) (by kernel_rfl) (fun _ _ _ h => h) (Or.inr ⟨by kernel_rfl, rfl⟩) hS ?_
        simp only [Act.put, List.getElem_toArray, List.getElem_cons_succ, List.getElem_cons_zero, List.setIfInBounds_toArray, List.set_cons_zero, List.set_cons_succ]
        refine wpAnyH_take (i := 16) (v := undef) rfl (by kernel_rfl) (by kernel_rfl) (by kernel_rfl) (fun _ _ _ h => h) (Or.inr ⟨by kernel_rfl, rfl⟩) hS ?_
        simp only [Act.put, List.getElem_toArray, List.getElem_cons_succ, List.getElem_cons_zero, List.setIfInBounds_toArray, List.set_cons_zero, List.set_cons_succ]
        refine wpAnyH_take (i := 17) (v := undef) rfl (by kernel_rfl) (by kernel_rfl) (by kernel_rfl) (fun _ _ _ h => h) (Or.inr ⟨by kernel_rfl, rfl⟩) hS ?_
        simp only [Act.put, List.getElem_toArray, List.getElem_cons_succ, List.getElem_cons_zero, List.setIfInBounds_toArray, List.set_cons_zero, List.set_cons_succ]
        refine wpAnyH_take (i := 18) (v := undef) rfl (by kernel_rfl) (by kernel_rfl) (by kernel_rfl) (fun _ _ _ h => h) (Or.inr ⟨by kernel_rfl, rfl⟩) hS ?_
        simp only [Act.put, List.getElem_toArray, List.getElem_cons_succ, List.getElem_cons_zero, List.setIfInBounds_toArray, List.set_cons_zero, List.set_cons_succ]
        refine wpAnyH_take (i := 19) (v := undef) rfl (by kernel_rfl) (by kernel_rfl) (by kernel_rfl) (fun _ _ _ h => h) (Or.inr ⟨by kernel_rfl, rfl⟩) hS ?_
        simp only [Act.put, List.getElem_toArray, List.getElem_cons_succ, List.getElem_cons_zero, List.setIfInBounds_toArray, List.set_cons_zero, List.set_cons_succ]
        refine wpAnyH_take (i := 20) (v := undef) rfl (by kernel_rfl) (by kernel_rfl) (by kernel_rfl) (fun _ _ _ h => h) (Or.inr ⟨by kernel_rfl, rfl⟩) hS ?_
        simp only [Act.put, List.getElem_toArray, List.getElem_cons_succ, List.getElem_cons_zero, List.setIfInBounds_toArray, List.set_cons_zero, List.set_cons_succ]
        refine wpAnyH_take (i := 21) (v := undef) rfl (by kernel_rfl) (by kernel_rfl) (by kernel_rfl) (fun _ _ _ h => h) (Or.inr ⟨by kernel_rfl, rfl⟩) hS ?_
        simp only [Act.put, List.getElem_toArray, List.getElem_cons_succ, List.getElem_cons_zero, List.setIfInBounds_toArray, List.set_cons_zero, List.set_cons_succ]
        refine wpAnyH_take (i := 22) (v := undef) rfl (by kernel_rfl) (by kernel_rfl) (by kernel_rfl) (fun _ _ _ h => h) (Or.inr ⟨by kernel_rfl, rfl⟩) hS ?_
        simp only [Act.put, List.getElem_toArray, List.getElem_cons_succ, List.getElem_cons_zero, List.setIfInBounds_toArray, List.set_cons_zero, List.set_cons_succ]
        refine wpAnyH_take (i := 23) (v := undef) rfl (by kernel_rfl) (by kernel_rfl) (by kernel_rfl) (fun _ _ _ h => h) (Or.inr ⟨by kernel_rfl, rfl⟩) hS ?_
        simp only [Act.put, List.getElem_toArray, List.getElem_cons_succ, List.getElem_cons_zero, List.setIfInBounds_toArray, List.set_cons_zero, List.set_cons_succ]
        refine wpAnyH_take (i := 24) (v := undef) rfl (by kernel_rfl) (by kernel_rfl) (by kernel_rfl) (fun _ _ _ h => h) (Or.inr ⟨by kernel_rfl, rfl⟩) hS ?_
        simp only [Act.put, List.getElem_toArray, List.getElem_cons_succ, List.getElem_cons_zero, List.setIfInBounds_toArray, List.set_cons_zero, List.set_cons_succ]
        refine wpAnyH_take (i := 25) (v := undef) rfl (by kernel_rfl) (by kernel_rfl) (by kernel_rfl) (fun _ _ _ h => h) (Or.inr ⟨by kernel_rfl, rfl⟩) hS ?_
        simp only [Act.put, List.getElem_toArray, List.getElem_cons_succ, List.getElem_cons_zero, List.setIfInBounds_toArray, List.set_cons_zero, List.set_cons_succ]
        refine wpAnyH_take (i := 26) (v := undef) rfl (by kernel_rfl) (by kernel_rfl) (by kernel_rfl) (fun _ _ _ h => h) (Or.inr ⟨by kernel_rfl, rfl⟩) hS ?_
        simp only [Act.put, List.getElem_toArray, List.getElem_cons_succ, List.getElem_cons_zero, List.setIfInBounds_toArray, List.set_cons_zero, List.set_cons_succ]
        refine wpAnyH_take (i := 27) (v := (.bool false)) rfl (by kernel_rfl) (by kernel_rfl) (by kernel_rfl) (fun _ _ _ h => h) (Or.inl ⟨by kernel_rfl, fun w hw => (by kernel_rfl)⟩) hS ?_
        simp only [Act.put, List.getElem_toArray, List.getElem_cons_succ, List.getElem_cons_zero, List.setIfInBounds_toArray, List.set_cons_zero, List.set_cons_succ]
        refine wpAnyH_done (by kernel_rfl) ?_ _
        go_wp2_with fail
        go_meet
        exact ⟨rfl, hS⟩
      · obtain ⟨hyo, hpre, hyl⟩ := resized_ok r hok
        rw [← HY.out] at hyo hpre hyl
        dsimp only at hyo hpre hyl
        have HYF : Hid (∀ u ∈ yL, u.fine) := fun u hu => fine_of ((okT_parts hyo).2.2.1 u hu)
        have hle : ¬ (La.length : Int) < yL.length := by omega
        have hle2 : (yL.length : Int) ≤ La.length := by omega
        have HPRE := hide hpre
        have hp7 : La.length ≤ p7 := by obtain ⟨_, _, _, e, h, _⟩ := B7.out.rd; simp only [Value.slice.injEq, true_and] at e; obtain ⟨rfl, rfl⟩ := e; exact h
        have hp7b : (yL.length : Int) ≤ p7 := by omega
        have hp7c : yL.length ≤ p7 := by omega
        clear hpre
        have hS : S (World.drew v16) := HNEW.out _ _ HS0.out (Below.refl _ _).drew
        go_wp2_with fail
        refine wp_region_held (S := S) (by kernel_rfl) ?_
        change wpAnyH _ _ _ _ _ _ _ _ (World.drew _)
        refine wpAnyH_take (i := 0) (v := (.agg #[.int .i64 ra, .slice a7 La.length p7])) rfl (by kernel_rfl) (by kernel_rfl) (by kernel_rfl) (fun _ _ _ h => h) (Or.inl ⟨by kernel_rfl, ?ld⟩) hS ?_; case ld => (intro w hw; have l0 := (B7.out.new (HLB.out _ hw)).row.cell (j := 0) rfl; have l1 := (B7.out.new (HLB.out _ hw)).row.cell (j := 1) rfl; clear hw; go_simp)
        refine wpAnyH_ready (rs := [1]) (by kernel_rfl) (by simp) ?_; refine AllReadyH.cons rfl (fun K hK => ?_) AllReadyH.nil; rw [if_pos (by kernel_rfl)]; go_simp
        have hcl := specTOk La ra _ _ (B7.out.new (HLB.out _ hS)).rd HSA.out
        rw [hok] at hcl
        refine hcl.mono ?_; clear hcl; rintro e w17 ⟨rfl, hw17⟩
        refine hK.out _ _ (HNEW.out _ _ hS hw17) (fun hS => ?_)
        clear hK K
        refine wpAnyH_take (i := 2) (v := (.bool true)) rfl (by kernel_rfl) (by kernel_rfl) (by kernel_rfl) (fun _ _ _ h => h) (Or.inl ⟨by kernel_rfl, fun w hw => (by kernel_rfl)⟩) hS ?_
        simp only [Act.put, List.getElem_toArray, List.getElem_cons_succ, List.getElem_cons_zero, List.setIfInBounds_toArray, List.set_cons_zero, List.set_cons_succ]
        refine wpAnyH_take (i := 3) (v := (.agg #[.int .i64 yr, .slice a9 yL.length p9])) rfl (by kernel_rfl) (by kernel_rfl) (by kernel_rfl) (fun _ _ _ h => h) (Or.inl ⟨by kernel_rfl, ?ld⟩) hS ?_; case ld => (intro w hw; have l0 := (B9.out.new (HLB.out _ hw)).row.cell (j := 0) rfl; have l1 := (B9.out.new (HLB.out _ hw)).row.cell (j := 1) rfl; clear hw; go_simp)
        refine wpAnyH_ready (rs := [4]) (by kernel_rfl) (by simp) ?_; refine AllReadyH.cons rfl (fun K hK => ?_) AllReadyH.nil; rw [if_pos (by kernel_rfl)]; go_simp
        have hcl := implTOk yL yr _ _ (B9.out.new (HLB.out _ hS)).rd HYF.out
        rw [hyo] at hcl
        refine hcl.mono ?_; clear hcl; rintro e w18 ⟨rfl, hw18⟩
        refine hK.out _ _ (HNEW.out _ _ hS hw18) (fun hS => ?_)
        clear hK K
        refine wpAnyH_take (i := 5) (v := (.bool false)) rfl (by kernel_rfl) (by kernel_rfl) (by kernel_rfl) (fun _ _ _ h => h) (Or.inl ⟨by kernel_rfl, fun w hw => (by kernel_rfl)⟩) hS ?_
        simp only [Act.put, List.getElem_toArray, List.getElem_cons_succ, List.getElem_cons_zero, List.setIfInBounds_toArray, List.set_cons_zero, List.set_cons_succ]
        refine wpAnyH_take (i := 6) (v := (.bool false)) rfl (by kernel_rfl) (by kernel_rfl) (by kernel_rfl) (fun _ _ _ h => h) (Or.inl ⟨by kernel_rfl, fun w hw => (by kernel_rfl)⟩) hS ?_
        simp only [Act.put, List.getElem_toArray, List.getElem_cons_succ, List.getElem_cons_zero, List.setIfInBounds_toArray, List.set_cons_zero, List.set_cons_succ]
        refine wpAnyH_take (i := 7) (v := ?_) rfl (by kernel_rfl) (by kernel_rfl) (by kernel_rfl) (fun _ _ _ h => h) (Or.inl ⟨by kernel_rfl, ?_⟩) hS ?_; rotate_left; focus (intro w hw; clear hw; go_simp; try with_reducible rfl)
        simp only [Act.put, List.getElem_toArray, List.getElem_cons_succ, List.getElem_cons_zero, List.setIfInBounds_toArray, List.set_cons_zero, List.set_cons_succ]
        refine wpAnyH_take (i := 8) (v := (.slice a9 yL.length p9)) rfl (by kernel_rfl) (by kernel_rfl) (by kernel_rfl) (fun _ _ _ h => h) (Or.inl ⟨by kernel_rfl, ?ld⟩) hS ?_; case ld => (intro w hw; have l0 := (B9.out.new (HLB.out _ hw)).row.cell (j := 0) rfl; have l1 := (B9.out.new (HLB.out _ hw)).row.cell (j := 1) rfl; clear hw; go_simp)
        refine wpAnyH_take (i := 9) (v := ?_) rfl (by kernel_rfl) (by kernel_rfl) (by kernel_rfl) (fun _ _ _ h => h) (Or.inl ⟨by kernel_rfl, ?_⟩) hS ?_; rotate_left; focus (intro w hw; clear hw; go_simp; try with_reducible rfl)
        simp only [Act.put, List.getElem_toArray, List.getElem_cons_succ, List.getElem_cons_zero, List.setIfInBounds_toArray, List.set_cons_zero, List.set_cons_succ]
        refine wpAnyH_take (i := 10) (v := ?_) rfl (by kernel_rfl) (by kernel_rfl) (by kernel_rfl) (fun _ _ _ h => h) (Or.inl ⟨by kernel_rfl, ?_⟩) hS ?_; rotate_left; focus (intro w hw; clear hw; go_simp; try with_reducible rfl)
        simp only [Act.put, List.getElem_toArray, List.getElem_cons_succ, List.getElem_cons_zero, List.setIfInBounds_toArray, List.set_cons_zero, List.set_cons_succ]
        refine wpAnyH_take (i := 11) (v := (.slice a7 La.length p7)) rfl (by kernel_rfl) (by kernel_rfl) (by kernel_rfl) (fun _ _ _ h => h) (Or.inl ⟨by kernel_rfl, ?ld⟩) hS ?_; case ld => (intro w hw; have l0 := (B7.out.new (HLB.out _ hw)).row.cell (j := 0) rfl; have l1 := (B7.out.new (HLB.out _ hw)).row.cell (j := 1) rfl; clear hw; go_simp)
        refine wpAnyH_take (i := 12) (v := ?_) rfl (by kernel_rfl) (by kernel_rfl) (by kernel_rfl) (fun _ _ _ h => h) (Or.inl ⟨by kernel_rfl, ?_⟩) hS ?_; rotate_left; focus (intro w hw; clear hw; go_simp; try with_reducible rfl)
        simp only [Act.put, List.getElem_toArray, List.getElem_cons_succ, List.getElem_cons_zero, List.setIfInBounds_toArray, List.set_cons_zero, List.set_cons_succ]
        refine wpAnyH_take (i := 13) (v := ?_) rfl (by kernel_rfl) (by kernel_rfl) (by kernel_rfl) (fun _ _ _ h => h) (Or.inl ⟨by kernel_rfl, ?_⟩) hS ?_; rotate_left; focus (intro w hw; clear hw; go_simp; try with_reducible rfl)
        simp only [Act.put, List.getElem_toArray, List.getElem_cons_succ, List.getElem_cons_zero, List.setIfInBounds_toArray, List.set_cons_zero, List.set_cons_succ]
        rw [decide_eq_false (show ¬ La.length < yL.length by omega)]
        refine wpAnyH_take (i := 14) (v := (.bool false)) rfl (by kernel_rfl) (by kernel_rfl) (by kernel_rfl) (fun _ _ _ h => h) (Or.inl ⟨by kernel_rfl, fun w hw => (by kernel_rfl)⟩) hS ?_
        simp only [Act.put, List.getElem_toArray, List.getElem_cons_succ, List.getElem_cons_zero, List.setIfInBounds_toArray, List.set_cons_zero, List.set_cons_succ]
        refine wpAnyH_take (i := 15) (v := (.bool false)) rfl (by kernel_rfl) (by kernel_rfl) (by kernel_rfl) (fun _ _ _ h => h) (Or.inl ⟨by kernel_rfl, fun w hw => (by kernel_rfl)⟩) hS ?_
        simp only [Act.put, List.getElem_toArray, List.getElem_cons_succ, List.getElem_cons_zero, List.setIfInBounds_toArray, List.set_cons_zero, List.set_cons_succ]
        refine wpAnyH_take (i := 16) (v := ?_) rfl (by kernel_rfl) (by kernel_rfl) (by kernel_rfl) (fun _ _ _ h => h) (Or.inl ⟨by kernel_rfl, ?_⟩) hS ?_; rotate_left; focus (intro w hw; clear hw; go_simp; try with_reducible rfl)
        simp only [Act.put, List.getElem_toArray, List.getElem_cons_succ, List.getElem_cons_zero, List.setIfInBounds_toArray, List.set_cons_zero, List.set_cons_succ]
        refine wpAnyH_take (i := 17) (v := (.slice a9 yL.length p9)) rfl (by kernel_rfl) (by kernel_rfl) (by kernel_rfl) (fun _ _ _ h => h) (Or.inl ⟨by kernel_rfl, ?ld⟩) hS ?_; case ld => (intro w hw; have l0 := (B9.out.new (HLB.out _ hw)).row.cell (j := 0) rfl; have l1 := (B9.out.new (HLB.out _ hw)).row.cell (j := 1) rfl; clear hw; go_simp)
        refine wpAnyH_take (i := 18) (v := ?_) rfl (by kernel_rfl) (by kernel_rfl) (by kernel_rfl) (fun _ _ _ h => h) (Or.inl ⟨by kernel_rfl, ?_⟩) hS ?_; rotate_left; focus (intro w hw; clear hw; go_simp; try with_reducible rfl)
        simp only [Act.put, List.getElem_toArray, List.getElem_cons_succ, List.getElem_cons_zero, List.setIfInBounds_toArray, List.set_cons_zero, List.set_cons_succ]
        refine wpAnyH_take (i := 19) (v := (.slice a7 La.length p7)) rfl (by kernel_rfl) (by kernel_rfl) (by kernel_rfl) (fun _ _ _ h => h) (Or.inl ⟨by kernel_rfl, ?ld⟩) hS ?_; case ld => (intro w hw; have l0 := (B7.out.new (HLB.out _ hw)).row.cell (j := 0) rfl; have l1 := (B7.out.new (HLB.out _ hw)).row.cell (j := 1) rfl; clear hw; go_simp)
        refine wpAnyH_take (i := 20) (v := ?_) rfl (by kernel_rfl) (by kernel_rfl) (by kernel_rfl) (fun _ _ _ h => h) (Or.inl ⟨by kernel_rfl, ?_⟩) hS ?_; rotate_left; focus (intro w hw; clear hw; go_simp; try with_reducible rfl)
        simp only [Act.put, List.getElem_toArray, List.getElem_cons_succ, List.getElem_cons_zero, List.setIfInBounds_toArray, List.set_cons_zero, List.set_cons_succ]
        refine wpAnyH_take (i := 21) (v := (.slice a9 yL.length p9)) rfl (by kernel_rfl) (by kernel_rfl) (by kernel_rfl) (fun _ _ _ h => h) (Or.inl ⟨by kernel_rfl, ?ld⟩) hS ?_; case ld => (intro w hw; have l0 := (B9.out.new (HLB.out _ hw)).row.cell (j := 0) rfl; have l1 := (B9.out.new (HLB.out _ hw)).row.cell (j := 1) rfl; clear hw; go_simp)
        refine wpAnyH_take (i := 22) (v := ?_) rfl (by kernel_rfl) (by kernel_rfl) (by kernel_rfl) (fun _ _ _ h => h) (Or.inl ⟨by kernel_rfl, ?_⟩) hS ?_; rotate_left; focus (intro w hw; clear hw; go_simp; try with_reducible rfl)
        simp only [Act.put, List.getElem_toArray, List.getElem_cons_succ, List.getElem_cons_zero, List.setIfInBounds_toArray, List.set_cons_zero, List.set_cons_succ]
        refine wpAnyH_take (i := 23) (v := ?_) rfl (by kernel_rfl) (by kernel_rfl) (by kernel_rfl) (fun _ _ _ h => h) (Or.inl ⟨by kernel_rfl, ?_⟩) hS ?_; rotate_left; focus (intro w hw; clear hw; go_simp; try with_reducible rfl)
        simp only [Act.put, List.getElem_toArray, List.getElem_cons_succ, List.getElem_cons_zero, List.setIfInBounds_toArray, List.set_cons_zero, List.set_cons_succ]
        refine wpAnyH_ready (rs := [24]) (by kernel_rfl) (by simp) ?_; refine AllReadyH.cons rfl (fun K hK => ?_) AllReadyH.nil; rw [if_pos (by kernel_rfl)]; go_simp
        refine (likeFields1 yL _ _ _ (B9.out.new (HLB.out _ hS)).rd (by have h := reads_take (m := yL.length) (B7.out.new (HLB.out _ hS)).rd hyl; rw [← HPRE.out] at h; exact h)).mono ?_; rintro e w19 ⟨rfl, hw19⟩
        refine hK.out _ _ (HNEW.out _ _ hS hw19) (fun hS => ?_)
        clear hK K
        refine wpAnyH_take (i := 25) (v := (.bool false)) rfl (by kernel_rfl) (by kernel_rfl) (by kernel_rfl) (fun _ _ _ h => h) (Or.inl ⟨by kernel_rfl, fun w hw => (by kernel_rfl)⟩) hS ?_
        simp only [Act.put, List.getElem_toArray, List.getElem_cons_succ, List.getElem_cons_zero, List.setIfInBounds_toArray, List.set_cons_zero, List.set_cons_succ]
        refine wpAnyH_take (i := 26) (v := (.bool false)) rfl (by kernel_rfl) (by kernel_rfl) (by kernel_rfl) (fun _ _ _ h => h) (Or.inl ⟨by kernel_rfl, fun w hw => (by kernel_rfl)⟩) hS ?_
        simp only [Act.put, List.getElem_toArray, List.getElem_cons_succ, List.getElem_cons_zero, List.setIfInBounds_toArray, List.set_cons_zero, List.set_cons_succ]
        refine wpAnyH_take (i := 27) (v := (.bool false)) rfl (by kernel_rfl) (by kernel_rfl) (by kernel_rfl) (fun _ _ _ h => h) (Or.inl ⟨by kernel_rfl, fun w hw => (by kernel_rfl)⟩) hS ?_
        simp only [Act.put, List.getElem_toArray, List.getElem_cons_succ, List.getElem_cons_zero, List.setIfInBounds_toArray, List.set_cons_zero, List.set_cons_succ]
        refine wpAnyH_done (by kernel_rfl) ?_ _
        go_wp2_with fail
        go_meet
        exact ⟨rfl, hS⟩
  case rest =>
  obtain ⟨rfl, hS⟩ := hcut
  obtain ⟨v20, rfl⟩ : ∃ v : World, v = wc := ⟨_, rfl⟩
  have hbS := HLB.out _ hS
  clear hS HS0 HNEW HLB S
  replace B3 := hide (B3.out.new hbS)
  replace B4 := hide (B4.out.new hbS)
  replace B5 := hide (B5.out.new hbS)
  replace B7 := hide (B7.out.new hbS)
  replace B9 := hide (B9.out.new hbS)
  replace HBW := hide (bchain HBW.out hbS)
  clear hbS
  clear B7 B9 HY HSA
  go_upto_region 29 with fail
  have x0 := B3.out.row.cell (j := 0) rfl
  have x1 := B3.out.row.cell (j := 1) rfl
  go_wp2_with fail
  clear x0 x1
  have hcl := specTOk Lt rt _ _ B3.out.rd HST.out
  cases hok : okT rt Lt
  · skip
    rw [hok] at hcl
    have e := noted_no f hok
    rw [← HN.out] at e
    simp only [Prod.mk.injEq] at e
    obtain ⟨⟨rfl, rfl⟩, rfl⟩ := e
    refine hcl.mono ?_; clear hcl; rintro x w21 ⟨rfl, hb21⟩
    replace B3 := hide (B3.out.new hb21)
    replace B4 := hide (B4.out.new hb21)
    replace B5 := hide (B5.out.new hb21)
    replace HBW := hide (bchain HBW.out hb21)
    clear hb21
    have x0 := B5.out.row.cell (j := 0) rfl
    have x1 := B5.out.row.cell (j := 1) rfl
    go_wp2_with fail
    clear x0 x1
    refine (likeTable1 [] 0 _ _ _ B5.out.rd ⟨rfl, none, 0, rfl, Nat.le_refl _, Nat.zero_le _, fun h => absurd h (Nat.lt_irrefl 0)⟩).mono ?_; rintro x w22 ⟨rfl, hb22⟩
    replace HBW := hide (bchain HBW.out hb22)
    go_wp2_with fail
    go_ret
    exact ⟨rfl, HBW.out⟩
  · skip
    rw [hok] at hcl
    refine hcl.mono ?_; clear hcl; rintro x w21 ⟨rfl, hb21⟩
    replace B3 := hide (B3.out.new hb21)
    replace B4 := hide (B4.out.new hb21)
    replace B5 := hide (B5.out.new hb21)
    replace HBW := hide (bchain HBW.out hb21)
    clear hb21
    cases hof : okF f
    · skip
      have e := noted_as hok hof
      rw [← HN.out] at e
      simp only [Prod.mk.injEq] at e
      obtain ⟨⟨rfl, rfl⟩, rfl⟩ := e
      have x0 := B3.out.row.cell (j := 0) rfl
      have x1 := B3.out.row.cell (j := 1) rfl
      have y0 := B5.out.row.cell (j := 0) rfl
      have y1 := B5.out.row.cell (j := 1) rfl
      go_wp2_with fail
      clear x0 x1 y0 y1
      refine (likeTable1 _ _ _ _ _ B5.out.rd B3.out.rd).mono ?_; rintro x w22 ⟨rfl, hb22⟩
      replace HBW := hide (bchain HBW.out hb22)
      go_wp2_with fail
      go_ret
      exact ⟨rfl, HBW.out⟩
    · skip
      obtain ⟨N, eN, hoN, hE, hG⟩ := noted_ok hok hof
      rw [← HN.out] at eN
      simp only [Prod.mk.injEq] at eN
      obtain ⟨⟨rfl, rfl⟩, rfl⟩ := eN
      have HNF : Hid (∀ u ∈ nL, u.fine) := fun u hu => fine_of ((okT_parts hoN).2.2.1 u hu)
      have HE := hide hE; have HG := hide hG
      clear hE hG
      have y0 := B5.out.row.cell (j := 0) rfl
      have y1 := B5.out.row.cell (j := 1) rfl
      go_wp2_with fail
      clear y0 y1
      have hcl := implTOk nL nr _ _ B5.out.rd HNF.out
      rw [hoN] at hcl
      refine hcl.mono ?_; clear hcl; rintro x w22 ⟨rfl, hb22⟩
      replace B3 := hide (B3.out.new hb22)
      replace B4 := hide (B4.out.new hb22)
      replace B5 := hide (B5.out.new hb22)
      replace HBW := hide (bchain HBW.out hb22)
      clear hb22
      go_upto_region 35 with fail
      obtain ⟨S, HS0, HNEW, HLB⟩ : ∃ S : World → Prop, Hid (S w22) ∧ Hid (∀ u u1, S u → Below u.heap.size u u1 → S u1) ∧ Hid (∀ u, S u → Below w22.heap.size w22 u) := ⟨fun u => Below w22.heap.size w22 u, hide (Below.refl _ _), hide (fun u u1 h h1 => bchain h h1), hide (fun u h => h)⟩
      by_cases hw : nr < wt f
      · as_aux_lemma =>
          have hw2 : nr < wt f := hw
          have hS : S (World.drew w22) := HNEW.out _ _ HS0.out (Below.refl _ _).drew
          go_wp2_with fail
          refine wp_region_held (S := S) (by kernel_rfl) ?_
          change wpAnyH _ _ _ _ _ _ _ _ (World.drew _)
          refine wpAnyH_take (i := 0) (v := (.agg #[.string f.n, .string f.v])) rfl (by kernel_rfl) (by kernel_rfl) (by kernel_rfl) (fun _ _ _ h => h) (Or.inl ⟨by kernel_rfl, ?ld⟩) hS ?_; case ld => (intro w hw; have l0 := (B4.out.new (HLB.out _ hw)).row.cell (j := 0) rfl; have l1 := (B4.out.new (HLB.out _ hw)).row.cell (j := 1) rfl; clear hw; go_simp)
          refine wpAnyH_take (i := 2) (v := ?_) rfl (by kernel_rfl) (by kernel_rfl) (by kernel_rfl) (fun _ _ _ h => h) (Or.inl ⟨by kernel_rfl, ?_⟩) hS ?_; rotate_left; focus (intro w hw; clear hw; go_simp; try with_reducible rfl)
          simp only [Act.put, List.getElem_toArray, List.getElem_cons_succ, List.getElem_cons_zero, List.setIfInBounds_toArray, List.set_cons_zero, List.set_cons_succ]
          refine wpAnyH_take (i := 3) (v := (.int .i64 nr)) rfl (by kernel_rfl) (by kernel_rfl) (by kernel_rfl) (fun _ _ _ h => h) (Or.inl ⟨by kernel_rfl, ?ld⟩) hS ?_; case ld => (intro w hw; have l0 := (B3.out.new (HLB.out _ hw)).row.cell (j := 0) rfl; have l1 := (B3.out.new (HLB.out _ hw)).row.cell (j := 1) rfl; clear hw; go_simp)
          simp only [Act.put, List.getElem_toArray, List.getElem_cons_succ, List.getElem_cons_zero, List.setIfInBounds_toArray, List.set_cons_zero, List.set_cons_succ]
          refine wpAnyH_ready (rs := [1]) (by kernel_rfl) (by simp) ?_; refine AllReadyH.cons rfl (fun K hK => ?_) AllReadyH.nil; rw [if_pos (by kernel_rfl)]; go_simp
          refine (implWt f _ HSF.out).mono ?_; rintro e w23 ⟨rfl, hw23⟩
          refine hK.out _ _ (HNEW.out _ _ hS hw23) (fun hS => ?_)
          clear hK K
          refine wpAnyH_take (i := 4) (v := ?_) rfl (by kernel_rfl) (by kernel_rfl) (by kernel_rfl) (fun _ _ _ h => h) (Or.inl ⟨by kernel_rfl, ?_⟩) hS ?_; rotate_left; focus (intro w hw; clear hw; go_simp; try with_reducible rfl)
          simp only [Act.put, List.getElem_toArray, List.getElem_cons_succ, List.getElem_cons_zero, List.setIfInBounds_toArray, List.set_cons_zero, List.set_cons_succ]
          refine wpAnyH_done (by kernel_rfl) ?_ _
          have hbS := HLB.out _ hS
          replace B3 := hide (B3.out.new hbS)
          replace B4 := hide (B4.out.new hbS)
          replace B5 := hide (B5.out.new hbS)
          replace HBW := hide (bchain HBW.out hbS)
          clear hbS
          have eE := HE.out hw
          subst eE
          have x0 := B5.out.row.cell (j := 0) rfl
          have x1 := B5.out.row.cell (j := 1) rfl
          go_wp2_with fail
          go_ret
          exact ⟨rfl, HBW.out⟩
      · as_aux_lemma =>
          have hw2 : ¬ nr < wt f := hw
          have hS : S (World.drew w22) := HNEW.out _ _ HS0.out (Below.refl _ _).drew
          go_wp2_with fail
          refine wp_region_held (S := S) (by kernel_rfl) ?_
          change wpAnyH _ _ _ _ _ _ _ _ (World.drew _)
          refine wpAnyH_take (i := 0) (v := (.agg #[.string f.n, .string f.v])) rfl (by kernel_rfl) (by kernel_rfl) (by kernel_rfl) (fun _ _ _ h => h) (Or.inl ⟨by kernel_rfl, ?ld⟩) hS ?_; case ld => (intro w hw; have l0 := (B4.out.new (HLB.out _ hw)).row.cell (j := 0) rfl; have l1 := (B4.out.new (HLB.out _ hw)).row.cell (j := 1) rfl; clear hw; go_simp)
          refine wpAnyH_take (i := 2) (v := ?_) rfl (by kernel_rfl) (by kernel_rfl) (by kernel_rfl) (fun _ _ _ h => h) (Or.inl ⟨by kernel_rfl, ?_⟩) hS ?_; rotate_left; focus (intro w hw; clear hw; go_simp; try with_reducible rfl)
          simp only [Act.put, List.getElem_toArray, List.getElem_cons_succ, List.getElem_cons_zero, List.setIfInBounds_toArray, List.set_cons_zero, List.set_cons_succ]
          refine wpAnyH_take (i := 3) (v := (.int .i64 nr)) rfl (by kernel_rfl) (by kernel_rfl) (by kernel_rfl) (fun _ _ _ h => h) (Or.inl ⟨by kernel_rfl, ?ld⟩) hS ?_; case ld => (intro w hw; have l0 := (B3.out.new (HLB.out _ hw)).row.cell (j := 0) rfl; have l1 := (B3.out.new (HLB.out _ hw)).row.cell (j := 1) rfl; clear hw; go_simp)
          simp only [Act.put, List.getElem_toArray, List.getElem_cons_succ, List.getElem_cons_zero, List.setIfInBounds_toArray, List.set_cons_zero, List.set_cons_succ]
          refine wpAnyH_ready (rs := [1]) (by kernel_rfl) (by simp) ?_; refine AllReadyH.cons rfl (fun K hK => ?_) AllReadyH.nil; rw [if_pos (by kernel_rfl)]; go_simp
          refine (implWt f _ HSF.out).mono ?_; rintro e w23 ⟨rfl, hw23⟩
          refine hK.out _ _ (HNEW.out _ _ hS hw23) (fun hS => ?_)
          clear hK K
          refine wpAnyH_take (i := 4) (v := ?_) rfl (by kernel_rfl) (by kernel_rfl) (by kernel_rfl) (fun _ _ _ h => h) (Or.inl ⟨by kernel_rfl, ?_⟩) hS ?_; rotate_left; focus (intro w hw; clear hw; go_simp; try with_reducible rfl)
          simp only [Act.put, List.getElem_toArray, List.getElem_cons_succ, List.getElem_cons_zero, List.setIfInBounds_toArray, List.set_cons_zero, List.set_cons_succ]
          refine wpAnyH_done (by kernel_rfl) ?_ _
          have hbS := HLB.out _ hS
          replace B3 := hide (B3.out.new hbS)
          replace B4 := hide (B4.out.new hbS)
          replace B5 := hide (B5.out.new hbS)
          replace HBW := hide (bchain HBW.out hbS)
          clear hbS
          obtain ⟨m, hm, eG⟩ := HG.out (by omega)
          have hmt : (Lt.take m).length = m := by rw [List.length_take]; omega
          have hln : nL.length = m + 1 := by rw [eG, List.length_cons, hmt]
          have EG := hide eG; have HLN := hide hln; have HMT := hide hmt
          have q1 : 1 ≤ nL.length := by omega
          have q2 : (1 : Int) ≤ nL.length := by omega
          have q0 : 0 < nL.length := by omega
          have q0i : (0 : Int) < nL.length := by omega
          have q3 : nL.length - 1 ≤ Lt.length := by omega
          have q4 : (nL.length : Int) - 1 ≤ Lt.length := by omega
          have q5 : 0 ≤ (nL.length : Int) - 1 := by omega
          clear eG hln hmt
          obtain ⟨b5, o5, rfl⟩ : ∃ b o, a5 = some ⟨b, o, none⟩ := by obtain ⟨_, _, _, e, _, _, h3⟩ := B5.out.rd; simp only [Value.slice.injEq, true_and] at e; obtain ⟨rfl, rfl⟩ := e; obtain ⟨b, o, e, _⟩ := h3 q1; exact ⟨b, o, e⟩
          have hp5 : nL.length ≤ p5 := by obtain ⟨_, _, _, e, h, _⟩ := B5.out.rd; simp only [Value.slice.injEq, true_and] at e; obtain ⟨_, rfl⟩ := e; exact h
          have hpt : Lt.length ≤ pt := by obtain ⟨_, _, _, e, h, _⟩ := B3.out.rd; simp only [Value.slice.injEq, true_and] at e; obtain ⟨_, rfl⟩ := e; exact h
          have hp5i : (1 : Int) ≤ p5 := by omega
          have hpti : (nL.length : Int) - 1 ≤ pt := by omega
          have HROW : Hid (∀ u, Below w23.heap.size w23 u → u.cell? ⟨b5, o5, none⟩ = some (.string f.n) ∧ u.cell? ⟨b5, o5 + 1, none⟩ = some (.string f.v)) := fun u hu => by
            obtain ⟨_, _, _, e, _, _, h3⟩ := (B5.out.new hu).rd
            simp only [Value.slice.injEq, true_and] at e
            obtain ⟨rfl, rfl⟩ := e
            obtain ⟨b, o, e, _, hc⟩ := h3 q1
            simp only [Option.some.injEq, Addr.mk.injEq, and_true] at e
            obtain ⟨rfl, rfl⟩ := e
            exact ⟨hc 0 _ (by rw [EG.out]; rfl), hc 1 _ (by rw [EG.out]; rfl)⟩
          have HT5 : Hid (∀ u, Below w23.heap.size w23 u → Reads u (.slice (if p5 = 1 then some ⟨b5, o5, none⟩ else some ⟨b5, o5 + 2, none⟩) (nL.length - 1) (p5 - 1)) (Lt.take m).length 2 (fv (Lt.take m))) := fun u hu => by
            have h0 := (B5.out.new hu).rd
            rw [EG.out] at h0
            have h := reads_tail h0
            have hm0 := HLN.out
            rw [HMT.out] at h ⊢
            rw [show nL.length - 1 = m by rw [HLN.out]; rfl]
            by_cases hp : p5 = 1
            · rw [if_pos hp]
              have : m = 0 := by omega
              subst this
              exact ⟨rfl, _, _, rfl, Nat.zero_le _, by unfold maxLen; omega, fun h => absurd h (Nat.lt_irrefl 0)⟩
            · rw [if_neg hp]
              exact h
          have hl111 := (okT_parts hoN).2.2.2.2
          have HWR : Hid (IntKind.i64.wrap ((nL.length : Int) - 1) = ((nL.length - 1 : Nat) : Int)) := by show _ = _; rw [IntKind.wrap_i64]; omega
          have q6 : ((nL.length - 1 : Nat) : Int) ≤ Lt.length := by omega
          have q7 : ((nL.length - 1 : Nat) : Int) ≤ pt := by omega
          have q8 : nL.length - 1 ≤ pt := by omega
          have HT3 : Hid (∀ u, Below w23.heap.size w23 u → Reads u (.slice at1 (nL.length - 1) pt) (Lt.take m).length 2 (fv (Lt.take m))) := fun u hu => by
            rw [show nL.length - 1 = m by rw [HLN.out]; rfl]
            exact reads_take (B3.out.new hu).rd hm
          go_upto_region 37 with fail
          obtain ⟨S, HS0, HNEW, HLB⟩ : ∃ S : World → Prop, Hid (S w23) ∧ Hid (∀ u u1, S u → Below u.heap.size u u1 → S u1) ∧ Hid (∀ u, S u → Below w23.heap.size w23 u) := ⟨fun u => Below w23.heap.size w23 u, hide (Below.refl _ _), hide (fun u u1 h h1 => bchain h h1), hide (fun u h => h)⟩
          have hS : S (World.drew w23) := HNEW.out _ _ HS0.out (Below.refl _ _).drew
          go_wp2_with fail
          refine wp_region_held (S := S) (by kernel_rfl) ?_
          change wpAnyH _ _ _ _ _ _ _ _ (World.drew _)
          refine wpAnyH_take (i := 0) (v := ?_) rfl (by kernel_rfl) (by kernel_rfl) (by kernel_rfl) (fun _ _ _ h => h) (Or.inl ⟨by kernel_rfl, ?_⟩) hS ?_; rotate_left; focus (intro w hw; clear hw; go_simp; try with_reducible rfl)
          simp only [Act.put, List.getElem_toArray, List.getElem_cons_succ, List.getElem_cons_zero, List.setIfInBounds_toArray, List.set_cons_zero, List.set_cons_succ]
          refine wpAnyH_take (i := 1) (v := (.slice (some ⟨b5, o5, none⟩) nL.length p5)) rfl (by kernel_rfl) (by kernel_rfl) (by kernel_rfl) (fun _ _ _ h => h) (Or.inl ⟨by kernel_rfl, ?ld⟩) hS ?_; case ld => (intro w hw; have l0 := (B5.out.new (HLB.out _ hw)).row.cell (j := 0) rfl; have l1 := (B5.out.new (HLB.out _ hw)).row.cell (j := 1) rfl; clear hw; go_simp)
          refine wpAnyH_take (i := 2) (v := ?_) rfl (by kernel_rfl) (by kernel_rfl) (by kernel_rfl) (fun _ _ _ h => h) (Or.inl ⟨by kernel_rfl, ?_⟩) hS ?_; rotate_left; focus (intro w hw; clear hw; go_simp; try with_reducible rfl)
          simp only [Act.put, List.getElem_toArray, List.getElem_cons_succ, List.getElem_cons_zero, List.setIfInBounds_toArray, List.set_cons_zero, List.set_cons_succ]
          refine wpAnyH_take (i := 3) (v := (.agg #[.string f.n, .string f.v])) rfl (by kernel_rfl) (by kernel_rfl) (by kernel_rfl) (fun _ _ _ h => h) (Or.inl ⟨by kernel_rfl, ?ld⟩) hS ?_; case ld => (intro w hw; obtain ⟨l0, l1⟩ := HROW.out _ (HLB.out _ hw); clear hw; go_simp)
          simp only [Act.put, List.getElem_toArray, List.getElem_cons_succ, List.getElem_cons_zero, List.setIfInBounds_toArray, List.set_cons_zero, List.set_cons_succ]
          refine wpAnyH_take (i := 4) (v := (.agg #[.string f.n, .string f.v])) rfl (by kernel_rfl) (by kernel_rfl) (by kernel_rfl) (fun _ _ _ h => h) (Or.inl ⟨by kernel_rfl, ?ld⟩) hS ?_; case ld => (intro w hw; have l0 := (B4.out.new (HLB.out _ hw)).row.cell (j := 0) rfl; have l1 := (B4.out.new (HLB.out _ hw)).row.cell (j := 1) rfl; clear hw; go_simp)
          simp only [Act.put, List.getElem_toArray, List.getElem_cons_succ, List.getElem_cons_zero, List.setIfInBounds_toArray, List.set_cons_zero, List.set_cons_succ]
          refine wpAnyH_take (i := 5) (v := ?_) rfl (by kernel_rfl) (by kernel_rfl) (by kernel_rfl) (fun _ _ _ h => h) (Or.inl ⟨by kernel_rfl, ?_⟩) hS ?_; rotate_left; focus (intro w hw; clear hw; go_simp; try with_reducible rfl)
          simp only [Act.put, List.getElem_toArray, List.getElem_cons_succ, List.getElem_cons_zero, List.setIfInBounds_toArray, List.set_cons_zero, List.set_cons_succ]
          refine wpAnyH_take (i := 6) (v := (.bool true)) rfl (by kernel_rfl) (by kernel_rfl) (by kernel_rfl) (fun _ _ _ h => h) (Or.inl ⟨by kernel_rfl, fun w hw => (by kernel_rfl)⟩) hS ?_
          simp only [Act.put, List.getElem_toArray, List.getElem_cons_succ, List.getElem_cons_zero, List.setIfInBounds_toArray, List.set_cons_zero, List.set_cons_succ]
          refine wpAnyH_take (i := 7) (v := ?_) rfl (by kernel_rfl) (by kernel_rfl) (by kernel_rfl) (fun _ _ _ h => h) (Or.inl ⟨by kernel_rfl, ?_⟩) hS ?_; rotate_left; focus (intro w hw; clear hw; go_simp; try with_reducible rfl)
          simp only [Act.put, List.getElem_toArray, List.getElem_cons_succ, List.getElem_cons_zero, List.setIfInBounds_toArray, List.set_cons_zero, List.set_cons_succ]
          refine wpAnyH_take (i := 8) (v := (.slice (some ⟨b5, o5, none⟩) nL.length p5)) rfl (by kernel_rfl) (by kernel_rfl) (by kernel_rfl) (fun _ _ _ h => h) (Or.inl ⟨by kernel_rfl, ?ld⟩) hS ?_; case ld => (intro w hw; have l0 := (B5.out.new (HLB.out _ hw)).row.cell (j := 0) rfl; have l1 := (B5.out.new (HLB.out _ hw)).row.cell (j := 1) rfl; clear hw; go_simp)
          simp only [Act.put, List.getElem_toArray, List.getElem_cons_succ, List.getElem_cons_zero, List.setIfInBounds_toArray, List.set_cons_zero, List.set_cons_succ]
          refine wpAnyH_take (i := 9) (v := ?_) rfl (by kernel_rfl) (by kernel_rfl) (by kernel_rfl) (fun _ _ _ h => h) (Or.inl ⟨by kernel_rfl, ?_⟩) hS ?_; rotate_left; focus (intro w hw; clear hw; go_simp; try with_reducible rfl)
          simp only [Act.put, List.getElem_toArray, List.getElem_cons_succ, List.getElem_cons_zero, List.setIfInBounds_toArray, List.set_cons_zero, List.set_cons_succ]
          generalize (if p5 = 1 then (some ⟨b5, o5, none⟩ : Option Addr) else some ⟨b5, o5 + 2, none⟩) = adx at *
          refine wpAnyH_take (i := 10) (v := ?_) rfl (by kernel_rfl) (by kernel_rfl) (by kernel_rfl) (fun _ _ _ h => h) (Or.inl ⟨by kernel_rfl, ?_⟩) hS ?_; rotate_left; focus (intro w hw; clear hw; go_simp; try with_reducible rfl)
          simp only [Act.put, List.getElem_toArray, List.getElem_cons_succ, List.getElem_cons_zero, List.setIfInBounds_toArray, List.set_cons_zero, List.set_cons_succ]
          refine wpAnyH_take (i := 11) (v := (.slice at1 Lt.length pt)) rfl (by kernel_rfl) (by kernel_rfl) (by kernel_rfl) (fun _ _ _ h => h) (Or.inl ⟨by kernel_rfl, ?ld⟩) hS ?_; case ld => (intro w hw; have l0 := (B3.out.new (HLB.out _ hw)).row.cell (j := 0) rfl; have l1 := (B3.out.new (HLB.out _ hw)).row.cell (j := 1) rfl; clear hw; go_simp)
          simp only [Act.put, List.getElem_toArray, List.getElem_cons_succ, List.getElem_cons_zero, List.setIfInBounds_toArray, List.set_cons_zero, List.set_cons_succ]
          refine wpAnyH_take (i := 12) (v := ?_) rfl (by kernel_rfl) (by kernel_rfl) (by kernel_rfl) (fun _ _ _ h => h) (Or.inl ⟨by kernel_rfl, ?_⟩) hS ?_; rotate_left; focus (intro w hw; clear hw; go_simp; try with_reducible rfl)
          simp only [Act.put, List.getElem_toArray, List.getElem_cons_succ, List.getElem_cons_zero, List.setIfInBounds_toArray, List.set_cons_zero, List.set_cons_succ]
          refine wpAnyH_take (i := 13) (v := (.slice (some ⟨b5, o5, none⟩) nL.length p5)) rfl (by kernel_rfl) (by kernel_rfl) (by kernel_rfl) (fun _ _ _ h => h) (Or.inl ⟨by kernel_rfl, ?ld⟩) hS ?_; case ld => (intro w hw; have l0 := (B5.out.new (HLB.out _ hw)).row.cell (j := 0) rfl; have l1 := (B5.out.new (HLB.out _ hw)).row.cell (j := 1) rfl; clear hw; go_simp)
          simp only [Act.put, List.getElem_toArray, List.getElem_cons_succ, List.getElem_cons_zero, List.setIfInBounds_toArray, List.set_cons_zero, List.set_cons_succ]
          refine wpAnyH_take (i := 14) (v := ?_) rfl (by kernel_rfl) (by kernel_rfl) (by kernel_rfl) (fun _ _ _ h => h) (Or.inl ⟨by kernel_rfl, ?_⟩) hS ?_; rotate_left; focus (intro w hw; clear hw; go_simp; try with_reducible rfl)
          simp only [Act.put, List.getElem_toArray, List.getElem_cons_succ, List.getElem_cons_zero, List.setIfInBounds_toArray, List.set_cons_zero, List.set_cons_succ]
          refine wpAnyH_take (i := 15) (v := ?_) rfl (by kernel_rfl) (by kernel_rfl) (by kernel_rfl) (fun _ _ _ h => h) (Or.inl ⟨by kernel_rfl, ?_⟩) hS ?_; rotate_left; focus (intro w hw; clear hw; go_simp; try with_reducible rfl)
          simp only [Act.put, List.getElem_toArray, List.getElem_cons_succ, List.getElem_cons_zero, List.setIfInBounds_toArray, List.set_cons_zero, List.set_cons_succ]
          rw [HWR.out]
          refine wpAnyH_take (i := 16) (v := ?_) rfl (by kernel_rfl) (by kernel_rfl) (by kernel_rfl) (fun _ _ _ h => h) (Or.inl ⟨by kernel_rfl, ?_⟩) hS ?_; rotate_left; focus (intro w hw; clear hw; go_simp; try with_reducible rfl)
          simp only [Act.put, List.getElem_toArray, List.getElem_cons_succ, List.getElem_cons_zero, List.setIfInBounds_toArray, List.set_cons_zero, List.set_cons_succ]
          refine wpAnyH_ready (rs := [17]) (by kernel_rfl) (by simp) ?_; refine AllReadyH.cons rfl (fun K hK => ?_) AllReadyH.nil; rw [if_pos (by kernel_rfl)]; go_simp
          refine (likeFields1 (Lt.take m) _ _ _ (HT5.out _ (HLB.out _ hS)) (HT3.out _ (HLB.out _ hS))).mono ?_; rintro e w24 ⟨rfl, hw24⟩
          refine hK.out _ _ (HNEW.out _ _ hS hw24) (fun hS => ?_)
          clear hK K
          refine wpAnyH_take (i := 18) (v := (.bool true)) rfl (by kernel_rfl) (by kernel_rfl) (by kernel_rfl) (fun _ _ _ h => h) (Or.inl ⟨by kernel_rfl, fun w hw => (by kernel_rfl)⟩) hS ?_
          simp only [Act.put, List.getElem_toArray, List.getElem_cons_succ, List.getElem_cons_zero, List.setIfInBounds_toArray, List.set_cons_zero, List.set_cons_succ]
          refine wpAnyH_take (i := 19) (v := (.bool true)) rfl (by kernel_rfl) (by kernel_rfl) (by kernel_rfl) (fun _ _ _ h => h) (Or.inl ⟨by kernel_rfl, fun w hw => (by kernel_rfl)⟩) hS ?_
          simp only [Act.put, List.getElem_toArray, List.getElem_cons_succ, List.getElem_cons_zero, List.setIfInBounds_toArray, List.set_cons_zero, List.set_cons_succ]
          refine wpAnyH_done (by kernel_rfl) ?_ _
          have HB24 := hide (bchain HBW.out (HLB.out _ hS))
          go_wp2_with fail
          go_ret
          exact ⟨rfl, HB24.out⟩

namespace lawTables0
open Go.ChangeShapes Go.WideShapes Go.ChangeAt Go.Joins
open Go.ChangeMaps (open_string shut_string)

theorem own : ownKnob Try.prog.godebug = none := by kernel_rfl
theorem laidOut : laidOutB Try.prog = true := by kernel_rfl

set_option maxRecDepth 100000 in
theorem lifted (os : Os) (started : os.Started) (H : Type) (enc : TypeId × Value → H) :
    ReturnsInHanded {} Try.checked os 3 .any (Rows.fnTablesSpec.pre6 enc Try.prog Try.f3 Rows.fnTablesRow.domain false) (Rows.fnTablesSpec.post enc Try.prog Try.f3 false true false false) := by
  refine returnsInHanded_of_change (C := Try.checked) own started (by kernel_rfl) Try.func3
    (ChangeSpec.witness6 (enc := enc) (C := Try.checked) false ⟨#[], #[.slice none 0 0], []⟩ 8 (by kernel_rfl) (by kernel_rfl) (by kernel_rfl) (by kernel_rfl)) ?_
  intro W base args ds gs before hval0 hW hcnd _
  have hval : ∀ (j : Nat) t v, Try.f3.params[j]? = some t → args[j]? = some v → Value.okWide Try.prog W .any base t v := hval0
  have hW' := hW
  obtain ⟨p, q, hA0, hV, rfl, hfz, hnd⟩ := hW
  have hA : DataW.TrodAll enc Try.prog W 0 (fun _ => true) true Try.f3.params.toList args.toList ds p := hA0
  rw [Try.params3] at hA hval
  obtain ⟨v0, vs0, d0, ds0, p0, q0, hargs, rfl, rfl, h0, r0⟩ := trodAll_cons hA
  obtain ⟨rfl, rfl, rfl⟩ := trodAll_nil r0
  obtain rfl : args = #[v0] := by cases args; simp_all
  obtain ⟨rfl, rfl⟩ := trodVars_none hV
  have k0 := h0
  have lt0 : ∀ x ∈ p0, x.block < W.heap.size := by obtain ⟨m, hm⟩ := k0; exact DataW.trod_lt m _ _ _ hm
  obtain ⟨a0, len0, cap0, rfl⟩ := okWide_slice Try.underlying22 (hval 0 22 v0 rfl rfl); obtain ⟨hl0, hc0⟩ := open_code h0
  clear hA0 hval0
  refine (lawTables a0 len0 cap0 W hl0 hc0).mono fun e W' ⟨he, bel⟩ => ?_
  subst he
  exact ⟨_, rfl, _, _, _, [], _, [], hW', trodAll_mk1 (shut_bool Try.underlying4 _), (trodAll_cons_mk (Below.trod laidOut (by kernel_rfl) (of_decide_eq_true (by kernel_rfl)) k0 bel lt0) trodAll_mk0), rfl, bel.frame _, fun h => by cases h⟩

theorem over : Rows.fnTablesRow.holds Try.pinned (OpenSpec.ofChange Rows.fnTablesSpec) :=
  OpenClaim.holds_of_wide 3 Try.f3 rfl rfl rfl rfl rfl rfl rfl ⟨rfl, rfl, rfl, rfl, rfl⟩ rfl rfl rfl rfl rfl (by kernel_rfl) Try.func3 (by kernel_rfl)
    (of_decide_eq_true (by kernel_rfl)) (by unfold Func.isWrapper; first | (rw [if_pos (by decide +kernel)]; kernel_rfl) | (rw [if_neg (by decide +kernel)]; exact ⟨rfl, rfl⟩))
    (fun os started H enc _ => lifted os started H enc)

end lawTables0

theorem lawTables_proved : Rows.FnTablesSaid := lawTables0.over
#print axioms lawTables_proved
end Go.Proofs.Ythjbmmppckgcjaa
