/- The law FnCells returns true at every argument and leaves it as it was: the first half of the walk. -/
import Derived.Test.YtdplpkobpoiioaaDrawCells7
import Derived.Test.YtdplpkobpoiioaaLikeMem
import Derived.Test.YtdplpkobpoiioaaMemoryOk
import Derived.Test.YtdplpkobpoiioaaLawPick
import Derived.Test.YtdplpkobpoiioaaLawOne
import Derived.Test.YtdplpkobpoiioaaCellsWins
import Derived.Test.YtdplpkobpoiioaaCells3
import Derived.Test.YtdplpkobpoiioaaLawCellsMath


namespace Go.Proofs.Ytdplpkobpoiioaa
open Go.RowKit
set_option linter.unusedSimpArgs false
set_option linter.unusedVariables false

/-- A Memory in its box. -/
structure Bx (w : World) (b : Nat) (m : Mm) : Prop where
  rd : ReadM w m
  c0 : w.cell? ⟨b, 0, none⟩ = some m.cv
  c1 : w.cell? ⟨b, 1, none⟩ = some m.tv
  lt : b < w.heap.size
theorem Bx.new {w w' : World} {b : Nat} {m : Mm} (h : Bx w b m) (hb : Below w.heap.size w w') : Bx w' b m :=
  ⟨h.rd.new hb, (hb.cell (p := ⟨b, 0, none⟩) h.lt).trans h.c0, (hb.cell (p := ⟨b, 1, none⟩) h.lt).trans h.c1, Nat.lt_of_lt_of_le h.lt hb.size⟩
theorem Bx.mk1 (w : World) (m : Mm) (hr : ReadM w m) : Bx (w.alloc (.cells #[m.cv, m.tv] 27)) w.heap.size m :=
  ⟨hr.new ((Below.refl _ _).alloc (Nat.le_refl _) _), by simp [go_sem], by simp [go_sem], by simp⟩
theorem Bx.al {w : World} {b : Nat} {m : Mm} (h : Bx w b m) (o : Obj) : Bx (w.alloc o) b m := h.new ((Below.refl _ _).alloc (Nat.le_refl _) _)
/-- All boxes of the law. -/
structure S10 (v : World) (k3 k5 k6 k8 k10 k11 k12 : Nat) (m1 mx ma my mw mt mz : Mm) (pv : Value) (L : List Int) (w : World) : Prop where
  x3 : Bx w k3 m1
  x5 : Bx w k5 mx
  x6 : Bx w k6 ma
  x8 : Bx w k8 my
  x10 : Bx w k10 mw
  x11 : Bx w k11 mt
  x12 : Bx w k12 mz
  pv : Reads w pv L.length 1 (iv L)
  bl : Below v.heap.size v w
theorem S10.new {v : World} {k3 k5 k6 k8 k10 k11 k12 : Nat} {m1 mx ma my mw mt mz : Mm} {pv : Value} {L : List Int} {w w' : World} (h : S10 v k3 k5 k6 k8 k10 k11 k12 m1 mx ma my mw mt mz pv L w) (hb : Below w.heap.size w w') : S10 v k3 k5 k6 k8 k10 k11 k12 m1 mx ma my mw mt mz pv L w' :=
  ⟨h.x3.new hb, h.x5.new hb, h.x6.new hb, h.x8.new hb, h.x10.new hb, h.x11.new hb, h.x12.new hb, h.pv.new hb, bchain h.bl hb⟩

set_option maxHeartbeats 8000000 in
set_option maxRecDepth 100000 in
theorem lawCells (a : Option Addr) (len cap : Nat) (w : World) (hl : len ≤ maxLen) (hcode : CodeAt w a len w.heap.size) :
    Calls Try.prog 3 #[.slice a len cap] w fun x w' => x = .returned (.bool true) ∧ Below w.heap.size w w' := by
  unfold maxLen at hl
  by_cases hbig : (4096 : Int) < len
  · go_enter Try.func3, Try.ntmps3
    go_wp2_with fail
    refine (big1 a len cap _).mono ?_; rw [decide_eq_true hbig]; rintro x w1 ⟨rfl, rfl⟩
    go_wp2_with fail
    go_ret
    exact ⟨rfl, Below.refl _ _⟩
  have hl' : len ≤ 4096 := by omega
  have HCODE := hide hcode
  clear hcode
  go_enter Try.func3, Try.ntmps3
  go_wp2_with fail
  refine (big1 a len cap _).mono ?_; rw [decide_eq_false (by omega)]; rintro x w0 ⟨rfl, rfl⟩
  go_wp2_with fail
  refine (drawPlayed a len cap _ hl' HCODE.out).mono ?_; rintro x w1 ⟨m1, pv, L, rfl, hR1, hP1, hL1, hb1⟩
  have HB := hide (Below.refl w0.heap.size w0)
  obtain ⟨cv1, C1, tv1, T1⟩ := m1
  obtain ⟨a1, p1, e1, _⟩ := hR1.cel.2
  obtain ⟨b1, q1, f1, _⟩ := hR1.ths.row.2
  simp only at e1 f1
  subst e1 f1
  obtain ⟨ap, pp, epv, _⟩ := hP1.2
  subst epv
  have X3 := hide (Bx.mk1 w1 ⟨.slice a1 C1.length p1, C1, .slice b1 T1.length q1, T1⟩ hR1)
  have PV := hide (hP1.new ((Below.refl w1.heap.size w1).alloc (Nat.le_refl _) (.cells #[.slice a1 C1.length p1, .slice b1 T1.length q1] 27)))
  replace HB := hide ((bchain HB.out hb1).alloc (by have := (bchain HB.out hb1).size; omega) (.cells #[.slice a1 C1.length p1, .slice b1 T1.length q1] 27))
  go_wp2_with fail
  clear hP1 hR1 hb1
  generalize (w1.alloc (.cells #[.slice a1 C1.length p1, .slice b1 T1.length q1] 27)) = v1 at *
  refine (implPlayed _ _ C1 T1 _ L _ X3.out.rd PV.out).mono ?_; rintro x w2 ⟨mxx, rfl, hdx, hox, hb2⟩
  have hRxx := hox.read
  obtain ⟨cvxx, Cxx, tvxx, Txx⟩ := mxx
  obtain ⟨axx, pxx, exx, _⟩ := hRxx.cel.2
  obtain ⟨bxx, qxx, fxx, _⟩ := hRxx.ths.row.2
  simp only at exx fxx
  subst exx fxx
  replace X3 := hide ((X3.out.new hb2).al (.cells #[.slice axx Cxx.length pxx, .slice bxx Txx.length qxx] 27))
  have X5 := hide (Bx.mk1 w2 ⟨.slice axx Cxx.length pxx, Cxx, .slice bxx Txx.length qxx, Txx⟩ hRxx)
  replace PV := hide ((PV.out.new hb2).new ((Below.refl w2.heap.size w2).alloc (Nat.le_refl _) (.cells #[.slice axx Cxx.length pxx, .slice bxx Txx.length qxx] 27)))
  replace HB := hide ((bchain HB.out hb2).alloc (by have := (bchain HB.out hb2).size; omega) (.cells #[.slice axx Cxx.length pxx, .slice bxx Txx.length qxx] 27))
  have DX := hide hdx
  go_wp2_with fail
  clear hox hRxx hb2 hdx
  generalize (w2.alloc (.cells #[.slice axx Cxx.length pxx, .slice bxx Txx.length qxx] 27)) = v2 at *
  refine (drawPicked a len cap _ hl' (HCODE.out.behind HB.out)).mono ?_; rintro x w3 ⟨maa, i, rfl, hRaa, hb3⟩
  obtain ⟨cvaa, Caa, tvaa, Taa⟩ := maa
  obtain ⟨aaa, paa, eaa, _⟩ := hRaa.cel.2
  obtain ⟨baa, qaa, faa, _⟩ := hRaa.ths.row.2
  simp only at eaa faa
  subst eaa faa
  replace X3 := hide ((X3.out.new hb3).al (.cells #[.slice aaa Caa.length paa, .slice baa Taa.length qaa] 27))
  replace X5 := hide ((X5.out.new hb3).al (.cells #[.slice aaa Caa.length paa, .slice baa Taa.length qaa] 27))
  have X6 := hide (Bx.mk1 w3 ⟨.slice aaa Caa.length paa, Caa, .slice baa Taa.length qaa, Taa⟩ hRaa)
  replace PV := hide ((PV.out.new hb3).new ((Below.refl w3.heap.size w3).alloc (Nat.le_refl _) (.cells #[.slice aaa Caa.length paa, .slice baa Taa.length qaa] 27)))
  replace HB := hide ((bchain HB.out hb3).alloc (by have := (bchain HB.out hb3).size; omega) (.cells #[.slice aaa Caa.length paa, .slice baa Taa.length qaa] 27))
  go_wp2_with fail
  clear hRaa hb3
  generalize (w3.alloc (.cells #[.slice aaa Caa.length paa, .slice baa Taa.length qaa] 27)) = v3 at *
  refine (implPicked _ _ Caa Taa i _ X6.out.rd).mono ?_; rintro x w4 ⟨myy, rfl, hdy, hoy, hb4⟩
  have hRyy := hoy.read
  obtain ⟨cvyy, Cyy, tvyy, Tyy⟩ := myy
  obtain ⟨ayy, pyy, eyy, _⟩ := hRyy.cel.2
  obtain ⟨byy, qyy, fyy, _⟩ := hRyy.ths.row.2
  simp only at eyy fyy
  subst eyy fyy
  replace X3 := hide ((X3.out.new hb4).al (.cells #[.slice ayy Cyy.length pyy, .slice byy Tyy.length qyy] 27))
  replace X5 := hide ((X5.out.new hb4).al (.cells #[.slice ayy Cyy.length pyy, .slice byy Tyy.length qyy] 27))
  replace X6 := hide ((X6.out.new hb4).al (.cells #[.slice ayy Cyy.length pyy, .slice byy Tyy.length qyy] 27))
  have X8 := hide (Bx.mk1 w4 ⟨.slice ayy Cyy.length pyy, Cyy, .slice byy Tyy.length qyy, Tyy⟩ hRyy)
  replace PV := hide ((PV.out.new hb4).new ((Below.refl w4.heap.size w4).alloc (Nat.le_refl _) (.cells #[.slice ayy Cyy.length pyy, .slice byy Tyy.length qyy] 27)))
  replace HB := hide ((bchain HB.out hb4).alloc (by have := (bchain HB.out hb4).size; omega) (.cells #[.slice ayy Cyy.length pyy, .slice byy Tyy.length qyy] 27))
  have DY := hide hdy
  go_wp2_with fail
  clear hoy hRyy hb4 hdy
  generalize (w4.alloc (.cells #[.slice ayy Cyy.length pyy, .slice byy Tyy.length qyy] 27)) = v4 at *
  refine (drawWins a len cap _ hl' (HCODE.out.behind HB.out)).mono ?_; rintro x w5 ⟨mww, rfl, hRww, hb5⟩
  obtain ⟨cvww, Cww, tvww, Tww⟩ := mww
  obtain ⟨aww, pww, eww, _⟩ := hRww.cel.2
  obtain ⟨bww, qww, fww, _⟩ := hRww.ths.row.2
  simp only at eww fww
  subst eww fww
  replace X3 := hide ((X3.out.new hb5).al (.cells #[.slice aww Cww.length pww, .slice bww Tww.length qww] 27))
  replace X5 := hide ((X5.out.new hb5).al (.cells #[.slice aww Cww.length pww, .slice bww Tww.length qww] 27))
  replace X6 := hide ((X6.out.new hb5).al (.cells #[.slice aww Cww.length pww, .slice bww Tww.length qww] 27))
  replace X8 := hide ((X8.out.new hb5).al (.cells #[.slice aww Cww.length pww, .slice bww Tww.length qww] 27))
  have X10 := hide (Bx.mk1 w5 ⟨.slice aww Cww.length pww, Cww, .slice bww Tww.length qww, Tww⟩ hRww)
  replace PV := hide ((PV.out.new hb5).new ((Below.refl w5.heap.size w5).alloc (Nat.le_refl _) (.cells #[.slice aww Cww.length pww, .slice bww Tww.length qww] 27)))
  replace HB := hide ((bchain HB.out hb5).alloc (by have := (bchain HB.out hb5).size; omega) (.cells #[.slice aww Cww.length pww, .slice bww Tww.length qww] 27))
  go_wp2_with fail
  clear hRww hb5
  generalize (w5.alloc (.cells #[.slice aww Cww.length pww, .slice bww Tww.length qww] 27)) = v5 at *
  refine (drawThrough a len cap _ hl' (HCODE.out.behind HB.out)).mono ?_; rintro x w6 ⟨mtt, rfl, hRtt, hb6⟩
  obtain ⟨cvtt, Ctt, tvtt, Ttt⟩ := mtt
  obtain ⟨att, ptt, ett, _⟩ := hRtt.cel.2
  obtain ⟨btt, qtt, ftt, _⟩ := hRtt.ths.row.2
  simp only at ett ftt
  subst ett ftt
  replace X3 := hide ((X3.out.new hb6).al (.cells #[.slice att Ctt.length ptt, .slice btt Ttt.length qtt] 27))
  replace X5 := hide ((X5.out.new hb6).al (.cells #[.slice att Ctt.length ptt, .slice btt Ttt.length qtt] 27))
  replace X6 := hide ((X6.out.new hb6).al (.cells #[.slice att Ctt.length ptt, .slice btt Ttt.length qtt] 27))
  replace X8 := hide ((X8.out.new hb6).al (.cells #[.slice att Ctt.length ptt, .slice btt Ttt.length qtt] 27))
  replace X10 := hide ((X10.out.new hb6).al (.cells #[.slice att Ctt.length ptt, .slice btt Ttt.length qtt] 27))
  have X11 := hide (Bx.mk1 w6 ⟨.slice att Ctt.length ptt, Ctt, .slice btt Ttt.length qtt, Ttt⟩ hRtt)
  replace PV := hide ((PV.out.new hb6).new ((Below.refl w6.heap.size w6).alloc (Nat.le_refl _) (.cells #[.slice att Ctt.length ptt, .slice btt Ttt.length qtt] 27)))
  replace HB := hide ((bchain HB.out hb6).alloc (by have := (bchain HB.out hb6).size; omega) (.cells #[.slice att Ctt.length ptt, .slice btt Ttt.length qtt] 27))
  have l0 := X6.out.c0
  have l1 := X6.out.c1
  simp only at l0 l1
  go_wp2_with fail
  clear hRtt hb6 l0 l1
  generalize (w6.alloc (.cells #[.slice att Ctt.length ptt, .slice btt Ttt.length qtt] 27)) = v6 at *
  refine (specPicked _ _ Caa Taa i _ X6.out.rd).mono ?_; rintro x w7 ⟨mzz, rfl, hdz, hoz, hb7⟩
  have hRzz := hoz.read
  obtain ⟨cvzz, Czz, tvzz, Tzz⟩ := mzz
  obtain ⟨azz, pzz, ezz, _⟩ := hRzz.cel.2
  obtain ⟨bzz, qzz, fzz, _⟩ := hRzz.ths.row.2
  simp only at ezz fzz
  subst ezz fzz
  replace X3 := hide ((X3.out.new hb7).al (.cells #[.slice azz Czz.length pzz, .slice bzz Tzz.length qzz] 27))
  replace X5 := hide ((X5.out.new hb7).al (.cells #[.slice azz Czz.length pzz, .slice bzz Tzz.length qzz] 27))
  replace X6 := hide ((X6.out.new hb7).al (.cells #[.slice azz Czz.length pzz, .slice bzz Tzz.length qzz] 27))
  replace X8 := hide ((X8.out.new hb7).al (.cells #[.slice azz Czz.length pzz, .slice bzz Tzz.length qzz] 27))
  replace X10 := hide ((X10.out.new hb7).al (.cells #[.slice azz Czz.length pzz, .slice bzz Tzz.length qzz] 27))
  replace X11 := hide ((X11.out.new hb7).al (.cells #[.slice azz Czz.length pzz, .slice bzz Tzz.length qzz] 27))
  have X12 := hide (Bx.mk1 w7 ⟨.slice azz Czz.length pzz, Czz, .slice bzz Tzz.length qzz, Tzz⟩ hRzz)
  replace PV := hide ((PV.out.new hb7).new ((Below.refl w7.heap.size w7).alloc (Nat.le_refl _) (.cells #[.slice azz Czz.length pzz, .slice bzz Tzz.length qzz] 27)))
  replace HB := hide ((bchain HB.out hb7).alloc (by have := (bchain HB.out hb7).size; omega) (.cells #[.slice azz Czz.length pzz, .slice bzz Tzz.length qzz] 27))
  have DZ := hide hdz
  go_upto_region 10 with fail
  clear hoz hRzz hb7 hdz
  generalize (w7.alloc (.cells #[.slice azz Czz.length pzz, .slice bzz Tzz.length qzz] 27)) = v7 at *
  obtain ⟨S, HS0, HNEW, HLB, HLP, L3, L5, L6, L8, L10, L11, L12⟩ : ∃ S : World → Prop, S v7 ∧ (∀ u u1, S u → Below u.heap.size u u1 → S u1) ∧ (∀ u, S u → Below v7.heap.size v7 u) ∧ (∀ u, S u → Reads u (.slice ap L.length pp) L.length 1 (iv L)) ∧ (∀ u, S u → Bx u w1.heap.size ⟨.slice a1 C1.length p1, C1, .slice b1 T1.length q1, T1⟩) ∧ (∀ u, S u → Bx u w2.heap.size ⟨.slice axx Cxx.length pxx, Cxx, .slice bxx Txx.length qxx, Txx⟩) ∧ (∀ u, S u → Bx u w3.heap.size ⟨.slice aaa Caa.length paa, Caa, .slice baa Taa.length qaa, Taa⟩) ∧ (∀ u, S u → Bx u w4.heap.size ⟨.slice ayy Cyy.length pyy, Cyy, .slice byy Tyy.length qyy, Tyy⟩) ∧ (∀ u, S u → Bx u w5.heap.size ⟨.slice aww Cww.length pww, Cww, .slice bww Tww.length qww, Tww⟩) ∧ (∀ u, S u → Bx u w6.heap.size ⟨.slice att Ctt.length ptt, Ctt, .slice btt Ttt.length qtt, Ttt⟩) ∧ (∀ u, S u → Bx u w7.heap.size ⟨.slice azz Czz.length pzz, Czz, .slice bzz Tzz.length qzz, Tzz⟩) :=
    ⟨S10 v7 w1.heap.size w2.heap.size w3.heap.size w4.heap.size w5.heap.size w6.heap.size w7.heap.size ⟨.slice a1 C1.length p1, C1, .slice b1 T1.length q1, T1⟩ ⟨.slice axx Cxx.length pxx, Cxx, .slice bxx Txx.length qxx, Txx⟩ ⟨.slice aaa Caa.length paa, Caa, .slice baa Taa.length qaa, Taa⟩ ⟨.slice ayy Cyy.length pyy, Cyy, .slice byy Tyy.length qyy, Tyy⟩ ⟨.slice aww Cww.length pww, Cww, .slice bww Tww.length qww, Tww⟩ ⟨.slice att Ctt.length ptt, Ctt, .slice btt Ttt.length qtt, Ttt⟩ ⟨.slice azz Czz.length pzz, Czz, .slice bzz Tzz.length qzz, Tzz⟩ (.slice ap L.length pp) L, ⟨X3.out, X5.out, X6.out, X8.out, X10.out, X11.out, X12.out, PV.out, Below.refl _ _⟩, fun _ _ h hb => h.new hb, fun _ h => h.bl, fun _ h => h.pv, fun _ h => h.x3, fun _ h => h.x5, fun _ h => h.x6, fun _ h => h.x8, fun _ h => h.x10, fun _ h => h.x11, fun _ h => h.x12⟩
  clear X3 X5 X6 X8 X10 X11 X12 PV
  replace L3 := hide L3
  replace L5 := hide L5
  replace L6 := hide L6
  replace L8 := hide L8
  replace L10 := hide L10
  replace L11 := hide L11
  replace L12 := hide L12
  replace HNEW := hide HNEW
  replace HLB := hide HLB
  replace HLP := hide HLP
  obtain ⟨isv, hisv⟩ : ∃ b, b = (pickedD ⟨Caa, Taa.map Th.d⟩ i).2 := ⟨_, rfl⟩
  rw [← hisv]
  replace hisv := hide hisv
  go_cut [90] (fun c wx => c = .bool false ∧ S wx)
  case first =>
    as_aux_lemma =>
      have hS : S (World.drew v7) := HNEW.out _ _ HS0 (Below.refl _ _).drew
      go_wp2_with fail
      refine wp_region_held (S := S) (by kernel_rfl) ?_
      change wpAnyH _ _ _ _ _ _ _ _ (World.drew _)
      refine wpAnyH_take (i := 0) (v := ?_) rfl (by kernel_rfl) (by kernel_rfl) (by kernel_rfl) (fun _ _ _ h => h) (Or.inl ⟨by kernel_rfl, ?_⟩) hS ?_; rotate_left; focus (intro w hw; clear hw; go_simp; try with_reducible rfl)
      refine wpAnyH_take (i := 1) (v := ?_) rfl (by kernel_rfl) (by kernel_rfl) (by kernel_rfl) (fun _ _ _ h => h) (Or.inl ⟨by kernel_rfl, ?_⟩) hS ?_; rotate_left; focus (intro w hw; clear hw; go_simp; try with_reducible rfl)
      refine wpAnyH_take (i := 2) (v := ?_) rfl (by kernel_rfl) (by kernel_rfl) (by kernel_rfl) (fun _ _ _ h => h) (Or.inl ⟨by kernel_rfl, ?_⟩) hS ?_; rotate_left; focus (intro w hw; clear hw; go_simp; try with_reducible rfl)
      refine wpAnyH_take (i := 3) (v := ?_) rfl (by kernel_rfl) (by kernel_rfl) (by kernel_rfl) (fun _ _ _ h => h) (Or.inl ⟨by kernel_rfl, ?_⟩) hS ?_; rotate_left; focus (intro w hw; clear hw; go_simp; try with_reducible rfl)
      refine wpAnyH_take (i := 4) (v := (.agg #[.slice ayy Cyy.length pyy, .slice byy Tyy.length qyy])) rfl (by kernel_rfl) (by kernel_rfl) (by kernel_rfl) (fun _ _ _ h => h) (Or.inl ⟨by kernel_rfl, ?ld⟩) hS ?_; case ld => (intro w hw; have l0 := (L8.out _ hw).c0; have l1 := (L8.out _ hw).c1; clear hw; simp only at l0 l1; go_simp)
      refine wpAnyH_take (i := 5) (v := (.agg #[.slice azz Czz.length pzz, .slice bzz Tzz.length qzz])) rfl (by kernel_rfl) (by kernel_rfl) (by kernel_rfl) (fun _ _ _ h => h) (Or.inl ⟨by kernel_rfl, ?ld⟩) hS ?_; case ld => (intro w hw; have l0 := (L12.out _ hw).c0; have l1 := (L12.out _ hw).c1; clear hw; simp only at l0 l1; go_simp)
      refine wpAnyH_ready (rs := [6]) (by kernel_rfl) (by simp) ?_; refine AllReadyH.cons rfl (fun K hK => ?_) AllReadyH.nil; rw [if_pos (by kernel_rfl)]; go_simp
      refine (likeMem ⟨.slice ayy Cyy.length pyy, Cyy, .slice byy Tyy.length qyy, Tyy⟩ ⟨.slice azz Czz.length pzz, Czz, .slice bzz Tzz.length qzz, Tzz⟩ _ (L8.out _ hS).rd (L12.out _ hS).rd (DZ.out.trans DY.out.symm)).mono ?_; rintro e w8 ⟨rfl, hw8⟩
      refine hK.out _ _ (HNEW.out _ _ hS hw8) (fun hS => ?_)
      clear hK K
      refine wpAnyH_take (i := 7) (v := ?_) rfl (by kernel_rfl) (by kernel_rfl) (by kernel_rfl) (fun _ _ _ h => h) (Or.inl ⟨by kernel_rfl, ?_⟩) hS ?_; rotate_left; focus (intro w hw; clear hw; go_simp; try with_reducible rfl)
      refine wpAnyH_take (i := 8) (v := ?_) rfl (by kernel_rfl) (by kernel_rfl) (by kernel_rfl) (fun _ _ _ h => h) (Or.inl ⟨by kernel_rfl, ?_⟩) hS ?_; rotate_left; focus (intro w hw; clear hw; go_simp; try with_reducible rfl)
      refine wpAnyH_take (i := 9) (v := ?_) rfl (by kernel_rfl) (by kernel_rfl) (by kernel_rfl) (fun _ _ _ h => h) (Or.inl ⟨by kernel_rfl, ?_⟩) hS ?_; rotate_left; focus (intro w hw; clear hw; go_simp; try with_reducible rfl)
      refine wpAnyH_take (i := 10) (v := (.agg #[.slice axx Cxx.length pxx, .slice bxx Txx.length qxx])) rfl (by kernel_rfl) (by kernel_rfl) (by kernel_rfl) (fun _ _ _ h => h) (Or.inl ⟨by kernel_rfl, ?ld⟩) hS ?_; case ld => (intro w hw; have l0 := (L5.out _ hw).c0; have l1 := (L5.out _ hw).c1; clear hw; simp only at l0 l1; go_simp)
      refine wpAnyH_take (i := 11) (v := (.agg #[.slice a1 C1.length p1, .slice b1 T1.length q1])) rfl (by kernel_rfl) (by kernel_rfl) (by kernel_rfl) (fun _ _ _ h => h) (Or.inl ⟨by kernel_rfl, ?ld⟩) hS ?_; case ld => (intro w hw; have l0 := (L3.out _ hw).c0; have l1 := (L3.out _ hw).c1; clear hw; simp only at l0 l1; go_simp)
      refine wpAnyH_take (i := 12) (v := ?_) rfl (by kernel_rfl) (by kernel_rfl) (by kernel_rfl) (fun _ _ _ h => h) (Or.inl ⟨by kernel_rfl, ?_⟩) hS ?_; rotate_left; focus (intro w hw; clear hw; go_simp; try with_reducible rfl)
      refine wpAnyH_ready (rs := [13]) (by kernel_rfl) (by simp) ?_; refine AllReadyH.cons rfl (fun K hK => ?_) AllReadyH.nil; rw [if_pos (by kernel_rfl)]; go_simp
      refine (specPlayed _ _ C1 T1 _ L _ (L3.out _ hS).rd (HLP.out _ hS)).mono ?_; rintro e w9 ⟨m9, rfl, hd9, ho9, hw9⟩
      refine hK.out _ _ (HNEW.out _ _ hS hw9) (fun hS => ?_)
      clear hK K
      refine wpAnyH_ready (rs := [14]) (by kernel_rfl) (by simp) ?_; refine AllReadyH.cons rfl (fun K hK => ?_) AllReadyH.nil; rw [if_pos (by kernel_rfl)]; go_simp
      refine (likeMem ⟨.slice axx Cxx.length pxx, Cxx, .slice bxx Txx.length qxx, Txx⟩ m9 _ (L5.out _ hS).rd ho9.read (hd9.trans DX.out.symm)).mono ?_; rintro e w10 ⟨rfl, hw10⟩
      refine hK.out _ _ (HNEW.out _ _ hS hw10) (fun hS => ?_)
      clear hK K
      refine wpAnyH_take (i := 15) (v := ?_) rfl (by kernel_rfl) (by kernel_rfl) (by kernel_rfl) (fun _ _ _ h => h) (Or.inl ⟨by kernel_rfl, ?_⟩) hS ?_; rotate_left; focus (intro w hw; clear hw; go_simp; try with_reducible rfl)
      refine wpAnyH_take (i := 16) (v := ?_) rfl (by kernel_rfl) (by kernel_rfl) (by kernel_rfl) (fun _ _ _ h => h) (Or.inl ⟨by kernel_rfl, ?_⟩) hS ?_; rotate_left; focus (intro w hw; clear hw; go_simp; try with_reducible rfl)
      refine wpAnyH_take (i := 17) (v := ?_) rfl (by kernel_rfl) (by kernel_rfl) (by kernel_rfl) (fun _ _ _ h => h) (Or.inl ⟨by kernel_rfl, ?_⟩) hS ?_; rotate_left; focus (intro w hw; clear hw; go_simp; try with_reducible rfl)
      refine wpAnyH_take (i := 18) (v := (.agg #[.slice aww Cww.length pww, .slice bww Tww.length qww])) rfl (by kernel_rfl) (by kernel_rfl) (by kernel_rfl) (fun _ _ _ h => h) (Or.inl ⟨by kernel_rfl, ?ld⟩) hS ?_; case ld => (intro w hw; have l0 := (L10.out _ hw).c0; have l1 := (L10.out _ hw).c1; clear hw; simp only at l0 l1; go_simp)
      refine wpAnyH_take (i := 20) (v := (.agg #[.slice aww Cww.length pww, .slice bww Tww.length qww])) rfl (by kernel_rfl) (by kernel_rfl) (by kernel_rfl) (fun _ _ _ h => h) (Or.inl ⟨by kernel_rfl, ?ld⟩) hS ?_; case ld => (intro w hw; have l0 := (L10.out _ hw).c0; have l1 := (L10.out _ hw).c1; clear hw; simp only at l0 l1; go_simp)
      refine wpAnyH_ready (rs := [19]) (by kernel_rfl) (by simp) ?_; refine AllReadyH.cons rfl (fun K hK => ?_) AllReadyH.nil; rw [if_pos (by kernel_rfl)]; go_simp
      refine (implWins _ _ Cww Tww _ (L10.out _ hS).rd).mono ?_; rintro e w11 ⟨rfl, hw11⟩
      refine hK.out _ _ (HNEW.out _ _ hS hw11) (fun hS => ?_)
      clear hK K
      refine wpAnyH_ready (rs := [21]) (by kernel_rfl) (by simp) ?_; refine AllReadyH.cons rfl (fun K hK => ?_) AllReadyH.nil; rw [if_pos (by kernel_rfl)]; go_simp
      refine (specWins _ _ Cww Tww _ (L10.out _ hS).rd).mono ?_; rintro e w12 ⟨rfl, hw12⟩
      refine hK.out _ _ (HNEW.out _ _ hS hw12) (fun hS => ?_)
      clear hK K
      refine wpAnyH_take (i := 22) (v := ?_) rfl (by kernel_rfl) (by kernel_rfl) (by kernel_rfl) (fun _ _ _ h => h) (Or.inl ⟨by kernel_rfl, ?_⟩) hS ?_; rotate_left; focus (intro w hw; clear hw; go_simp; try with_reducible rfl)
      refine wpAnyH_take (i := 23) (v := ?_) rfl (by kernel_rfl) (by kernel_rfl) (by kernel_rfl) (fun _ _ _ h => h) (Or.inl ⟨by kernel_rfl, ?_⟩) hS ?_; rotate_left; focus (intro w hw; clear hw; go_simp; try with_reducible rfl)
      refine wpAnyH_take (i := 24) (v := ?_) rfl (by kernel_rfl) (by kernel_rfl) (by kernel_rfl) (fun _ _ _ h => h) (Or.inl ⟨by kernel_rfl, ?_⟩) hS ?_; rotate_left; focus (intro w hw; clear hw; go_simp; try with_reducible rfl)
      refine wpAnyH_take (i := 25) (v := (.agg #[.slice att Ctt.length ptt, .slice btt Ttt.length qtt])) rfl (by kernel_rfl) (by kernel_rfl) (by kernel_rfl) (fun _ _ _ h => h) (Or.inl ⟨by kernel_rfl, ?ld⟩) hS ?_; case ld => (intro w hw; have l0 := (L11.out _ hw).c0; have l1 := (L11.out _ hw).c1; clear hw; simp only at l0 l1; go_simp)
      refine wpAnyH_take (i := 27) (v := (.agg #[.slice att Ctt.length ptt, .slice btt Ttt.length qtt])) rfl (by kernel_rfl) (by kernel_rfl) (by kernel_rfl) (fun _ _ _ h => h) (Or.inl ⟨by kernel_rfl, ?ld⟩) hS ?_; case ld => (intro w hw; have l0 := (L11.out _ hw).c0; have l1 := (L11.out _ hw).c1; clear hw; simp only at l0 l1; go_simp)
      refine wpAnyH_ready (rs := [26]) (by kernel_rfl) (by simp) ?_; refine AllReadyH.cons rfl (fun K hK => ?_) AllReadyH.nil; rw [if_pos (by kernel_rfl)]; go_simp
      refine (implThrough _ _ Ctt Ttt _ (L11.out _ hS).rd).mono ?_; rintro e w13 ⟨rfl, hw13⟩
      refine hK.out _ _ (HNEW.out _ _ hS hw13) (fun hS => ?_)
      clear hK K
      refine wpAnyH_ready (rs := [28]) (by kernel_rfl) (by simp) ?_; refine AllReadyH.cons rfl (fun K hK => ?_) AllReadyH.nil; rw [if_pos (by kernel_rfl)]; go_simp
      refine (specThrough _ _ Ctt Ttt _ (L11.out _ hS).rd).mono ?_; rintro e w14 ⟨rfl, hw14⟩
      refine hK.out _ _ (HNEW.out _ _ hS hw14) (fun hS => ?_)
      clear hK K
      refine wpAnyH_take (i := 29) (v := ?_) rfl (by kernel_rfl) (by kernel_rfl) (by kernel_rfl) (fun _ _ _ h => h) (Or.inl ⟨by kernel_rfl, ?_⟩) hS ?_; rotate_left; focus (intro w hw; clear hw; go_simp; try with_reducible rfl)
      refine wpAnyH_take (i := 30) (v := ?_) rfl (by kernel_rfl) (by kernel_rfl) (by kernel_rfl) (fun _ _ _ h => h) (Or.inl ⟨by kernel_rfl, ?_⟩) hS ?_; rotate_left; focus (intro w hw; clear hw; go_simp; try with_reducible rfl)
      refine wpAnyH_take (i := 31) (v := ?_) rfl (by kernel_rfl) (by kernel_rfl) (by kernel_rfl) (fun _ _ _ h => h) (Or.inl ⟨by kernel_rfl, ?_⟩) hS ?_; rotate_left; focus (intro w hw; clear hw; go_simp; try with_reducible rfl)
      refine wpAnyH_take (i := 32) (v := (.agg #[.slice a1 C1.length p1, .slice b1 T1.length q1])) rfl (by kernel_rfl) (by kernel_rfl) (by kernel_rfl) (fun _ _ _ h => h) (Or.inl ⟨by kernel_rfl, ?ld⟩) hS ?_; case ld => (intro w hw; have l0 := (L3.out _ hw).c0; have l1 := (L3.out _ hw).c1; clear hw; simp only at l0 l1; go_simp)
      refine wpAnyH_take (i := 34) (v := (.agg #[.slice a1 C1.length p1, .slice b1 T1.length q1])) rfl (by kernel_rfl) (by kernel_rfl) (by kernel_rfl) (fun _ _ _ h => h) (Or.inl ⟨by kernel_rfl, ?ld⟩) hS ?_; case ld => (intro w hw; have l0 := (L3.out _ hw).c0; have l1 := (L3.out _ hw).c1; clear hw; simp only at l0 l1; go_simp)
      refine wpAnyH_ready (rs := [33]) (by kernel_rfl) (by simp) ?_; refine AllReadyH.cons rfl (fun K hK => ?_) AllReadyH.nil; rw [if_pos (by kernel_rfl)]; go_simp
      refine (exactMemoryOk.implOkM _ _ C1 T1 _ (L3.out _ hS).rd).mono ?_; rintro e w15 ⟨rfl, hw15⟩
      refine hK.out _ _ (HNEW.out _ _ hS hw15) (fun hS => ?_)
      clear hK K
      refine wpAnyH_ready (rs := [35]) (by kernel_rfl) (by simp) ?_; refine AllReadyH.cons rfl (fun K hK => ?_) AllReadyH.nil; rw [if_pos (by kernel_rfl)]; go_simp
      refine (specOkM _ _ C1 T1 _ (L3.out _ hS).rd.cel (L3.out _ hS).rd.ths).mono ?_; rintro e w16 ⟨rfl, hw16⟩
      refine hK.out _ _ (HNEW.out _ _ hS hw16) (fun hS => ?_)
      clear hK K
      refine wpAnyH_take (i := 36) (v := ?_) rfl (by kernel_rfl) (by kernel_rfl) (by kernel_rfl) (fun _ _ _ h => h) (Or.inl ⟨by kernel_rfl, ?_⟩) hS ?_; rotate_left; focus (intro w hw; clear hw; go_simp; try with_reducible rfl)
      refine wpAnyH_take (i := 37) (v := ?_) rfl (by kernel_rfl) (by kernel_rfl) (by kernel_rfl) (fun _ _ _ h => h) (Or.inl ⟨by kernel_rfl, ?_⟩) hS ?_; rotate_left; focus (intro w hw; clear hw; go_simp; try with_reducible rfl)
      refine wpAnyH_done (by kernel_rfl) ?_ _
      go_wp2_with fail
      go_meet
      exact ⟨rfl, hS⟩
  case rest =>
    obtain ⟨rfl, hS⟩ := hcut
    obtain ⟨v8, rfl⟩ : ∃ v : World, v = wc := ⟨_, rfl⟩
    have X6 := hide (L6.out _ hS); have X8 := hide (L8.out _ hS)
    have HB8 := hide (bchain HB.out (HLB.out _ hS))
    clear hS HB DX DZ HNEW HLB HLP L3 L5 L6 L8 L10 L11 L12 HS0 S
    go_upto_region 12 with fail
    go_cut [126] (fun c wx => c = .bool false ∧ Below v8.heap.size v8 wx)
    case first =>
      as_aux_lemma =>
        replace hisv := hisv.out
        have hdy := DY.out
        simp only [Mm.d] at hdy
        have q0 : ∀ y : Later v8, y.w.cell? ⟨w3.heap.size, 0, none⟩ = some (.slice aaa Caa.length paa) := fun y => (y.b.cell (p := ⟨w3.heap.size, 0, none⟩) X6.out.lt).trans X6.out.c0
        have q1 : ∀ y : Later v8, y.w.cell? ⟨w3.heap.size, 1, none⟩ = some (.slice baa Taa.length qaa) := fun y => (y.b.cell (p := ⟨w3.heap.size, 1, none⟩) X6.out.lt).trans X6.out.c1
        have q2 : ∀ y : Later v8, y.w.cell? ⟨w4.heap.size, 0, none⟩ = some (.slice ayy Cyy.length pyy) := fun y => (y.b.cell (p := ⟨w4.heap.size, 0, none⟩) X8.out.lt).trans X8.out.c0
        have q3 : ∀ y : Later v8, y.w.cell? ⟨w4.heap.size, 1, none⟩ = some (.slice byy Tyy.length qyy) := fun y => (y.b.cell (p := ⟨w4.heap.size, 1, none⟩) X8.out.lt).trans X8.out.c1
        have H6 : Hid (∀ y : Later v8, ReadM y.w ⟨.slice aaa Caa.length paa, Caa, .slice baa Taa.length qaa, Taa⟩) := fun y => X6.out.rd.new y.b
        have H8 : Hid (∀ y : Later v8, ReadM y.w ⟨.slice ayy Cyy.length pyy, Cyy, .slice byy Tyy.length qyy, Tyy⟩) := fun y => X8.out.rd.new y.b
        cases hok : okM ⟨Caa, Taa.map Th.d⟩
        · have e9 : isv = false := by rw [hisv]; simp [pickedD, hok]
          subst e9
          have K1 : Hid (∀ y : Later v8, Calls Try.prog 24 #[.agg #[.slice aaa Caa.length paa, .slice baa Taa.length qaa]] y.w fun x w' => x = .returned (.bool false) ∧ Below y.w.heap.size y.w w') := fun y => by have h := specOkM _ _ Caa Taa y.w (H6.out y).cel (H6.out y).ths; rw [hok] at h; exact h
          clear hisv hdy DY
          go_wp2_with fail
          have hne : Nonempty (Later v8) := ⟨⟨v8, Below.refl _ _⟩⟩; refine region_later (by kernel_rfl) (by kernel_rfl) ?_
          repeat (go_big_quiet_step (fail))
          go_big_quiet_want; go_big_quiet_op; refine ⟨.bool false, fun y => later_calls (x := y) ((fun _ => K1.out y) y.w), ?_⟩; go_big_quiet_on
          repeat (go_big_quiet_step (fail))
          refine wpQuiet_nil ?_; intro _ hw'; obtain ⟨y, hw''⟩ := hw'; subst hw''; have hby := y.b
          go_wp2_with fail
          go_meet
          exact ⟨rfl, hby⟩
        · have hpk : pickedD ⟨Caa, Taa.map Th.d⟩ i = pickR ⟨Caa, Taa.map Th.d⟩ i := by simp [pickedD, hok]
          rw [hpk] at hisv hdy
          have K1 : Hid (∀ y : Later v8, Calls Try.prog 24 #[.agg #[.slice aaa Caa.length paa, .slice baa Taa.length qaa]] y.w fun x w' => x = .returned (.bool true) ∧ Below y.w.heap.size y.w w') := fun y => by have h := specOkM _ _ Caa Taa y.w (H6.out y).cel (H6.out y).ths; rw [hok] at h; exact h
          have hoky : okM ⟨Cyy, Tyy.map Th.d⟩ = true := by rw [hdy]; exact pickR_ok hok i
          have K2 : Hid (∀ y : Later v8, Calls Try.prog 23 #[.agg #[.slice ayy Cyy.length pyy, .slice byy Tyy.length qyy]] y.w fun x w' => x = .returned (.bool true) ∧ Below y.w.heap.size y.w w') := fun y => by have h := exactMemoryOk.implOkM _ _ Cyy Tyy y.w (H8.out y); rw [hoky] at h; exact h
          cases isv
          · have hsame : (Mm.mk (.slice aaa Caa.length paa) Caa (.slice baa Taa.length qaa) Taa).d = (Mm.mk (.slice ayy Cyy.length pyy) Cyy (.slice byy Tyy.length qyy) Tyy).d := by
              show (⟨Caa, Taa.map Th.d⟩ : DMem) = ⟨Cyy, Tyy.map Th.d⟩
              rw [hdy]
              unfold pickR at hisv ⊢
              split
              · rename_i e; rw [e] at hisv; cases hisv
              · rfl
            have K3 : Hid (∀ y : Later v8, Calls Try.prog 17 #[.agg #[.slice ayy Cyy.length pyy, .slice byy Tyy.length qyy], .agg #[.slice aaa Caa.length paa, .slice baa Taa.length qaa]] y.w fun x w' => x = .returned (.bool true) ∧ Below y.w.heap.size y.w w') := fun y => likeMem ⟨.slice ayy Cyy.length pyy, Cyy, .slice byy Tyy.length qyy, Tyy⟩ ⟨.slice aaa Caa.length paa, Caa, .slice baa Taa.length qaa, Taa⟩ y.w (H8.out y) (H6.out y) hsame
            clear hisv hdy DY hsame hpk hoky
            go_wp2_with fail
            have hne : Nonempty (Later v8) := ⟨⟨v8, Below.refl _ _⟩⟩; refine region_later (by kernel_rfl) (by kernel_rfl) ?_
            repeat (go_big_quiet_step (fail))
            go_big_quiet_want; go_big_quiet_op; refine ⟨.bool true, fun y => later_calls (x := y) ((fun _ => K1.out y) y.w), ?_⟩; go_big_quiet_on
            repeat (go_big_quiet_step (fail))
            go_big_quiet_want; go_big_quiet_op; refine ⟨.bool true, fun y => later_calls (x := y) ((fun _ => K2.out y) y.w), ?_⟩; go_big_quiet_on
            repeat (go_big_quiet_step (fail))
            go_big_quiet_want; go_big_quiet_op; refine ⟨.bool true, fun y => later_calls (x := y) ((fun _ => K3.out y) y.w), ?_⟩; go_big_quiet_on
            repeat (go_big_quiet_step (fail))
            refine wpQuiet_nil ?_; intro _ hw'; obtain ⟨y, hw''⟩ := hw'; subst hw''; have hby := y.b
            go_wp2_with fail
            go_meet
            exact ⟨rfl, hby⟩
          · obtain ⟨k, hk, hk', rfl, hpos⟩ := pick_on hisv.symm
            have hka : k < Taa.length := by simpa using hk
            have hky : k < Tyy.length := by have h := congrArg DMem.ths hdy; have h2 := congrArg List.length h; simp at h2; omega
            have hp1 : Tyy[k].pos = Taa[k].pos + 1 := by
              have h2 : (Tyy.map Th.d)[k]'(by simpa using hky) = (pickR ⟨Caa, Taa.map Th.d⟩ (k : Int)).1.ths[k] := by
                have h := congrArg DMem.ths hdy
                simp only at h
                simp only [h]
              have h3 := congrArg DTh.pos h2
              rw [hpos] at h3
              simpa [Th.d] using h3
            have hoka : okTh Taa[k].d = true := (okM_parts hok).2.2.2 _ (List.mem_map_of_mem (List.getElem_mem hka))
            obtain ⟨_, _, _, _, p0, p1, hl20, _⟩ := okTh_rng hoka
            have hq0 : 0 ≤ Taa[k].pos := p0
            have hq1 : Taa[k].pos ≤ 20 := by
              have h1 : Taa[k].pos ≤ (Taa[k].st.length : Int) := p1
              have h2 : (Taa[k].st.length : Int) ≤ 20 := hl20
              omega
            obtain ⟨_, ad1, cap1, et1, _, _, hrd1⟩ := X8.out.rd.ths.row
            simp only [Value.slice.injEq] at et1; obtain ⟨rfl, _, rfl⟩ := et1
            obtain ⟨by8, oy, rfl, hby8, hcy⟩ := hrd1 (by simp only; omega)
            obtain ⟨_, sy1, _, _⟩ := tv_get Tyy k hky
            obtain ⟨_, ad2, cap2, et2, _, _, hrd2⟩ := X6.out.rd.ths.row
            simp only [Value.slice.injEq] at et2; obtain ⟨rfl, _, rfl⟩ := et2
            obtain ⟨ba6, oa, rfl, hba6, hca⟩ := hrd2 (by simp only; omega)
            obtain ⟨_, sa1, _, _⟩ := tv_get Taa k hka
            have cy1 : v8.cell? ⟨by8, oy + k * 4 + 1, none⟩ = some (.int .i64 Tyy[k].pos) := hcy _ _ sy1
            have ca1 : v8.cell? ⟨ba6, oa + k * 4 + 1, none⟩ = some (.int .i64 Taa[k].pos) := hca _ _ sa1
            rw [hp1] at cy1
            generalize Taa[k].pos = pp0 at *
            have q4 : ∀ y : Later v8, y.w.cell? ⟨by8, oy + k * 4 + 1, none⟩ = some (.int .i64 (pp0 + 1)) := fun y => (y.b.cell (p := ⟨by8, oy + k * 4 + 1, none⟩) hby8).trans cy1
            have q5 : ∀ y : Later v8, y.w.cell? ⟨ba6, oa + k * 4 + 1, none⟩ = some (.int .i64 pp0) := fun y => (y.b.cell (p := ⟨ba6, oa + k * 4 + 1, none⟩) hba6).trans ca1
            have hkaI : (k : Int) < Taa.length := by omega
            have hkyI : (k : Int) < Tyy.length := by omega
            have hwr : IntKind.i64.wrap (pp0 + 1) = pp0 + 1 := by rw [IntKind.wrap_i64]; omega
            clear hcy hca sy1 sa1 cy1 ca1 hisv hdy DY hpk hoky hpos hk hk' hrd1 hrd2 hoka hp1
            go_wp2_with fail
            have hne : Nonempty (Later v8) := ⟨⟨v8, Below.refl _ _⟩⟩; refine region_later (by kernel_rfl) (by kernel_rfl) ?_
            repeat (go_big_quiet_step (fail))
            go_big_quiet_want; go_big_quiet_op; refine ⟨.bool true, fun y => later_calls (x := y) ((fun _ => K1.out y) y.w), ?_⟩; go_big_quiet_on
            repeat (go_big_quiet_step (fail))
            go_big_quiet_want; go_big_quiet_op; refine ⟨.bool true, fun y => later_calls (x := y) ((fun _ => K2.out y) y.w), ?_⟩; go_big_quiet_on
            repeat (go_big_quiet_step (fail))
            --@HERE@
            refine wpQuiet_nil ?_; intro _ hw'; obtain ⟨y, hw''⟩ := hw'; subst hw''; have hby := y.b
            go_wp2_with fail
            go_meet
            exact ⟨rfl, hby⟩
    case rest =>
      obtain ⟨rfl, hb9⟩ := hcut
      obtain ⟨v9, rfl⟩ : ∃ v : World, v = wc := ⟨_, rfl⟩
      have HB9 := hide (bchain HB8.out hb9)
      clear hb9 X6 X8 HB8 DY hisv
      go_wp2_with fail
      refine (lawPick a len cap 1 5 _ _ hl' (HCODE.out.behind HB9.out) (by omega) (by omega) (by omega) (by omega)).mono ?_; rintro x w9 ⟨np, np0, np1, rfl, rfl⟩
      obtain ⟨np, rfl⟩ := Int.eq_ofNat_of_zero_le np0
      go_wp2_with fail
      generalize hV : (World.alloc w9 (.cells #[.int .i64 7, .int .i64 0, .int .i64 0, .int .i64 0] 2)).alloc (.cells #[.slice (some ⟨w9.heap.size, 0, none⟩) 4 4, .slice none 0 0] 27) = V
      have HO : Hid (OSt w9 V (w9.heap.size + 1) ⟨.slice (some ⟨w9.heap.size, 0, none⟩) 4 4, [7, 0, 0, 0], .slice none 0 0, []⟩) := by
        show OSt _ _ _ _
        rw [← hV]
        refine ⟨⟨?_, ⟨⟨rfl, .inl ⟨rfl, rfl⟩⟩, by simp, by simp, by intro u hu q hq; simp at hu; subst hu; cases hq⟩, ?_, ?_⟩, bo_alloc ((Below.refl _ _).alloc (Nat.le_refl _) _) _, by simp [go_sem], by simp [go_sem], ?_, by simp, by omega, ?_⟩
        · exact (owns_made w9 #[.int .i64 7, .int .i64 0, .int .i64 0, .int .i64 0] 2 1 4 rfl (by decide)).alloc _
        · intro u hu q hq e; simp at hu; subst hu; cases e
        · intro q hq; simp [Value.ownBlock] at hq; subst hq; simp; omega
        · intro o; simp
        · intro u hu e
          simp at hu
          rcases hu with rfl | rfl
          · simp [Value.ownBlock] at e
          · cases e
      clear hV
      go_loopw [16] (fun k wr => ∃ (q : Nat) (tvv : Value) (A : List Th), k = .int .i64 q ∧ q ≤ np + 1 ∧ A.length ≤ q ∧ (∀ t ∈ A, t.pos = 0 ∧ t.seen = 0 ∧ t.won = 0 ∧ t.st.length ≤ 10 ∧ oneSt t.st) ∧ OSt w9 wr (w9.heap.size + 1) ⟨.slice (some ⟨w9.heap.size, 0, none⟩) 4 4, [7, 0, 0, 0], tvv, A⟩) (fun k _ => np + 1 - (intOf k).toNat)
      case atStart => exact ⟨0, _, [], rfl, Nat.zero_le _, Nat.le_refl _, by simp, HO.out⟩
      case round =>
        obtain ⟨q, tvv, A, rfl, hq, hAl, hA, hO⟩ := hrel
        obtain ⟨wo, rfl⟩ : ∃ x : World, x = wr := ⟨_, rfl⟩
        have HA := hide hA; have HOr := hide hO
        clear hA hO HO
        by_cases hlt : q < np + 1
        · have hqI : (q : Int) < 1 + (np : Int) := by omega
          go_wp2_with fail
          generalize hV : World.alloc wo (.cells #[.slice none 0 0, .int .i64 0, .int .i64 0, .int .i64 0] 41) = V2
          have hbV : Below wo.heap.size wo V2 := by rw [← hV]; exact (Below.refl _ _).alloc (Nat.le_refl _) _
          have t0 : V2.cell? ⟨wo.heap.size, 0, none⟩ = some (.slice none 0 0) := by rw [← hV]; simp
          have t1 : V2.cell? ⟨wo.heap.size, 1, none⟩ = some (.int .i64 0) := by rw [← hV]; simp
          have t2 : V2.cell? ⟨wo.heap.size, 2, none⟩ = some (.int .i64 0) := by rw [← hV]; simp
          have t3 : V2.cell? ⟨wo.heap.size, 3, none⟩ = some (.int .i64 0) := by rw [← hV]; simp
          have tf : V2.frozen? ⟨wo.heap.size, 0, none⟩ = false := by rw [← hV]; exact (rowIs_new wo 41 [.slice none 0 0, .int .i64 0, .int .i64 0, .int .i64 0]).frozen 0
          have tl : wo.heap.size < V2.heap.size := by rw [← hV]; simp
          have HOZ : Hid (V2.ownsRow (wo.heap.size + 1) 44 3 (.slice none 0 0) 0 []) := ⟨rfl, .inl ⟨rfl, rfl⟩⟩
          clear hV
          go_loopw [18] (fun j wi => ∃ (r : Nat) (v3 : Value) (S : List St), j = .int .i64 r ∧ r ≤ 5 ∧ S.length ≤ 2 * r ∧ oneSt S ∧ wi.ownsRow (wo.heap.size + 1) 44 3 v3 S.length (sv S) ∧ wi.cell? ⟨wo.heap.size, 0, none⟩ = some v3 ∧ wi.cell? ⟨wo.heap.size, 1, none⟩ = some (.int .i64 0) ∧ wi.cell? ⟨wo.heap.size, 2, none⟩ = some (.int .i64 0) ∧ wi.cell? ⟨wo.heap.size, 3, none⟩ = some (.int .i64 0) ∧ wi.frozen? ⟨wo.heap.size, 0, none⟩ = false ∧ Below wo.heap.size wo wi ∧ wo.heap.size < wi.heap.size) (fun j _ => 5 - (intOf j).toNat)
          case atStart => exact ⟨0, .slice none 0 0, [], rfl, by omega, Nat.le_refl _, fun s hs => absurd hs List.not_mem_nil, HOZ.out, t0, t1, t2, t3, tf, hbV, tl⟩
          case round =>
            obtain ⟨r, v3, S, rfl, hr5, hSl, hS1, hown, i0, i1, i2, i3, jf, hbi, hli⟩ := hrel
            obtain ⟨wi, rfl⟩ : ∃ x : World, x = wr := ⟨_, rfl⟩
            clear t0 t1 t2 t3 tf tl hbV
            have HOW := hide hown; have HS1 := hide hS1; have HBI := hide hbi
            obtain ⟨ad3, cap3, rfl, _, _⟩ := owns_form hown
            clear hown hS1 hbi
            go_wp2_with fail
            refine (lawPick a len cap (10 + q) 5 _ _ hl' (HCODE.out.behind (bchain HB9.out (bchain HOr.out.bel HBI.out))) (by omega) (by omega) (by omega) (by omega)).mono ?_; rintro x wj ⟨x, x0, x1, rfl, rfl⟩
            by_cases hx : (r : Int) < 1 + x
            · go_wp2_with (at_builtin; refine Hid.out ?_)
              show wpList _ _ _ _ _ _
              refine (wpList_app _ rfl _ _ 39 rfl 44 (.agg #[.int .i64 0, .int .i64 0, .int .i64 0]) 3 24 Try.underlying39 (by kernel_rfl) rfl (by decide) (wo.heap.size + 1) (.slice ad3 S.length cap3) S.length (sv S) rfl (HOW.out.alloc _) (.slice (some ⟨wj.heap.size, 0, none⟩) 2 2) 2 (sv [⟨1, 0, 0⟩, ⟨3, 0, 1⟩]) rfl (reads_built wj #[.int .i64 1, .int .i64 0, .int .i64 0, .int .i64 3, .int .i64 0, .int .i64 1] 44 2 3 rfl (by decide)) (one_sv _) ?f4 ?f5 ?f6 ?_)
              case f4 => omega
              case f5 => decide
              case f6 => simp; omega
              intro ad7 cap7 w7 hown7 hgrow7 hat7
              have q7 := after_app hgrow7 wo.heap.size (by omega) (fun e => by have := (HOW.out.lt _ e).1; omega)
              have k7 : w7.cell? ⟨wo.heap.size, 0, none⟩ = some (.slice ad3 S.length cap3) := (World.cell?_of_block (a := ⟨wo.heap.size, 0, none⟩) q7).trans i0
              have f7 : w7.frozen? ⟨wo.heap.size, 0, none⟩ = false := (World.frozen?_of_block (a := ⟨wo.heap.size, 0, none⟩) q7).trans jf
              have HF := hide (grown_st (R := [⟨1, 0, 0⟩, ⟨3, 0, 1⟩]) (kk := 2) rfl HOW.out hgrow7 hli hown7 rfl HBI.out i0 i1 i2 i3 jf)
              have HS2 := hide (oneSt_app HS1.out)
              clear hown7 hgrow7 hat7 i0 i1 i2 i3 jf q7
              go_wp2_with fail
              go_roundw
              case rel =>
                obtain ⟨g1, g2, g3, g4, g5, g6, g8, g9⟩ := HF.out
                exact ⟨r + 1, _, _, by go_num, by omega, by simp; omega, HS2.out, g1, g2, g3, g4, g5, g6, g8, g9⟩
              case measure => simp [intOf]; omega
            · have HD2 := hide (HOr.out.new HBI.out)
              obtain ⟨ad2, cap2, hv2, _, _⟩ := owns_form HD2.out.own.ths.row
              simp only at hv2
              subst hv2
              have b1 : wj.cell? ⟨w9.heap.size + 1, 1, none⟩ = some (.slice ad2 A.length cap2) := HD2.out.b1
              have bf1 : wj.frozen? ⟨w9.heap.size + 1, 1, none⟩ = false := HD2.out.bf 1
              have hlt2 := HD2.out.lt
              have hlo : ∀ q, (Value.slice ad3 S.length cap3).ownBlock = some q → wo.heap.size + 1 ≤ q := fun q hq => (HOW.out.lt q hq).1
              have hbwo := HOr.out.lt
              have HAP : Hid (∀ u ∈ (Value.slice (some ⟨w9.heap.size, 0, none⟩) 4 4) :: (Value.slice ad2 A.length cap2) :: A.map Th.sv, Ap u (.slice ad3 S.length cap3)) := fun u hu q h1 h2 => by
                have h3 : q < wo.heap.size := by
                  rcases List.mem_cons.1 hu with rfl | hu
                  · exact HOr.out.own.up q h1
                  · exact HOr.out.own.ths.up u hu q h1
                have := hlo q h2; omega
              have HBX : Hid ((Value.slice ad3 S.length cap3).ownBlock ≠ some (w9.heap.size + 1)) := fun e => by have := hlo _ e; omega
              have hwo2 := HOr.out.bel.size
              have HVB := hide (owns_base (base' := w9.heap.size) HOW.out fun q hq => by have := hlo q hq; omega)
              have hA5 : A.length ≤ 5 := by omega
              clear hlo
              go_wp2_with (at_builtin; refine Hid.out ?_)
              show wpList _ _ _ _ _ _
              refine (wpList_app _ rfl _ _ 25 rfl 41 (.agg #[.slice none 0 0, .int .i64 0, .int .i64 0, .int .i64 0]) 4 48 Try.underlying25 (by kernel_rfl) rfl (by decide) w9.heap.size (.slice ad2 A.length cap2) A.length (tv A) rfl (HD2.out.own.ths.row.alloc _) (.slice (some ⟨wj.heap.size, 0, none⟩) 1 1) 1 [.slice ad3 S.length cap3, .int .i64 0, .int .i64 0, .int .i64 0] rfl (reads_built wj #[.slice ad3 S.length cap3, .int .i64 0, .int .i64 0, .int .i64 0] 41 1 4 rfl (by decide)) ?f3 ?f4 ?f5 ?f6 ?_)
              case f3 => exact one_th (w := wj) (Th.mk (.slice ad3 S.length cap3) S 0 0 0) ⟨_, _, _, rfl⟩
              case f4 => omega
              case f5 => decide
              case f6 => simp; omega
              intro ad6 cap6 w6' hown6 hgrow6 hat6
              have HD3 := hide (OSt.thread (pos := 0) (seen := 0) (won := 0) HD2.out HVB.out HAP.out HBX.out hgrow6 hown6 hat6 rfl)
              have q6 := after_app hgrow6 (w9.heap.size + 1) (by omega) (HD2.out.ne _ (by simp))
              have c6 : w6'.cell? ⟨w9.heap.size + 1, 1, none⟩ = some (.slice ad2 A.length cap2) := (World.cell?_of_block (a := ⟨w9.heap.size + 1, 1, none⟩) q6).trans b1
              have f6 : w6'.frozen? ⟨w9.heap.size + 1, 1, none⟩ = false := (World.frozen?_of_block (a := ⟨w9.heap.size + 1, 1, none⟩) q6).trans bf1
              have HA2 : Hid (∀ t ∈ A ++ [Th.mk (.slice ad3 S.length cap3) S 0 0 0], t.pos = 0 ∧ t.seen = 0 ∧ t.won = 0 ∧ t.st.length ≤ 10 ∧ oneSt t.st) := fun t ht => by
                rcases List.mem_append.1 ht with h | h
                · exact HA.out t h
                · simp at h; subst h; exact ⟨rfl, rfl, rfl, by simp only; omega, HS1.out⟩
              clear hown6 hgrow6 hat6 q6 b1 bf1
              go_wp2_with fail
              go_roundw
              case rel => exact ⟨q + 1, _, _, by go_num, by omega, by simp; omega, HA2.out, HD3.out⟩
              case measure => simp [intOf]; omega
        · obtain rfl : q = np + 1 := by omega
          have hqI : ¬ (((np + 1 : Nat) : Int) < 1 + (np : Int)) := by omega
          obtain ⟨ad2, cap2, hv2, _, _⟩ := owns_form HOr.out.own.ths.row
          simp only at hv2
          subst hv2
          go_wp2_with fail
          generalize hV : World.alloc wo (.cells #[] 2) = V3
          have HBV : Hid (Below wo.heap.size wo V3) := by show Below _ _ _; rw [← hV]; exact (Below.refl _ _).alloc (Nat.le_refl _) _
          have HO0 : Hid (V3.ownsRow wo.heap.size 2 1 (.slice (some ⟨wo.heap.size, 0, none⟩) 0 0) 0 (iv [])) := by show World.ownsRow _ _ _ _ _ _ _; rw [← hV]; exact owns_made wo #[] 2 1 0 rfl (by decide)
          clear hV
          go_loopw [19, 20] (fun v n wr => ∃ (m : Nat) (L : List Int), n = .int .i64 m ∧ m ≤ 60 ∧ L.length ≤ m ∧ wr.ownsRow wo.heap.size 2 1 v L.length (iv L) ∧ Below wo.heap.size wo wr) (fun _ n _ => 60 - (intOf n).toNat)
          case atStart => exact ⟨0, [], rfl, by omega, Nat.le_refl _, HO0.out, HBV.out⟩
          case round =>
            obtain ⟨m, L', rfl, hm60, hL', hown, hbr⟩ := hrel
            obtain ⟨wp, rfl⟩ : ∃ x : World, x = wr := ⟨_, rfl⟩
            have HOWN := hide hown; have HBR := hide hbr
            have hsr := hbr.size
            obtain ⟨ad, cap', rfl, _⟩ := owns_form hown
            clear hown hbr HO0 HBV
            by_cases hm : m < 60
            · have hmI : (m : Int) < 60 := by omega
              go_wp2_with fail
              refine (lawPick a len cap (50 + m) (1 + (np : Int)) _ _ hl' (HCODE.out.behind (bchain HB9.out (bchain HOr.out.bel HBR.out))) (by omega) (by omega) (by omega) (by omega)).mono ?_; rintro x wj ⟨y, y0, y1, rfl, rfl⟩
              have HOWN2 := hide (HOWN.out.alloc (.cells #[.int .i64 y] 2))
              go_wp2_with (at_builtin; refine Hid.out ?_)
              show wpList _ _ _ _ _ _
              refine (wpList_app _ rfl _ _ 24 rfl 2 (.int .i64 0) 1 8 Try.underlying24 (by kernel_rfl) rfl (by decide) wo.heap.size (.slice ad L'.length cap') L'.length (iv L') rfl HOWN2.out (.slice (some ⟨wj.heap.size, 0, none⟩) 1 1) 1 [.int .i64 y] rfl (reads_one _ _ _) ?e1 (by omega) (by decide) ?e2 ?_)
              case e1 => intro u hu; simp at hu; subst hu; rfl
              case e2 => simp; omega
              intro ad3 cap3 w3' hown3 hgrow3 hat3
              clear hat3
              have hrow : ∀ k, (Value.slice ad L'.length cap').ownBlock = some k → wo.heap.size ≤ k := fun k hk => (HOWN.out.lt k hk).1
              have HB3 := hide (below_row (bo_alloc HBR.out _) hgrow3 hrow)
              have HO3 : Hid (w3'.ownsRow wo.heap.size 2 1 (.slice ad3 (L'.length + 1) cap3) (L' ++ [y]).length (iv (L' ++ [y]))) := by
                show World.ownsRow _ _ _ _ _ _ _
                rw [List.length_append, show iv (L' ++ [y]) = iv L' ++ [.int .i64 y] by simp [iv]]
                exact hown3
              clear hown3 hgrow3 hrow
              go_wp2_with fail
              go_roundw
              case rel => exact ⟨m + 1, L' ++ [y], by go_num, by omega, by simp; omega, HO3.out, HB3.out⟩
              case measure => simp [intOf]; omega
            · obtain rfl : m = 60 := by omega
              have HD4 := hide (HOr.out.new HBR.out)
              have HOKA : Hid (okM ⟨[7, 0, 0, 0], A.map Th.d⟩ = true) := by
                refine okM_mk (by decide) (by simp; omega) (fun c hc => by simp at hc; omega) (fun d hd => ?_)
                obtain ⟨t, ht, rfl⟩ := List.mem_map.1 hd
                obtain ⟨h1, h2, h3, h4, h5⟩ := HA.out t ht
                have := okTh_new (oneSt_ok h5) (by omega : t.st.length ≤ 20)
                simpa [Th.d, h1, h2, h3] using this
              have HINV : Hid (OneInv ⟨[7, 0, 0, 0], A.map Th.d⟩) := by
                refine ⟨rfl, fun d hd s hs => ?_, ?_⟩
                · obtain ⟨t, ht, rfl⟩ := List.mem_map.1 hd
                  exact (HA.out t ht).2.2.2.2 s hs
                · have hz : ∀ B : List Th, (∀ t ∈ B, t.won = 0) → sumW (B.map Th.d) = 0 := by
                    intro B hB
                    induction B with
                    | nil => rfl
                    | cons t B ih => simp [sumW, Th.d, hB t (by simp), ih (fun u hu => hB u (by simp [hu]))]
                  simp [hz A (fun t ht => (HA.out t ht).2.2.1)]
              have b0 := HD4.out.b0
              have b1 := HD4.out.b1
              simp only at b0 b1
              have HRD := hide (reads_of_owns HOWN.out)
              go_wp2_with fail
              refine (implPlayed _ _ [7, 0, 0, 0] A _ L' _ HD4.out.own.read HRD.out).mono ?_; rintro x wz ⟨mz, rfl, hdz, hoz, hbz⟩
              have hRzz := hoz.read
              obtain ⟨cvz, Cz, tvz, Tz⟩ := mz
              obtain ⟨az, pz, ez, _⟩ := hRzz.cel.2
              obtain ⟨bz, qz, fz, _⟩ := hRzz.ths.row.2
              simp only at ez fz
              subst ez fz
              have hfin := one_fold HINV.out HOKA.out L'
              have hpl : playedD ⟨[7, 0, 0, 0], A.map Th.d⟩ L' = foldD ⟨[7, 0, 0, 0], A.map Th.d⟩ L' := by
                have h1 : decide ((L'.length : Int) ≤ 200) = true := decide_eq_true (by omega)
                simp [playedD, HOKA.out, h1]
              rw [hpl] at hdz
              rw [← hdz] at hfin
              obtain ⟨⟨hC4, _, hC0⟩, hokz⟩ := hfin
              have hC4' : Cz.length = 4 := hC4
              have hC0' : Cz.getD 0 0 = 7 + sumW (Tz.map Th.d) := hC0
              have hokz' : okM ⟨Cz, Tz.map Th.d⟩ = true := hokz
              have hwz : winsM ⟨Cz, Tz.map Th.d⟩ = Cz.getD 0 0 - 7 := by simp only [winsM, hokz']; simp only [if_true]; omega
              have hcr : 0 ≤ Cz.getD 0 0 ∧ Cz.getD 0 0 ≤ 1000000 := by
                rw [getD_get _ _ _ (by omega)]
                exact (okM_parts hokz').2.2.1 _ (List.getElem_mem _)
              obtain ⟨_, ad1, cap1, et1, _, _, hrd1⟩ := hRzz.cel
              simp only [Value.slice.injEq] at et1; obtain ⟨rfl, _, rfl⟩ := et1
              obtain ⟨bc, oc, rfl, hbc, hcc⟩ := hrd1 (by simp only; omega)
              have ccz : wz.cell? ⟨bc, oc, none⟩ = some (.int .i64 (Cz.getD 0 0)) := hcc 0 _ (by rw [getD_get _ _ _ (by omega)]; simp [iv])
              have HZB := hide (Bx.mk1 wz ⟨.slice (some ⟨bc, oc, none⟩) Cz.length pz, Cz, .slice bz Tz.length qz, Tz⟩ hRzz)
              have hbA : Below wz.heap.size wz (World.alloc wz (.cells #[.slice (some ⟨bc, oc, none⟩) Cz.length pz, .slice bz Tz.length qz] 27)) := (Below.refl _ _).alloc (Nat.le_refl _) _
              replace ccz := (hbA.cell (p := ⟨bc, oc, none⟩) hbc).trans ccz
              have hbc2 := Nat.lt_of_lt_of_le hbc hbA.size
              have HBF := hide (bchain HB9.out (bchain HOr.out.bel (bchain HBR.out (bchain hbz hbA))))
              have h0I : (0 : Int) < Cz.length := by omega
              have h0N : 0 < Cz.length := by omega
              clear hcc hrd1 hdz hoz hbz hRzz hC0 hC4 hC4' hokz hpl b0 b1 hbA hbc
              generalize hZ : Cz.getD 0 0 = Z at *
              go_wp2_with fail
              generalize World.alloc wz (.cells #[.slice (some ⟨bc, oc, none⟩) Cz.length pz, .slice bz Tz.length qz] 27) = VZ at *
              have z0 : ∀ y : Later VZ, y.w.cell? ⟨wz.heap.size, 0, none⟩ = some (.slice (some ⟨bc, oc, none⟩) Cz.length pz) := fun y => (y.b.cell (p := ⟨wz.heap.size, 0, none⟩) HZB.out.lt).trans HZB.out.c0
              have z1 : ∀ y : Later VZ, y.w.cell? ⟨wz.heap.size, 1, none⟩ = some (.slice bz Tz.length qz) := fun y => (y.b.cell (p := ⟨wz.heap.size, 1, none⟩) HZB.out.lt).trans HZB.out.c1
              have z2 : ∀ y : Later VZ, y.w.cell? ⟨bc, oc, none⟩ = some (.int .i64 Z) := fun y => (y.b.cell (p := ⟨bc, oc, none⟩) hbc2).trans ccz
              have K1 : Hid (∀ y : Later VZ, Calls Try.prog 19 #[.agg #[.slice (some ⟨bc, oc, none⟩) Cz.length pz, .slice bz Tz.length qz]] y.w fun x w' => x = .returned (.int .i64 (Z - 7)) ∧ Below y.w.heap.size y.w w') := fun y => by have h := implWins _ _ Cz Tz y.w (HZB.out.rd.new y.b); rw [hwz] at h; exact h
              have K2 : Hid (∀ y : Later VZ, Calls Try.prog 23 #[.agg #[.slice (some ⟨bc, oc, none⟩) Cz.length pz, .slice bz Tz.length qz]] y.w fun x w' => x = .returned (.bool true) ∧ Below y.w.heap.size y.w w') := fun y => by have h := exactMemoryOk.implOkM _ _ Cz Tz y.w (HZB.out.rd.new y.b); rw [hokz'] at h; exact h
              have hwr : IntKind.i64.wrap (7 + (Z - 7)) = Z := by rw [IntKind.wrap_i64]; omega
              clear hwz hC0' hokz' hZ ccz
              have hne : Nonempty (Later VZ) := ⟨⟨VZ, Below.refl _ _⟩⟩; refine region_later (by kernel_rfl) (by kernel_rfl) ?_
              repeat (go_big_quiet_step (fail))
              go_big_quiet_want; go_big_quiet_op; refine ⟨.int .i64 (Z - 7), fun y => later_calls (x := y) ((fun _ => K1.out y) y.w), ?_⟩; go_big_quiet_on
              repeat (go_big_quiet_step (fail))
              go_big_quiet_want; go_big_quiet_op; refine ⟨.bool true, fun y => later_calls (x := y) ((fun _ => K2.out y) y.w), ?_⟩; go_big_quiet_on
              repeat (go_big_quiet_step (fail))
              refine wpQuiet_nil ?_; intro _ hw'; obtain ⟨y, hw''⟩ := hw'; subst hw''; have hby := y.b
              go_wp2_with fail
              go_ret
              exact ⟨rfl, bchain HBF.out hby⟩
end Go.Proofs.Ytdplpkobpoiioaa
