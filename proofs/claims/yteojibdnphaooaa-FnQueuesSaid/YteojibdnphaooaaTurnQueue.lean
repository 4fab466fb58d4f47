/- Chapter 11's model: Queued. -/
import Derived.Test.YteojibdnphaooaaTurnCopy
import Derived.Test.YteojibdnphaooaaShape3
import Derived.Deep.Cut
import Derived.Deep.DeepCutAuto


namespace Go.Proofs.Yteojibdnphaooaa
open Go.RowKit
set_option maxRecDepth 100000
set_option linter.unusedSimpArgs false
set_option linter.unusedVariables false
/-- The last one waits for all but one, which has come up all the same. -/
theorem last_comes_but {md : Region.Mode} {ops : Array Oper} {n s : Nat} {l : Array Bool} (h : n ∈ Region.ready md ops l) (hw : (List.range n).all (fun j => j == s || (waitsFor md ops n).contains j) = true) (hs : l.getD s false = true) : (l.setIfInBounds n true).getD n false = true → ∀ j, j < n → (l.setIfInBounds n true).getD j false = true := fun _ j hj => by
  have hc := List.all_eq_true.1 hw j (List.mem_range.2 hj)
  by_cases e : j = s
  · subst e; exact getD_set_true hs
  · have e2 : (j == s) = false := by simpa using e
    rw [e2, Bool.false_or] at hc
    exact getD_set_true (ready_waits h hc)
structure QueI (d : RoundD) (x : LineD) (U : World) (k g g8 vp pz : Nat) (az : Option Addr) (size : Int) (bb : List Nat) (FIN : World → Prop) (l : Array Bool) (u : World) (x39 x42 x44 x45 x46 x48 x49 x50 x51 : Value) : Prop where
  hsz : U.heap.size ≤ u.heap.size
  kp : l.getD 14 false = false → TurnB bb U u
  n11 : l.getD 11 false = false → Below U.heap.size U u
  fin : l.getD 14 false = true → FIN u
  f1 : l.getD 1 false = true → x39 = .slice (some ⟨g, 0, none⟩) d.ls.length vp
  f4 : l.getD 4 false = true → x42 = .slice (some ⟨g, 0, none⟩) d.ls.length vp
  f6 : l.getD 6 false = true → x44 = .pointer (some ⟨g, k * 3, none⟩)
  f7 : l.getD 7 false = true → x45 = .pointer (some ⟨g, k * 3 + 2, none⟩)
  f8 : l.getD 8 false = true → x46 = .slice az x.sz.length pz
  f10 : l.getD 10 false = true → ∃ q : Nat, x48 = .slice (some ⟨q, 0, none⟩) 1 1 ∧ (l.getD 11 false = false → U.heap.size ≤ q ∧ RowIs u q 2 [.int .i64 size])
  f11 : l.getD 11 false = true → ∃ (aq : Option Addr) (pq : Nat), x49 = .slice aq (x.sz.length + 1) pq ∧ (l.getD 14 false = false → (∃ b1, OwR intS u (.slice aq (x.sz.length + 1) pq) (x.sz ++ [size]) b1 ∧ b1.Nodup ∧ ∀ y ∈ b1, (y ∈ bb ∨ U.heap.size ≤ y) ∧ y < u.heap.size))
  f12 : l.getD 12 false = true → x50 = .pointer (some ⟨g, k * 3, none⟩)
  f13 : l.getD 13 false = true → x51 = .pointer (some ⟨g, k * 3 + 2, none⟩)
  l14 : l.getD 14 false = true → ∀ i, i < 14 → l.getD i false = true
  l1110 : l.getD 11 false = true → l.getD 10 false = true
  l1312 : l.getD 13 false = true → l.getD 12 false = true
  tk : ∀ i ∈ [0, 2, 3, 5, 9], l.getD i false = true
set_option maxRecDepth 100000 in
set_option maxHeartbeats 8000000 in
theorem specQueued (d : RoundD) (v : Value) (line size : Int) (w : World) (hr : RdR lineS w v d.ls) : Calls Try.prog 20 #[.agg #[.int .i64 d.turn, .bool d.given, v], .int .i64 line, .int .i64 size] w fun x w' => ∃ v', x = .returned (.tuple #[.agg #[.int .i64 (queuedD d line size).1.turn, .bool (queuedD d line size).1.given, v'], .bool (queuedD d line size).2]) ∧ OwX lineS w' w.heap.size w'.heap.size v' (queuedD d line size).1.ls ∧ Below w.heap.size w w' := by
  obtain ⟨ad, cap, rfl, h1, h2⟩ := hr.form
  have HR := hide hr
  clear hr
  cases hok : okRn d
  · have hv : queuedD d line size = (zRn, false) := by unfold queuedD; rw [if_pos hok]
    rw [hv]
    dsimp only [zRn]
    clear hv
    go_enter Try.func20, Try.ntmps20
    go_wp2_with fail
    have hb0 : Below w.heap.size w ((w.alloc (.cells #[.int .i64 d.turn, .bool d.given, .slice ad d.ls.length cap] 26)).alloc (.cells #[.int .i64 0, .bool false, .slice none 0 0] 26)) := ((Below.refl _ _).alloc (Nat.le_refl _) _).alloc (by simp) _
    have r3 : RowIs ((w.alloc (.cells #[.int .i64 d.turn, .bool d.given, .slice ad d.ls.length cap] 26)).alloc (.cells #[.int .i64 0, .bool false, .slice none 0 0] 26)) (w.heap.size) 26 [.int .i64 d.turn, .bool d.given, .slice ad d.ls.length cap] := (rowIs_new w _ _).alloc _
    have r6 : RowIs ((w.alloc (.cells #[.int .i64 d.turn, .bool d.given, .slice ad d.ls.length cap] 26)).alloc (.cells #[.int .i64 0, .bool false, .slice none 0 0] 26)) (w.heap.size + 1) 26 [.int .i64 0, .bool false, .slice none 0 0] := by have h := rowIs_new (w.alloc (.cells #[.int .i64 d.turn, .bool d.given, .slice ad d.ls.length cap] 26)) 26 [.int .i64 0, .bool false, .slice none 0 0]; simpa using h
    have hs0 : w.heap.size + 2 ≤ ((w.alloc (.cells #[.int .i64 d.turn, .bool d.given, .slice ad d.ls.length cap] 26)).alloc (.cells #[.int .i64 0, .bool false, .slice none 0 0] 26)).heap.size := by simp
    generalize (w.alloc (.cells #[.int .i64 d.turn, .bool d.given, .slice ad d.ls.length cap] 26)).alloc (.cells #[.int .i64 0, .bool false, .slice none 0 0] 26) = W at *
    refine (specRoundOk d _ _ (HR.out.new hb0)).mono ?_; rw [hok]; rintro e w1 ⟨rfl, hb1⟩
    replace r3 := r3.new hb1
    replace r6 := r6.new hb1
    replace hb0 := bchain hb0 hb1
    have hs1 := hb1.size
    clear hb1

    have z0 := RowIs.cell (j := 0) r6 rfl
    have z1 := RowIs.cell (j := 1) r6 rfl
    have z2 := RowIs.cell (j := 2) r6 rfl
    have z9 := fun q => RowIs.frozen r6 q
    have zl := r6.lt
    have HB0 := hide hb0
    clear hb0 r3 r6
    go_wp2_with fail
    refine bodyPost_ret (v := .tuple #[.agg #[.int .i64 0, .bool false, .slice none 0 0], .bool false]) (by simp [results, Try.results20, go_sem, *]) rfl ?_
    refine ⟨_, rfl, owX_nil _ _ _, ?_⟩
    first | exact HB0.out | exact ((HB0.out.setCell (p := ⟨w.heap.size + 1, 0, none⟩) (show w.heap.size ≤ w.heap.size + 1 by omega) _).setCell (p := ⟨w.heap.size + 1, 1, none⟩) (show w.heap.size ≤ w.heap.size + 1 by omega) _).setCell (p := ⟨w.heap.size + 1, 2, none⟩) (show w.heap.size ≤ w.heap.size + 1 by omega) _
  obtain ⟨⟨n1, n6⟩, _, hall⟩ := okRn_iff.1 hok
  have HALL := hide hall
  clear hall
  cases i1 : inB line 0 ((d.ls.length : Int) - 1)
  · have hv : queuedD d line size = (d, false) := by unfold queuedD; rw [if_neg (by rw [hok]; decide), if_neg (fun c => inB_false i1 ⟨c.1, by omega⟩)]
    rw [hv]
    dsimp only
    clear hv
    go_enter Try.func20, Try.ntmps20
    go_wp2_with fail
    have hb0 : Below w.heap.size w ((w.alloc (.cells #[.int .i64 d.turn, .bool d.given, .slice ad d.ls.length cap] 26)).alloc (.cells #[.int .i64 0, .bool false, .slice none 0 0] 26)) := ((Below.refl _ _).alloc (Nat.le_refl _) _).alloc (by simp) _
    have r3 : RowIs ((w.alloc (.cells #[.int .i64 d.turn, .bool d.given, .slice ad d.ls.length cap] 26)).alloc (.cells #[.int .i64 0, .bool false, .slice none 0 0] 26)) (w.heap.size) 26 [.int .i64 d.turn, .bool d.given, .slice ad d.ls.length cap] := (rowIs_new w _ _).alloc _
    have r6 : RowIs ((w.alloc (.cells #[.int .i64 d.turn, .bool d.given, .slice ad d.ls.length cap] 26)).alloc (.cells #[.int .i64 0, .bool false, .slice none 0 0] 26)) (w.heap.size + 1) 26 [.int .i64 0, .bool false, .slice none 0 0] := by have h := rowIs_new (w.alloc (.cells #[.int .i64 d.turn, .bool d.given, .slice ad d.ls.length cap] 26)) 26 [.int .i64 0, .bool false, .slice none 0 0]; simpa using h
    have hs0 : w.heap.size + 2 ≤ ((w.alloc (.cells #[.int .i64 d.turn, .bool d.given, .slice ad d.ls.length cap] 26)).alloc (.cells #[.int .i64 0, .bool false, .slice none 0 0] 26)).heap.size := by simp
    generalize (w.alloc (.cells #[.int .i64 d.turn, .bool d.given, .slice ad d.ls.length cap] 26)).alloc (.cells #[.int .i64 0, .bool false, .slice none 0 0] 26) = W at *
    refine (specRoundOk d _ _ (HR.out.new hb0)).mono ?_; rw [hok]; rintro e w1 ⟨rfl, hb1⟩
    replace r3 := r3.new hb1
    replace r6 := r6.new hb1
    replace hb0 := bchain hb0 hb1
    have hs1 := hb1.size
    clear hb1
    have k0 := RowIs.cell (j := 0) r3 rfl
    have k1 := RowIs.cell (j := 1) r3 rfl
    have k2 := RowIs.cell (j := 2) r3 rfl
    have kl := r3.lt
    go_wp2_with fail
    clear k0 k1 k2 kl
    refine (copy11 d _ _ (HR.out.new hb0) hok).mono ?_; rintro e w2 ⟨vc, rfl, hox, hb2⟩
    obtain ⟨va, vp, rfl, hv1, hv2⟩ := hox.form
    replace r3 := r3.new hb2
    replace r6 := r6.new hb2
    replace hb0 := bchain hb0 hb2
    have hs2 := hb2.size
    clear hb2
    obtain ⟨U, hU⟩ : ∃ U, w2.alloc (.cells #[.int .i64 d.turn, .bool d.given, .slice va d.ls.length vp] 26) = U := ⟨_, rfl⟩
    have hbU : Below w2.heap.size w2 U := by rw [← hU]; exact (Below.refl _ _).alloc (Nat.le_refl _) _
    have r8 : RowIs U w2.heap.size 26 [.int .i64 d.turn, .bool d.given, .slice va d.ls.length vp] := by rw [← hU]; exact rowIs_new w2 _ _
    replace r3 := r3.new hbU
    replace r6 := r6.new hbU
    replace hb0 := bchain hb0 hbU
    have HO := hide (hox.new hbU)
    have hsU := r8.lt
    clear hbU hox
    have k2 := RowIs.cell (j := 2) r3 rfl
    have kl := r3.lt
    go_upto_region 4 with fail
    (try rw [hU])
    clear hU
    generalize hg8 : w2.heap.size = g8 at *
    clear hg8
    have o0 := RowIs.cell (j := 0) r8 rfl
    have o1 := RowIs.cell (j := 1) r8 rfl
    have o2 := RowIs.cell (j := 2) r8 rfl
    have z0 := RowIs.cell (j := 0) r6 rfl
    have z1 := RowIs.cell (j := 1) r6 rfl
    have z2 := RowIs.cell (j := 2) r6 rfl
    have z9 := fun q => RowIs.frozen r6 q
    have zl := r6.lt
    have HB0 := hide hb0
    clear hb0 r3 r6 r8
    go_wp2_with fail
    refine (specIn _ _ _ _).mono ?_; rw [i1]; rintro e wq ⟨rfl, hsame⟩; obtain rfl := hsame.symm; clear hsame
    go_wp2_with fail
    refine bodyPost_ret (v := .tuple #[.agg #[.int .i64 d.turn, .bool d.given, .slice va d.ls.length vp], .bool false]) (by simp [results, Try.results20, go_sem, *]) rfl ?_
    refine ⟨_, rfl, ?_, ?_⟩
    · have h3 := ((HO.out.far ⟨w.heap.size + 1, 0, none⟩ (.int .i64 d.turn) (.inl (by show w.heap.size + 1 < w1.heap.size; omega))).far ⟨w.heap.size + 1, 1, none⟩ (.bool d.given) (.inl (by show w.heap.size + 1 < w1.heap.size; omega))).far ⟨w.heap.size + 1, 2, none⟩ (.slice va d.ls.length vp) (.inl (by show w.heap.size + 1 < w1.heap.size; omega))
      exact (h3.wide (lo' := w.heap.size) (by omega) (Nat.le_refl _)).top
    · exact ((HB0.out.setCell (p := ⟨w.heap.size + 1, 0, none⟩) (show w.heap.size ≤ w.heap.size + 1 by omega) _).setCell (p := ⟨w.heap.size + 1, 1, none⟩) (show w.heap.size ≤ w.heap.size + 1 by omega) _).setCell (p := ⟨w.heap.size + 1, 2, none⟩) (show w.heap.size ≤ w.heap.size + 1 by omega) _

  obtain ⟨q0, q1⟩ := inB_true i1
  cases i2 : inB size 1 100
  · have hv : queuedD d line size = (d, false) := by unfold queuedD; rw [if_neg (by rw [hok]; decide), if_neg (fun c => inB_false i2 ⟨c.2.2.1, c.2.2.2.1⟩)]
    rw [hv]
    dsimp only
    clear hv
    go_enter Try.func20, Try.ntmps20
    go_wp2_with fail
    have hb0 : Below w.heap.size w ((w.alloc (.cells #[.int .i64 d.turn, .bool d.given, .slice ad d.ls.length cap] 26)).alloc (.cells #[.int .i64 0, .bool false, .slice none 0 0] 26)) := ((Below.refl _ _).alloc (Nat.le_refl _) _).alloc (by simp) _
    have r3 : RowIs ((w.alloc (.cells #[.int .i64 d.turn, .bool d.given, .slice ad d.ls.length cap] 26)).alloc (.cells #[.int .i64 0, .bool false, .slice none 0 0] 26)) (w.heap.size) 26 [.int .i64 d.turn, .bool d.given, .slice ad d.ls.length cap] := (rowIs_new w _ _).alloc _
    have r6 : RowIs ((w.alloc (.cells #[.int .i64 d.turn, .bool d.given, .slice ad d.ls.length cap] 26)).alloc (.cells #[.int .i64 0, .bool false, .slice none 0 0] 26)) (w.heap.size + 1) 26 [.int .i64 0, .bool false, .slice none 0 0] := by have h := rowIs_new (w.alloc (.cells #[.int .i64 d.turn, .bool d.given, .slice ad d.ls.length cap] 26)) 26 [.int .i64 0, .bool false, .slice none 0 0]; simpa using h
    have hs0 : w.heap.size + 2 ≤ ((w.alloc (.cells #[.int .i64 d.turn, .bool d.given, .slice ad d.ls.length cap] 26)).alloc (.cells #[.int .i64 0, .bool false, .slice none 0 0] 26)).heap.size := by simp
    generalize (w.alloc (.cells #[.int .i64 d.turn, .bool d.given, .slice ad d.ls.length cap] 26)).alloc (.cells #[.int .i64 0, .bool false, .slice none 0 0] 26) = W at *
    refine (specRoundOk d _ _ (HR.out.new hb0)).mono ?_; rw [hok]; rintro e w1 ⟨rfl, hb1⟩
    replace r3 := r3.new hb1
    replace r6 := r6.new hb1
    replace hb0 := bchain hb0 hb1
    have hs1 := hb1.size
    clear hb1
    have k0 := RowIs.cell (j := 0) r3 rfl
    have k1 := RowIs.cell (j := 1) r3 rfl
    have k2 := RowIs.cell (j := 2) r3 rfl
    have kl := r3.lt
    go_wp2_with fail
    clear k0 k1 k2 kl
    refine (copy11 d _ _ (HR.out.new hb0) hok).mono ?_; rintro e w2 ⟨vc, rfl, hox, hb2⟩
    obtain ⟨va, vp, rfl, hv1, hv2⟩ := hox.form
    replace r3 := r3.new hb2
    replace r6 := r6.new hb2
    replace hb0 := bchain hb0 hb2
    have hs2 := hb2.size
    clear hb2
    obtain ⟨U, hU⟩ : ∃ U, w2.alloc (.cells #[.int .i64 d.turn, .bool d.given, .slice va d.ls.length vp] 26) = U := ⟨_, rfl⟩
    have hbU : Below w2.heap.size w2 U := by rw [← hU]; exact (Below.refl _ _).alloc (Nat.le_refl _) _
    have r8 : RowIs U w2.heap.size 26 [.int .i64 d.turn, .bool d.given, .slice va d.ls.length vp] := by rw [← hU]; exact rowIs_new w2 _ _
    replace r3 := r3.new hbU
    replace r6 := r6.new hbU
    replace hb0 := bchain hb0 hbU
    have HO := hide (hox.new hbU)
    have hsU := r8.lt
    clear hbU hox
    have k2 := RowIs.cell (j := 2) r3 rfl
    have kl := r3.lt
    go_upto_region 4 with fail
    (try rw [hU])
    clear hU
    generalize hg8 : w2.heap.size = g8 at *
    clear hg8
    have o0 := RowIs.cell (j := 0) r8 rfl
    have o1 := RowIs.cell (j := 1) r8 rfl
    have o2 := RowIs.cell (j := 2) r8 rfl
    have z0 := RowIs.cell (j := 0) r6 rfl
    have z1 := RowIs.cell (j := 1) r6 rfl
    have z2 := RowIs.cell (j := 2) r6 rfl
    have z9 := fun q => RowIs.frozen r6 q
    have zl := r6.lt
    have HB0 := hide hb0
    clear hb0 r3 r6 r8
    go_wp2_with fail
    refine (specIn _ _ _ _).mono ?_; rw [i1]; rintro e wq ⟨rfl, hsame⟩; obtain rfl := hsame.symm; clear hsame
    go_wp2_with fail
    refine (specIn _ _ _ _).mono ?_; rw [i2]; rintro e wq ⟨rfl, hsame⟩; obtain rfl := hsame.symm; clear hsame
    go_wp2_with fail
    refine bodyPost_ret (v := .tuple #[.agg #[.int .i64 d.turn, .bool d.given, .slice va d.ls.length vp], .bool false]) (by simp [results, Try.results20, go_sem, *]) rfl ?_
    refine ⟨_, rfl, ?_, ?_⟩
    · have h3 := ((HO.out.far ⟨w.heap.size + 1, 0, none⟩ (.int .i64 d.turn) (.inl (by show w.heap.size + 1 < w1.heap.size; omega))).far ⟨w.heap.size + 1, 1, none⟩ (.bool d.given) (.inl (by show w.heap.size + 1 < w1.heap.size; omega))).far ⟨w.heap.size + 1, 2, none⟩ (.slice va d.ls.length vp) (.inl (by show w.heap.size + 1 < w1.heap.size; omega))
      exact (h3.wide (lo' := w.heap.size) (by omega) (Nat.le_refl _)).top
    · exact ((HB0.out.setCell (p := ⟨w.heap.size + 1, 0, none⟩) (show w.heap.size ≤ w.heap.size + 1 by omega) _).setCell (p := ⟨w.heap.size + 1, 1, none⟩) (show w.heap.size ≤ w.heap.size + 1 by omega) _).setCell (p := ⟨w.heap.size + 1, 2, none⟩) (show w.heap.size ≤ w.heap.size + 1 by omega) _

  obtain ⟨s0, s1⟩ := inB_true i2
  obtain ⟨k, rfl⟩ : ∃ k : Nat, line = k := ⟨line.toNat, by omega⟩
  have hkl : k < d.ls.length := by omega
  have hkI : (k : Int) < d.ls.length := by omega
  have hln : d.ls.getD (k : Int).toNat zLn = d.ls[k] := by simp [hkl]
  have hrk := HR.out.at k hkl
  have hxo := HALL.out _ (List.getElem_mem hkl)
  obtain ⟨x, hx⟩ : ∃ x, x = d.ls[k] := ⟨_, rfl⟩
  rw [← hx] at hrk hxo hln
  have HX := hide hx
  clear hx
  obtain ⟨b, o, cs, rfl, hbw, hrd, hc⟩ := hrk
  obtain ⟨vsz, rfl, hsz0⟩ := hrd
  obtain ⟨ay, py, rfl, hy1, hy2⟩ := hsz0.form
  have c2 : w.cell? ⟨b, o + k * 3 + 2, none⟩ = some (.slice ay x.sz.length py) := hc 2 _ rfl
  clear hc hsz0
  obtain ⟨xw, xlf, l30, hzz⟩ := okLn_iff.1 hxo
  by_cases h30 : x.sz.length = 30
  · have hv : queuedD d k size = (d, false) := by unfold queuedD; rw [if_neg (by rw [hok]; decide), if_neg (fun c => c.2.2.2.2 (by rw [hln]; exact h30))]
    rw [hv]
    dsimp only
    clear hv
    have h30' : ((x.sz.length : Int) == 30) = true := by simpa using (show (x.sz.length : Int) = 30 by omega)
    clear h30
    go_enter Try.func20, Try.ntmps20
    go_wp2_with fail
    have hb0 : Below w.heap.size w ((w.alloc (.cells #[.int .i64 d.turn, .bool d.given, .slice (some ⟨b, o, none⟩) d.ls.length cap] 26)).alloc (.cells #[.int .i64 0, .bool false, .slice none 0 0] 26)) := ((Below.refl _ _).alloc (Nat.le_refl _) _).alloc (by simp) _
    have r3 : RowIs ((w.alloc (.cells #[.int .i64 d.turn, .bool d.given, .slice (some ⟨b, o, none⟩) d.ls.length cap] 26)).alloc (.cells #[.int .i64 0, .bool false, .slice none 0 0] 26)) (w.heap.size) 26 [.int .i64 d.turn, .bool d.given, .slice (some ⟨b, o, none⟩) d.ls.length cap] := (rowIs_new w _ _).alloc _
    have r6 : RowIs ((w.alloc (.cells #[.int .i64 d.turn, .bool d.given, .slice (some ⟨b, o, none⟩) d.ls.length cap] 26)).alloc (.cells #[.int .i64 0, .bool false, .slice none 0 0] 26)) (w.heap.size + 1) 26 [.int .i64 0, .bool false, .slice none 0 0] := by have h := rowIs_new (w.alloc (.cells #[.int .i64 d.turn, .bool d.given, .slice (some ⟨b, o, none⟩) d.ls.length cap] 26)) 26 [.int .i64 0, .bool false, .slice none 0 0]; simpa using h
    have hs0 : w.heap.size + 2 ≤ ((w.alloc (.cells #[.int .i64 d.turn, .bool d.given, .slice (some ⟨b, o, none⟩) d.ls.length cap] 26)).alloc (.cells #[.int .i64 0, .bool false, .slice none 0 0] 26)).heap.size := by simp
    generalize (w.alloc (.cells #[.int .i64 d.turn, .bool d.given, .slice (some ⟨b, o, none⟩) d.ls.length cap] 26)).alloc (.cells #[.int .i64 0, .bool false, .slice none 0 0] 26) = W at *
    refine (specRoundOk d _ _ (HR.out.new hb0)).mono ?_; rw [hok]; rintro e w1 ⟨rfl, hb1⟩
    replace r3 := r3.new hb1
    replace r6 := r6.new hb1
    replace hb0 := bchain hb0 hb1
    have hs1 := hb1.size
    clear hb1
    have k0 := RowIs.cell (j := 0) r3 rfl
    have k1 := RowIs.cell (j := 1) r3 rfl
    have k2 := RowIs.cell (j := 2) r3 rfl
    have kl := r3.lt
    go_wp2_with fail
    clear k0 k1 k2 kl
    refine (copy11 d _ _ (HR.out.new hb0) hok).mono ?_; rintro e w2 ⟨vc, rfl, hox, hb2⟩
    obtain ⟨va, vp, rfl, hv1, hv2⟩ := hox.form
    replace r3 := r3.new hb2
    replace r6 := r6.new hb2
    replace hb0 := bchain hb0 hb2
    have hs2 := hb2.size
    clear hb2
    obtain ⟨U, hU⟩ : ∃ U, w2.alloc (.cells #[.int .i64 d.turn, .bool d.given, .slice va d.ls.length vp] 26) = U := ⟨_, rfl⟩
    have hbU : Below w2.heap.size w2 U := by rw [← hU]; exact (Below.refl _ _).alloc (Nat.le_refl _) _
    have r8 : RowIs U w2.heap.size 26 [.int .i64 d.turn, .bool d.given, .slice va d.ls.length vp] := by rw [← hU]; exact rowIs_new w2 _ _
    replace r3 := r3.new hbU
    replace r6 := r6.new hbU
    replace hb0 := bchain hb0 hbU
    have HO := hide (hox.new hbU)
    have hsU := r8.lt
    clear hbU hox
    have k2 := RowIs.cell (j := 2) r3 rfl
    have kl := r3.lt
    go_upto_region 4 with fail
    (try rw [hU])
    clear hU
    generalize hg8 : w2.heap.size = g8 at *
    clear hg8
    have ce := (hb0.cell (p := ⟨b, o + k * 3 + 2, none⟩) hbw).trans c2
    have cl := Nat.lt_of_lt_of_le hbw hb0.size
    have o0 := RowIs.cell (j := 0) r8 rfl
    have o1 := RowIs.cell (j := 1) r8 rfl
    have o2 := RowIs.cell (j := 2) r8 rfl
    have z0 := RowIs.cell (j := 0) r6 rfl
    have z1 := RowIs.cell (j := 1) r6 rfl
    have z2 := RowIs.cell (j := 2) r6 rfl
    have z9 := fun q => RowIs.frozen r6 q
    have zl := r6.lt
    have HB0 := hide hb0
    clear hb0 r3 r6 r8
    go_wp2_with fail
    refine (specIn _ _ _ _).mono ?_; rw [i1]; rintro e wq ⟨rfl, hsame⟩; obtain rfl := hsame.symm; clear hsame
    go_wp2_with fail
    refine (specIn _ _ _ _).mono ?_; rw [i2]; rintro e wq ⟨rfl, hsame⟩; obtain rfl := hsame.symm; clear hsame
    go_wp2_with fail
    refine bodyPost_ret (v := .tuple #[.agg #[.int .i64 d.turn, .bool d.given, .slice va d.ls.length vp], .bool false]) (by simp [results, Try.results20, go_sem, *]) rfl ?_
    refine ⟨_, rfl, ?_, ?_⟩
    · have h3 := ((HO.out.far ⟨w.heap.size + 1, 0, none⟩ (.int .i64 d.turn) (.inl (by show w.heap.size + 1 < w1.heap.size; omega))).far ⟨w.heap.size + 1, 1, none⟩ (.bool d.given) (.inl (by show w.heap.size + 1 < w1.heap.size; omega))).far ⟨w.heap.size + 1, 2, none⟩ (.slice va d.ls.length vp) (.inl (by show w.heap.size + 1 < w1.heap.size; omega))
      exact (h3.wide (lo' := w.heap.size) (by omega) (Nat.le_refl _)).top
    · exact ((HB0.out.setCell (p := ⟨w.heap.size + 1, 0, none⟩) (show w.heap.size ≤ w.heap.size + 1 by omega) _).setCell (p := ⟨w.heap.size + 1, 1, none⟩) (show w.heap.size ≤ w.heap.size + 1 by omega) _).setCell (p := ⟨w.heap.size + 1, 2, none⟩) (show w.heap.size ≤ w.heap.size + 1 by omega) _

  have hv : queuedD d k size = (⟨d.turn, d.given, d.ls.set k ⟨x.wt, x.left, x.sz ++ [size]⟩⟩, true) := by
    unfold queuedD
    rw [if_neg (by rw [hok]; decide), if_pos ⟨by omega, by omega, s0, s1, by rw [hln]; exact h30⟩, hln]
    simp
  rw [hv]
  dsimp only
  clear hv hln
  have h30' : ((x.sz.length : Int) == 30) = false := by simpa using (show ¬ (x.sz.length : Int) = 30 by omega)
  clear h30 xw xlf hzz hxo
  go_enter Try.func20, Try.ntmps20
  go_wp2_with fail
  have hb0 : Below w.heap.size w ((w.alloc (.cells #[.int .i64 d.turn, .bool d.given, .slice (some ⟨b, o, none⟩) d.ls.length cap] 26)).alloc (.cells #[.int .i64 0, .bool false, .slice none 0 0] 26)) := ((Below.refl _ _).alloc (Nat.le_refl _) _).alloc (by simp) _
  have r3 : RowIs ((w.alloc (.cells #[.int .i64 d.turn, .bool d.given, .slice (some ⟨b, o, none⟩) d.ls.length cap] 26)).alloc (.cells #[.int .i64 0, .bool false, .slice none 0 0] 26)) (w.heap.size) 26 [.int .i64 d.turn, .bool d.given, .slice (some ⟨b, o, none⟩) d.ls.length cap] := (rowIs_new w _ _).alloc _
  have r6 : RowIs ((w.alloc (.cells #[.int .i64 d.turn, .bool d.given, .slice (some ⟨b, o, none⟩) d.ls.length cap] 26)).alloc (.cells #[.int .i64 0, .bool false, .slice none 0 0] 26)) (w.heap.size + 1) 26 [.int .i64 0, .bool false, .slice none 0 0] := by have h := rowIs_new (w.alloc (.cells #[.int .i64 d.turn, .bool d.given, .slice (some ⟨b, o, none⟩) d.ls.length cap] 26)) 26 [.int .i64 0, .bool false, .slice none 0 0]; simpa using h
  have hs0 : w.heap.size + 2 ≤ ((w.alloc (.cells #[.int .i64 d.turn, .bool d.given, .slice (some ⟨b, o, none⟩) d.ls.length cap] 26)).alloc (.cells #[.int .i64 0, .bool false, .slice none 0 0] 26)).heap.size := by simp
  generalize (w.alloc (.cells #[.int .i64 d.turn, .bool d.given, .slice (some ⟨b, o, none⟩) d.ls.length cap] 26)).alloc (.cells #[.int .i64 0, .bool false, .slice none 0 0] 26) = W at *
  refine (specRoundOk d _ _ (HR.out.new hb0)).mono ?_; rw [hok]; rintro e w1 ⟨rfl, hb1⟩
  replace r3 := r3.new hb1
  replace r6 := r6.new hb1
  replace hb0 := bchain hb0 hb1
  have hs1 := hb1.size
  clear hb1
  have k0 := RowIs.cell (j := 0) r3 rfl
  have k1 := RowIs.cell (j := 1) r3 rfl
  have k2 := RowIs.cell (j := 2) r3 rfl
  have kl := r3.lt
  go_wp2_with fail
  clear k0 k1 k2 kl
  refine (copy11 d _ _ (HR.out.new hb0) hok).mono ?_; rintro e w2 ⟨vc, rfl, hox, hb2⟩
  obtain ⟨va, vp, rfl, hv1, hv2⟩ := hox.form
  replace r3 := r3.new hb2
  replace r6 := r6.new hb2
  replace hb0 := bchain hb0 hb2
  have hs2 := hb2.size
  clear hb2
  obtain ⟨U, hU⟩ : ∃ U, w2.alloc (.cells #[.int .i64 d.turn, .bool d.given, .slice va d.ls.length vp] 26) = U := ⟨_, rfl⟩
  have hbU : Below w2.heap.size w2 U := by rw [← hU]; exact (Below.refl _ _).alloc (Nat.le_refl _) _
  have r8 : RowIs U w2.heap.size 26 [.int .i64 d.turn, .bool d.given, .slice va d.ls.length vp] := by rw [← hU]; exact rowIs_new w2 _ _
  replace r3 := r3.new hbU
  replace r6 := r6.new hbU
  replace hb0 := bchain hb0 hbU
  have HO := hide (hox.new hbU)
  have hsU := r8.lt
  clear hbU hox
  have k2 := RowIs.cell (j := 2) r3 rfl
  have kl := r3.lt
  go_upto_region 4 with fail
  (try rw [hU])
  clear hU
  generalize hg8 : w2.heap.size = g8 at *
  clear hg8

  have ce := (hb0.cell (p := ⟨b, o + k * 3 + 2, none⟩) hbw).trans c2
  have cl := Nat.lt_of_lt_of_le hbw hb0.size
  go_wp2_with fail
  refine (specIn _ _ _ _).mono ?_; rw [i1]; rintro e wq ⟨rfl, hsame⟩; obtain rfl := hsame.symm; clear hsame
  go_wp2_with fail
  refine (specIn _ _ _ _).mono ?_; rw [i2]; rintro e wq ⟨rfl, hsame⟩; obtain rfl := hsame.symm; clear hsame
  go_upto_region 6 with fail
  clear ce cl
  obtain ⟨g, cap2, cs2, bb, e1, hgU, hglo, hghi, hgb, hbn, hbb, hown, hcell, hfz, hswap⟩ := HO.out.swap k hkl
  rw [← HX.out] at hown
  simp only [Value.slice.injEq, true_and] at e1
  obtain ⟨rfl, rfl⟩ := e1
  obtain ⟨vz, b0, rfl, hOz, rfl⟩ := hown
  obtain ⟨az, pz, rfl, hz1, hz2⟩ := hOz.rd.form
  have hce : U.cell? ⟨g, k * 3 + 2, none⟩ = some (.slice az x.sz.length pz) := hcell 2 _ rfl
  have HOZ := hide hOz
  have HR8 := hide r8
  have hg8U : g8 < U.heap.size := r8.lt
  have hg8b : g8 ∉ bb := fun h => by have := hbb g8 h; omega
  have hlo : w.heap.size + 2 ≤ w1.heap.size := by omega
  obtain ⟨FIN, HFD⟩ : ∃ F : World → Prop, ∀ u, F u = (OwX lineS u w1.heap.size u.heap.size (.slice (some ⟨g, 0, none⟩) d.ls.length vp) (d.ls.set k ⟨x.wt, x.left, x.sz ++ [size]⟩) ∧ Below w.heap.size w u ∧ RowIs u g8 26 [.int .i64 d.turn, .bool d.given, .slice (some ⟨g, 0, none⟩) d.ls.length vp] ∧ RowIs u (w.heap.size + 1) 26 [.int .i64 0, .bool false, .slice none 0 0]) := ⟨_, fun u => rfl⟩
  have HFIN : Hid (∀ (u : World) (aq : Option Addr) (pq : Nat) (b1 : List Nat), TurnB bb U u → U.heap.size ≤ u.heap.size → OwR intS u (.slice aq (x.sz.length + 1) pq) (x.sz ++ [size]) b1 → b1.Nodup → (∀ y ∈ b1, (y ∈ bb ∨ U.heap.size ≤ y) ∧ y < u.heap.size) → FIN (u.setCell ⟨g, k * 3 + 2, none⟩ (.slice aq (x.sz.length + 1) pq))) := by
    intro u aq pq b1 ht hs hO1 hn1 hb1
    rw [HFD]
    have hx1 := hswap u 2 (.slice aq (x.sz.length + 1) pq) ⟨x.wt, x.left, x.sz ++ [size]⟩ b1 u.heap.size hs (fun y hy _ _ hn => ht.block y hy hn) (by decide) ⟨_, _, rfl, hO1, rfl⟩ hn1 (fun y hy => ⟨(hb1 y hy).1.imp id (fun h => by omega), (hb1 y hy).2⟩) (by omega)
    have hbu : Below w.heap.size w u := hb0.trans ⟨ht.os, ht.tape, ht.output, ht.size, fun y hy => ht.block y (by omega) (fun h => by have := hbb y h; omega)⟩
    refine ⟨hx1.top, hbu.setCell (p := ⟨g, k * 3 + 2, none⟩) (show w.heap.size ≤ g by omega) _, ?_, ?_⟩
    · exact (HR8.out.kept (ht.block g8 hg8U hg8b)).far ⟨g, k * 3 + 2, none⟩ _ (by show g ≠ g8; omega)
    · exact (r6.kept (ht.block _ r6.lt (fun h => by have := hbb _ h; omega))).far ⟨g, k * 3 + 2, none⟩ _ (by show g ≠ w.heap.size + 1; omega)
  clear hcell hswap hOz r8
  have HUD := hide (Below.refl U.heap.size U).drew
  refine wp_region_any (by kernel_rfl) ?_; change wpAny _ _ _ _ _ _ _ (World.drew _)
  refine wpAny_take (i := 0) (v := ?_) rfl (by kernel_rfl) (by kernel_rfl) (by kernel_rfl) (fun _ _ _ h => h) (Or.inl ⟨by rfl, ?_⟩) ?_; rotate_left; focus (intro w; go_simp; try with_reducible rfl)
  refine wpAny_take (i := 2) (v := ?_) rfl (by kernel_rfl) (by kernel_rfl) (by kernel_rfl) (fun _ _ _ h => h) (Or.inl ⟨by rfl, ?_⟩) ?_; rotate_left; focus (intro w; go_simp; try with_reducible rfl)
  refine wpAny_take (i := 3) (v := ?_) rfl (by kernel_rfl) (by kernel_rfl) (by kernel_rfl) (fun _ _ _ h => h) (Or.inl ⟨by rfl, ?_⟩) ?_; rotate_left; focus (intro w; go_simp; try with_reducible rfl)
  refine wpAny_take (i := 5) (v := ?_) rfl (by kernel_rfl) (by kernel_rfl) (by kernel_rfl) (fun _ _ _ h => h) (Or.inl ⟨by rfl, ?_⟩) ?_; rotate_left; focus (intro w; go_simp; try with_reducible rfl)
  refine wpAny_take (i := 9) (v := ?_) rfl (by kernel_rfl) (by kernel_rfl) (by kernel_rfl) (fun _ _ _ h => h) (Or.inl ⟨by rfl, ?_⟩) ?_; rotate_left; focus (intro w; go_simp; try with_reducible rfl)
  refine wpAny_inv (fun (l : Array Bool) (a : Act) (u : World) => ∃ x39 x42 x44 x45 x46 x48 x49 x50 x51, a = ⟨#[.agg #[.int .i64 d.turn, .bool d.given, .slice (some ⟨b, o, none⟩) d.ls.length cap], .int .i64 (k : Int), .int .i64 size, .pointer (some ⟨w.heap.size, 0, none⟩), undef, undef, .pointer (some ⟨w.heap.size + 1, 0, none⟩), .bool false, .pointer (some ⟨g8, 0, none⟩), .agg #[.int .i64 d.turn, .bool d.given, .slice (some ⟨b, o, none⟩) d.ls.length cap], .bool true, .bool false, undef, .agg #[.int .i64 d.turn, .bool d.given, .slice (some ⟨b, o, none⟩) d.ls.length cap], .agg #[.int .i64 d.turn, .bool d.given, .slice (some ⟨g, 0, none⟩) d.ls.length vp], .int .i64 (k : Int), .pointer (some ⟨w.heap.size, 2, none⟩), .slice (some ⟨b, o, none⟩) d.ls.length cap, .int .i64 (d.ls.length : Int), .int .i64 ((d.ls.length : Int) - 1), .bool true, .bool false, .bool false, .int .i64 size, .bool true, .bool false, .bool false, .bool false, .pointer (some ⟨w.heap.size, 2, none⟩), .slice (some ⟨b, o, none⟩) d.ls.length cap, .int .i64 (k : Int), .pointer (some ⟨b, o + k * 3, none⟩), .pointer (some ⟨b, o + k * 3 + 2, none⟩), .slice ay x.sz.length py, .int .i64 (x.sz.length : Int), .bool false, .bool false, undef, .pointer (some ⟨g8, 2, none⟩), x39, .int .i64 (k : Int), .pointer (some ⟨g8, 2, none⟩), x42, .int .i64 (k : Int), x44, x45, x46, .int .i64 size, x48, x49, x50, x51, undef], []⟩ ∧ QueI d x U k g g8 vp pz az size bb FIN l u x39 x42 x44 x45 x46 x48 x49 x50 x51) ?hs ?he _ _ _ _ (by kernel_rfl) (by decide) ?h0
  case h0 => exact ⟨_, _, _, _, _, _, _, _, _, rfl, ⟨Nat.le_refl _, fun _ => TurnB.new HUD.out, fun _ => HUD.out, fun h => absurd h (by decide), fun h => absurd h (by decide), fun h => absurd h (by decide), fun h => absurd h (by decide), fun h => absurd h (by decide), fun h => absurd h (by decide), fun h => absurd h (by decide), fun h => absurd h (by decide), fun h => absurd h (by decide), fun h => absurd h (by decide), fun h => absurd h (by decide), fun h => absurd h (by decide), fun h => absurd h (by decide), by decide⟩⟩
  case he =>
    rintro l a u ⟨x39, x42, x44, x45, x46, x48, x49, x50, x51, rfl, H⟩ hl hr
    have hall := all_listed hl (by kernel_rfl) hr
    have hF := H.fin (hall 14 (by decide))
    rw [HFD] at hF
    obtain ⟨hox, hbx, h8, h6⟩ := hF
    clear H hall hr
    have o0 := RowIs.cell (j := 0) h8 rfl
    have o1 := RowIs.cell (j := 1) h8 rfl
    have o2 := RowIs.cell (j := 2) h8 rfl
    have ol := h8.lt
    have z0 := RowIs.cell (j := 0) h6 rfl
    have z1 := RowIs.cell (j := 1) h6 rfl
    have z2 := RowIs.cell (j := 2) h6 rfl
    have z9 := fun q => RowIs.frozen h6 q
    have zl := h6.lt
    have HOX := hide hox; have HBX := hide hbx
    clear hox hbx h8 h6
    go_wp2_with fail
    refine bodyPost_ret (v := .tuple #[.agg #[.int .i64 d.turn, .bool d.given, .slice (some ⟨g, 0, none⟩) d.ls.length vp], .bool true]) (by simp [results, Try.results20, go_sem, *]) rfl ?_
    refine ⟨_, rfl, ?_, ?_⟩
    · have h3 := ((HOX.out.far ⟨w.heap.size + 1, 0, none⟩ (.int .i64 d.turn) (.inl (by show w.heap.size + 1 < w1.heap.size; omega))).far ⟨w.heap.size + 1, 1, none⟩ (.bool d.given) (.inl (by show w.heap.size + 1 < w1.heap.size; omega))).far ⟨w.heap.size + 1, 2, none⟩ (.slice (some ⟨g, 0, none⟩) d.ls.length vp) (.inl (by show w.heap.size + 1 < w1.heap.size; omega))
      exact (h3.wide (lo' := w.heap.size) (by omega) (Nat.le_refl _)).top
    · exact ((HBX.out.setCell (p := ⟨w.heap.size + 1, 0, none⟩) (show w.heap.size ≤ w.heap.size + 1 by omega) _).setCell (p := ⟨w.heap.size + 1, 1, none⟩) (show w.heap.size ≤ w.heap.size + 1 by omega) _).setCell (p := ⟨w.heap.size + 1, 2, none⟩) (show w.heap.size ≤ w.heap.size + 1 by omega) _
  case hs =>
    rintro l a u io ⟨x39, x42, x44, x45, x46, x48, x49, x50, x51, rfl, H⟩ hl hr
    have hsz := H.hsz
    have kp := H.kp
    have n11 := H.n11
    have fin := H.fin
    have f1 := H.f1
    have f4 := H.f4
    have f6 := H.f6
    have f7 := H.f7
    have f8 := H.f8
    have f10 := H.f10
    have f11 := H.f11
    have f12 := H.f12
    have f13 := H.f13
    have l14 := H.l14
    have l1110 := H.l1110
    have l1312 := H.l1312
    have tk := H.tk
    clear H
    have hlt2 := ready_lt hr
    match io, hlt2, hr with
      | 0, _, hr =>
        have h0 := (ready_new hr hl).1
        rw [tk 0 (by decide)] at h0
        cases h0
      | 1, _, hr =>
        have N14 := not_last hr hl l14 (show 1 < 14 by decide)
        have RL := HR8.out.kept ((kp N14).block g8 hg8U hg8b)
        have l2 := RowIs.cell (j := 2) RL rfl
        have ll := RL.lt
        refine wpOp_step (o := _) rfl (fun K hK => ?_)
        go_simp
        refine hK _ _ ?_; clear hK K
        exact ⟨_, _, _, _, _, _, _, _, _, rfl, ⟨hsz, fun n => kp (set_same n), fun n => n11 (set_same n), fun h => fin (set_or h (by decide)), fun _ => rfl, fun h => (f4 (set_or h (by decide))), fun h => (f6 (set_or h (by decide))), fun h => (f7 (set_or h (by decide))), fun h => (f8 (set_or h (by decide))), fun h => (f10 (set_or h (by decide))).imp fun q hq => ⟨hq.1, fun n => hq.2 (set_same n)⟩, fun h => by obtain ⟨aq, pq, e, hq⟩ := (f11 (set_or h (by decide))); exact ⟨aq, pq, e, fun n => hq (set_same n)⟩, fun h => (f12 (set_or h (by decide))), fun h => (f13 (set_or h (by decide))), last_kept hr hl l14 (by decide), fun h => getD_set_true (l1110 (set_or h (by decide))), fun h => getD_set_true (l1312 (set_or h (by decide))), fun i hi => getD_set_true (tk i hi)⟩⟩
      | 2, _, hr =>
        have h0 := (ready_new hr hl).1
        rw [tk 2 (by decide)] at h0
        cases h0
      | 3, _, hr =>
        have h0 := (ready_new hr hl).1
        rw [tk 3 (by decide)] at h0
        cases h0
      | 4, _, hr =>
        have N14 := not_last hr hl l14 (show 4 < 14 by decide)
        have RL := HR8.out.kept ((kp N14).block g8 hg8U hg8b)
        have l2 := RowIs.cell (j := 2) RL rfl
        have ll := RL.lt
        refine wpOp_step (o := _) rfl (fun K hK => ?_)
        go_simp
        refine hK _ _ ?_; clear hK K
        exact ⟨_, _, _, _, _, _, _, _, _, rfl, ⟨hsz, fun n => kp (set_same n), fun n => n11 (set_same n), fun h => fin (set_or h (by decide)), fun h => (f1 (set_or h (by decide))), fun _ => rfl, fun h => (f6 (set_or h (by decide))), fun h => (f7 (set_or h (by decide))), fun h => (f8 (set_or h (by decide))), fun h => (f10 (set_or h (by decide))).imp fun q hq => ⟨hq.1, fun n => hq.2 (set_same n)⟩, fun h => by obtain ⟨aq, pq, e, hq⟩ := (f11 (set_or h (by decide))); exact ⟨aq, pq, e, fun n => hq (set_same n)⟩, fun h => (f12 (set_or h (by decide))), fun h => (f13 (set_or h (by decide))), last_kept hr hl l14 (by decide), fun h => getD_set_true (l1110 (set_or h (by decide))), fun h => getD_set_true (l1312 (set_or h (by decide))), fun i hi => getD_set_true (tk i hi)⟩⟩
      | 5, _, hr =>
        have h0 := (ready_new hr hl).1
        rw [tk 5 (by decide)] at h0
        cases h0
      | 6, _, hr =>
        obtain rfl := f4 (ready_waits hr (j := 4) (by kernel_rfl))
        refine wpOp_step (o := _) rfl (fun K hK => ?_)
        go_simp
        refine hK _ _ ?_; clear hK K
        exact ⟨_, _, _, _, _, _, _, _, _, rfl, ⟨hsz, fun n => kp (set_same n), fun n => n11 (set_same n), fun h => fin (set_or h (by decide)), fun h => (f1 (set_or h (by decide))), fun h => (f4 (set_or h (by decide))), fun _ => rfl, fun h => (f7 (set_or h (by decide))), fun h => (f8 (set_or h (by decide))), fun h => (f10 (set_or h (by decide))).imp fun q hq => ⟨hq.1, fun n => hq.2 (set_same n)⟩, fun h => by obtain ⟨aq, pq, e, hq⟩ := (f11 (set_or h (by decide))); exact ⟨aq, pq, e, fun n => hq (set_same n)⟩, fun h => (f12 (set_or h (by decide))), fun h => (f13 (set_or h (by decide))), last_kept hr hl l14 (by decide), fun h => getD_set_true (l1110 (set_or h (by decide))), fun h => getD_set_true (l1312 (set_or h (by decide))), fun i hi => getD_set_true (tk i hi)⟩⟩
      | 7, _, hr =>
        obtain rfl := f6 (ready_waits hr (j := 6) (by kernel_rfl))
        refine wpOp_step (o := _) rfl (fun K hK => ?_)
        go_simp
        refine hK _ _ ?_; clear hK K
        exact ⟨_, _, _, _, _, _, _, _, _, rfl, ⟨hsz, fun n => kp (set_same n), fun n => n11 (set_same n), fun h => fin (set_or h (by decide)), fun h => (f1 (set_or h (by decide))), fun h => (f4 (set_or h (by decide))), fun h => (f6 (set_or h (by decide))), fun _ => rfl, fun h => (f8 (set_or h (by decide))), fun h => (f10 (set_or h (by decide))).imp fun q hq => ⟨hq.1, fun n => hq.2 (set_same n)⟩, fun h => by obtain ⟨aq, pq, e, hq⟩ := (f11 (set_or h (by decide))); exact ⟨aq, pq, e, fun n => hq (set_same n)⟩, fun h => (f12 (set_or h (by decide))), fun h => (f13 (set_or h (by decide))), last_kept hr hl l14 (by decide), fun h => getD_set_true (l1110 (set_or h (by decide))), fun h => getD_set_true (l1312 (set_or h (by decide))), fun i hi => getD_set_true (tk i hi)⟩⟩
      | 8, _, hr =>
        obtain rfl := f7 (ready_waits hr (j := 7) (by kernel_rfl))
        have N14 := not_last hr hl l14 (show 8 < 14 by decide)
        have ce : u.cell? ⟨g, k * 3 + 2, none⟩ = some (.slice az x.sz.length pz) := (World.cell?_of_block (w := U) ((kp N14).block g hgU hgb)).trans hce
        have ll : g < u.heap.size := by omega
        refine wpOp_step (o := _) rfl (fun K hK => ?_)
        go_simp
        refine hK _ _ ?_; clear hK K
        exact ⟨_, _, _, _, _, _, _, _, _, rfl, ⟨hsz, fun n => kp (set_same n), fun n => n11 (set_same n), fun h => fin (set_or h (by decide)), fun h => (f1 (set_or h (by decide))), fun h => (f4 (set_or h (by decide))), fun h => (f6 (set_or h (by decide))), fun h => (f7 (set_or h (by decide))), fun _ => rfl, fun h => (f10 (set_or h (by decide))).imp fun q hq => ⟨hq.1, fun n => hq.2 (set_same n)⟩, fun h => by obtain ⟨aq, pq, e, hq⟩ := (f11 (set_or h (by decide))); exact ⟨aq, pq, e, fun n => hq (set_same n)⟩, fun h => (f12 (set_or h (by decide))), fun h => (f13 (set_or h (by decide))), last_kept hr hl l14 (by decide), fun h => getD_set_true (l1110 (set_or h (by decide))), fun h => getD_set_true (l1312 (set_or h (by decide))), fun i hi => getD_set_true (tk i hi)⟩⟩
      | 9, _, hr =>
        have h0 := (ready_new hr hl).1
        rw [tk 9 (by decide)] at h0
        cases h0
      | 10, _, hr =>
        have N14 := not_last hr hl l14 (show 10 < 14 by decide)
        have hnew := (ready_new hr hl).1
        have N11 : l.getD 11 false = false := by
          cases hh : l.getD 11 false
          · rfl
          · have := l1110 hh; rw [hnew] at this; cases this
        have hb : Below u.heap.size u (u.alloc (.cells #[.int .i64 size] 2)) := (Below.refl _ _).alloc (Nat.le_refl _) _
        refine wpOp_step (o := _) rfl (fun K hK => ?_)
        go_simp
        refine hK _ _ ?_; clear hK K
        exact ⟨_, _, _, _, _, _, _, _, _, rfl, ⟨Nat.le_trans hsz hb.size, fun n => (kp (set_same n)).trans (TurnB.new hb), fun n => bchain (n11 (set_same n)) hb, fun h => absurd (set_or h (by decide)) (by rw [N14]; decide), fun h => (f1 (set_or h (by decide))), fun h => (f4 (set_or h (by decide))), fun h => (f6 (set_or h (by decide))), fun h => (f7 (set_or h (by decide))), fun h => (f8 (set_or h (by decide))), fun _ => ⟨_, rfl, fun _ => ⟨hsz, rowIs_new u _ _⟩⟩, fun h => absurd (set_or h (by decide)) (by rw [N11]; decide), fun h => (f12 (set_or h (by decide))), fun h => (f13 (set_or h (by decide))), last_kept hr hl l14 (by decide), fun h => getD_set_true (l1110 (set_or h (by decide))), fun h => getD_set_true (l1312 (set_or h (by decide))), fun i hi => getD_set_true (tk i hi)⟩⟩
      | 11, _, hr =>
        obtain rfl := f8 (ready_waits hr (j := 8) (by kernel_rfl))
        obtain ⟨q10, rfl, h10⟩ := f10 (ready_waits hr (j := 10) (by kernel_rfl))
        have N11 := (ready_new hr hl).1
        obtain ⟨hqU, hrow⟩ := h10 N11
        have N14 := not_last hr hl l14 (show 11 < 14 by decide)
        have hbU := n11 N11
        have hOz : OwR intS u (.slice az x.sz.length pz) x.sz bb := HOZ.out.keep hbU.size (fun y hy => hbU.block y (HOZ.out.lt y hy))
        obtain ⟨hown, ebb⟩ := owr_ints hOz
        have hrd : Reads u (.slice (some ⟨q10, 0, none⟩) 1 1) 1 1 (iv [size]) := reads_one hrow
        refine wpOp_step (o := _) rfl (fun K hK => ?_)
        refine step_app _ (by rfl) _ _ 33 (by rfl) 2 (.int .i64 0) 1 8 Try.underlying33 (by kernel_rfl) rfl (by decide) 0 _ x.sz.length (iv x.sz) (by rfl) hown _ 1 (iv [size]) (by rfl) hrd (iv_one _) (by omega) (by decide) (Nat.zero_le _) ?_
        intro aq pq w' hown' hg hat
        have hO2 : OwR intS w' (.slice aq (x.sz.length + 1) pq) (x.sz ++ [size]) (Value.slice aq (x.sz.length + 1) pq).ownBlock.toList := by
          apply ints_owr
          have e : (x.sz ++ [size]).length = x.sz.length + 1 := by simp
          rw [e, iv_app]
          exact hown'
        have hsz2 : U.heap.size ≤ w'.heap.size := Nat.le_trans hsz hg.size
        have kp2 : TurnB bb U w' := (TurnB.new hbU).trans ⟨hg.os, hg.tape, hg.output, hg.size, fun y hy hn => hg.block y hy (fun c => hn (by rw [ebb, ← c]; simp))⟩
        have hbl : ∀ y ∈ (Value.slice aq (x.sz.length + 1) pq).ownBlock.toList, (y ∈ bb ∨ U.heap.size ≤ y) ∧ y < w'.heap.size := fun y hy => by
          refine ⟨?_, hO2.lt y hy⟩
          rcases hat with h | h
          · left; rw [ebb, ← h]; exact hy
          · right; rw [h] at hy; simp at hy; omega
        refine hK _ _ ?_; clear hK K
        exact ⟨_, _, _, _, _, _, _, _, _, rfl, ⟨hsz2, fun n => kp2, fun n => (by rw [set_is (by rw [hl]; exact ready_lt hr)] at n; cases n), fun h => absurd (set_or h (by decide)) (by rw [N14]; decide), fun h => (f1 (set_or h (by decide))), fun h => (f4 (set_or h (by decide))), fun h => (f6 (set_or h (by decide))), fun h => (f7 (set_or h (by decide))), fun h => (f8 (set_or h (by decide))), fun h => (f10 (set_or h (by decide))).imp fun q hq => ⟨hq.1, fun n => (by rw [(set_is (i := 11) (l := l) (by rw [hl]; exact ready_lt hr))] at n; cases n)⟩, fun _ => ⟨aq, pq, rfl, fun _ => ⟨_, hO2, opt_nodup _, hbl⟩⟩, fun h => (f12 (set_or h (by decide))), fun h => (f13 (set_or h (by decide))), last_kept hr hl l14 (by decide), fun _ => getD_set_true (ready_waits hr (j := 10) (by kernel_rfl)), fun h => getD_set_true (l1312 (set_or h (by decide))), fun i hi => getD_set_true (tk i hi)⟩⟩
      | 12, _, hr =>
        obtain rfl := f1 (ready_waits hr (j := 1) (by kernel_rfl))
        refine wpOp_step (o := _) rfl (fun K hK => ?_)
        go_simp
        refine hK _ _ ?_; clear hK K
        exact ⟨_, _, _, _, _, _, _, _, _, rfl, ⟨hsz, fun n => kp (set_same n), fun n => n11 (set_same n), fun h => fin (set_or h (by decide)), fun h => (f1 (set_or h (by decide))), fun h => (f4 (set_or h (by decide))), fun h => (f6 (set_or h (by decide))), fun h => (f7 (set_or h (by decide))), fun h => (f8 (set_or h (by decide))), fun h => (f10 (set_or h (by decide))).imp fun q hq => ⟨hq.1, fun n => hq.2 (set_same n)⟩, fun h => by obtain ⟨aq, pq, e, hq⟩ := (f11 (set_or h (by decide))); exact ⟨aq, pq, e, fun n => hq (set_same n)⟩, fun _ => rfl, fun h => (f13 (set_or h (by decide))), last_kept hr hl l14 (by decide), fun h => getD_set_true (l1110 (set_or h (by decide))), fun h => getD_set_true (l1312 (set_or h (by decide))), fun i hi => getD_set_true (tk i hi)⟩⟩
      | 13, _, hr =>
        obtain rfl := f12 (ready_waits hr (j := 12) (by kernel_rfl))
        refine wpOp_step (o := _) rfl (fun K hK => ?_)
        go_simp
        refine hK _ _ ?_; clear hK K
        exact ⟨_, _, _, _, _, _, _, _, _, rfl, ⟨hsz, fun n => kp (set_same n), fun n => n11 (set_same n), fun h => fin (set_or h (by decide)), fun h => (f1 (set_or h (by decide))), fun h => (f4 (set_or h (by decide))), fun h => (f6 (set_or h (by decide))), fun h => (f7 (set_or h (by decide))), fun h => (f8 (set_or h (by decide))), fun h => (f10 (set_or h (by decide))).imp fun q hq => ⟨hq.1, fun n => hq.2 (set_same n)⟩, fun h => by obtain ⟨aq, pq, e, hq⟩ := (f11 (set_or h (by decide))); exact ⟨aq, pq, e, fun n => hq (set_same n)⟩, fun h => (f12 (set_or h (by decide))), fun _ => rfl, last_kept hr hl l14 (by decide), fun h => getD_set_true (l1110 (set_or h (by decide))), fun _ => getD_set_true (ready_waits hr (j := 12) (by kernel_rfl)), fun i hi => getD_set_true (tk i hi)⟩⟩
      | 14, _, hr =>
        have L11 := ready_waits hr (j := 11) (by kernel_rfl)
        obtain rfl := f13 (ready_waits hr (j := 13) (by kernel_rfl))
        obtain ⟨aq, pq, rfl, h11⟩ := f11 L11
        have N14 := (ready_new hr hl).1
        obtain ⟨b1, hO1, hn1, hb1⟩ := h11 N14
        have ce : u.cell? ⟨g, k * 3 + 2, none⟩ = some (.slice az x.sz.length pz) := (World.cell?_of_block (w := U) ((kp N14).block g hgU hgb)).trans hce
        have cf : u.frozen? ⟨g, k * 3 + 2, none⟩ = false := (World.frozen?_of_block (w := U) ((kp N14).block g hgU hgb)).trans (hfz _)
        have ll : g < u.heap.size := by omega
        have HF : FIN (u.setCell ⟨g, k * 3 + 2, none⟩ (.slice aq (x.sz.length + 1) pq)) := HFIN.out u aq pq b1 (kp N14) hsz hO1 hn1 hb1
        refine wpOp_step (o := _) rfl (fun K hK => ?_)
        go_simp
        refine hK _ _ ?_; clear hK K
        exact ⟨_, _, _, _, _, _, _, _, _, rfl, ⟨by simpa using hsz, fun n => (by rw [set_is (by rw [hl]; exact ready_lt hr)] at n; cases n), fun n => (by rw [getD_set_true L11] at n; cases n), fun _ => HF, fun h => (f1 (set_or h (by decide))), fun h => (f4 (set_or h (by decide))), fun h => (f6 (set_or h (by decide))), fun h => (f7 (set_or h (by decide))), fun h => (f8 (set_or h (by decide))), fun h => (f10 (set_or h (by decide))).imp fun q hq => ⟨hq.1, fun n => (by rw [(getD_set_true (i := 14) L11)] at n; cases n)⟩, fun h => by obtain ⟨aq, pq, e, hq⟩ := (f11 (set_or h (by decide))); exact ⟨aq, pq, e, fun n => (by rw [set_is (by rw [hl]; exact ready_lt hr)] at n; cases n)⟩, fun h => (f12 (set_or h (by decide))), fun h => (f13 (set_or h (by decide))), last_comes_but (s := 12) hr (by kernel_rfl) (l1312 (ready_waits hr (j := 13) (by kernel_rfl))), fun h => getD_set_true (l1110 (set_or h (by decide))), fun h => getD_set_true (l1312 (set_or h (by decide))), fun i hi => getD_set_true (tk i hi)⟩⟩
      | n + 15, h, _ => exact absurd h (by show ¬ n + 15 < 15; omega)
end Go.Proofs.Yteojibdnphaooaa
