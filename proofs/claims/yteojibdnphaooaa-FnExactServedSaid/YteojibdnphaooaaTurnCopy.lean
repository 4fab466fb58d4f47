/- The model's copy of a Round. -/
import Derived.Test.YteojibdnphaooaaTurnSpec1
import Derived.Test.YteojibdnphaooaaRegionInv
import Derived.Test.YteojibdnphaooaaAppRows
import Derived.Test.YteojibdnphaooaaRowNew
import Derived.Deep.Cut
import Derived.Deep.DeepCutAuto


namespace Go.Proofs.Yteojibdnphaooaa
open Go.RowKit
set_option maxRecDepth 100000
set_option linter.unusedSimpArgs false
set_option linter.unusedVariables false
theorem no_rep {n k : Nat} {p : Prop} (h : (Array.replicate n false).getD k false = true) : p := by
  have e : (Array.replicate n false).getD k false = false := by by_cases hk : k < n <;> simp [hk]
  rw [e] at h
  cases h
theorem reads_one {w : World} {q : Nat} {ty : TypeId} {cs : List Value} (h : RowIs w q ty cs) : Reads w (.slice (some ⟨q, 0, none⟩) 1 1) 1 cs.length cs :=
  ⟨by simp, _, _, rfl, Nat.le_refl _, by unfold maxLen; omega, fun _ => ⟨q, 0, rfl, h.lt, fun r y hy => by simpa using h.cell hy⟩⟩
structure CopyI (d : RoundD) (x : LineD) (w U : World) (j cap b o vp pz : Nat) (va az : Option Addr) (l : Array Bool) (u : World) (x18 x20 x22 x23 x24 x26 x28 x29 x30 x31 x33 x35 x36 x37 x38 x39 x40 x41 x42 : Value) : Prop where
  hB : Below w.heap.size w u
  hRr : RowIs u (w.heap.size) 26 [.int .i64 d.turn, .bool d.given, .slice (some ⟨b, o, none⟩) d.ls.length cap]
  hR2 : RowIs u (w.heap.size + 1) 26 [.int .i64 0, .bool false, .slice none 0 0]
  hsz : U.heap.size ≤ u.heap.size
  ro0 : l.getD 26 false = false → RowIs u (w.heap.size + 1 + 1) 26 [.int .i64 d.turn, .bool d.given, .slice va j vp]
  ro1 : l.getD 26 false = true → RowIs u (w.heap.size + 1 + 1) 26 [.int .i64 d.turn, .bool d.given, x41]
  n24 : l.getD 24 false = false → Below U.heap.size U u
  f1 : l.getD 1 false = true → x18 = .slice va j vp
  f3 : l.getD 3 false = true → x20 = .slice (some ⟨b, o, none⟩) d.ls.length cap
  f5 : l.getD 5 false = true → x22 = .pointer (some ⟨b, o + j * 3, none⟩)
  f6 : l.getD 6 false = true → x23 = .pointer (some ⟨b, o + j * 3, none⟩)
  f7 : l.getD 7 false = true → x24 = .int .i64 x.wt
  f9 : l.getD 9 false = true → x26 = .slice (some ⟨b, o, none⟩) d.ls.length cap
  f11 : l.getD 11 false = true → x28 = .pointer (some ⟨b, o + j * 3, none⟩)
  f12 : l.getD 12 false = true → x29 = .pointer (some ⟨b, o + j * 3 + 1, none⟩)
  f13 : l.getD 13 false = true → x30 = .int .i64 x.left
  f14 : l.getD 14 false = true → ∃ q : Nat, x31 = .slice (some ⟨q, 0, none⟩) 0 0 ∧ (l.getD 21 false = false → u.ownsRow U.heap.size 2 1 (.slice (some ⟨q, 0, none⟩) 0 0) 0 [])
  f16 : l.getD 16 false = true → x33 = .slice (some ⟨b, o, none⟩) d.ls.length cap
  f18 : l.getD 18 false = true → x35 = .pointer (some ⟨b, o + j * 3, none⟩)
  f19 : l.getD 19 false = true → x36 = .pointer (some ⟨b, o + j * 3 + 2, none⟩)
  f20 : l.getD 20 false = true → x37 = .slice az x.sz.length pz
  f21 : l.getD 21 false = true → ∃ (aq : Option Addr) (pq : Nat), x38 = .slice aq x.sz.length pq ∧ (l.getD 24 false = false → OwX intS u U.heap.size u.heap.size (.slice aq x.sz.length pq) x.sz)
  f22 : l.getD 22 false = true → x39 = .agg #[.int .i64 x.wt, .int .i64 x.left, x38]
  f23 : l.getD 23 false = true → ∃ q : Nat, x40 = .slice (some ⟨q, 0, none⟩) 1 1 ∧ (l.getD 24 false = false → U.heap.size ≤ q ∧ RowIs u q 35 [.int .i64 x.wt, .int .i64 x.left, x38])
  f24 : l.getD 24 false = true → ∃ (ao : Option Addr) (po : Nat), x41 = .slice ao (j + 1) po ∧ OwX lineS u (w.heap.size + 3) u.heap.size (.slice ao (j + 1) po) (d.ls.take j ++ [x])
  f25 : l.getD 25 false = true → x42 = .pointer (some ⟨w.heap.size + 1 + 1, 2, none⟩)
  l26 : l.getD 26 false = true → ∀ i, i < 26 → l.getD i false = true
  l21 : l.getD 21 false = true → l.getD 14 false = true
  l24 : l.getD 24 false = true → l.getD 14 false = true ∧ l.getD 21 false = true ∧ l.getD 23 false = true
  c22 : l.getD 22 false = true → l.getD 21 false = true
  c23 : l.getD 23 false = true → l.getD 22 false = true
  tk : ∀ i ∈ [0, 2, 4, 8, 10, 15, 17], l.getD i false = true
set_option maxRecDepth 100000 in
set_option maxHeartbeats 8000000 in
theorem copy11 (d : RoundD) (v : Value) (w : World) (hr0 : RdR lineS w v d.ls) (hok : okRn d = true) : Calls Try.prog 35 #[.agg #[.int .i64 d.turn, .bool d.given, v]] w fun x w' => ∃ v', x = .returned (.agg #[.int .i64 d.turn, .bool d.given, v']) ∧ OwX lineS w' w.heap.size w'.heap.size v' d.ls ∧ Below w.heap.size w w' := by
  obtain ⟨ad, cap, rfl, h1, h2⟩ := hr0.form
  obtain ⟨⟨n1, n6⟩, _, hall⟩ := okRn_iff.1 hok
  have HALL := hide hall
  have HR0 := hide hr0
  clear hall hok hr0
  go_enter Try.func35, Try.ntmps35
  go_wp2_with fail
  have hb1 : Below w.heap.size w (w.alloc (.cells #[.int .i64 d.turn, .bool d.given, .slice ad d.ls.length cap] 26)) := (Below.refl _ _).alloc (Nat.le_refl _) _
  have r1 : RowIs (w.alloc (.cells #[.int .i64 d.turn, .bool d.given, .slice ad d.ls.length cap] 26)) w.heap.size 26 [.int .i64 d.turn, .bool d.given, .slice ad d.ls.length cap] := rowIs_new w _ _
  have s1 : (w.alloc (.cells #[.int .i64 d.turn, .bool d.given, .slice ad d.ls.length cap] 26)).heap.size = w.heap.size + 1 := by simp
  generalize w.alloc (.cells #[.int .i64 d.turn, .bool d.given, .slice ad d.ls.length cap] 26) = W1 at *
  have hb2 : Below W1.heap.size W1 (W1.alloc (.cells #[.int .i64 0, .bool false, .slice none 0 0] 26)) := (Below.refl _ _).alloc (Nat.le_refl _) _
  have r2 : RowIs (W1.alloc (.cells #[.int .i64 0, .bool false, .slice none 0 0] 26)) W1.heap.size 26 [.int .i64 0, .bool false, .slice none 0 0] := rowIs_new W1 _ _
  have s2 : (W1.alloc (.cells #[.int .i64 0, .bool false, .slice none 0 0] 26)).heap.size = W1.heap.size + 1 := by simp
  replace r1 := r1.new hb2
  replace hb1 := bchain hb1 hb2
  generalize W1.alloc (.cells #[.int .i64 0, .bool false, .slice none 0 0] 26) = W2 at *
  have hb3 : Below W2.heap.size W2 (W2.alloc (.cells #[.int .i64 d.turn, .bool d.given, .slice none 0 0] 26)) := (Below.refl _ _).alloc (Nat.le_refl _) _
  have r3 : RowIs (W2.alloc (.cells #[.int .i64 d.turn, .bool d.given, .slice none 0 0] 26)) W2.heap.size 26 [.int .i64 d.turn, .bool d.given, .slice none 0 0] := rowIs_new W2 _ _
  have s3 : (W2.alloc (.cells #[.int .i64 d.turn, .bool d.given, .slice none 0 0] 26)).heap.size = W2.heap.size + 1 := by simp
  replace r1 := r1.new hb3
  replace r2 := r2.new hb3
  replace hb1 := bchain hb1 hb3
  rw [s1] at r2
  rw [s2, s1] at r3
  have hW3 : w.heap.size + 3 ≤ (W2.alloc (.cells #[.int .i64 d.turn, .bool d.given, .slice none 0 0] 26)).heap.size := by omega
  generalize W2.alloc (.cells #[.int .i64 d.turn, .bool d.given, .slice none 0 0] 26) = W3 at *
  have HRr := hide r1; have HR2 := hide r2; have HRo := hide r3; have HB0 := hide hb1
  clear hb1 hb2 hb3 s1 s2 s3 r1 r2 r3
  go_loopw [4] (fun i wr => ∃ (j : Nat) (va : Option Addr) (vp : Nat), i = .int .i64 (j : Int) ∧ j ≤ d.ls.length ∧ (w.heap.size + 3) ≤ wr.heap.size ∧ Hid (RowIs wr (w.heap.size) 26 [.int .i64 d.turn, .bool d.given, .slice ad d.ls.length cap]) ∧ Hid (RowIs wr (w.heap.size + 1) 26 [.int .i64 0, .bool false, .slice none 0 0]) ∧ Hid (RowIs wr (w.heap.size + 1 + 1) 26 [.int .i64 d.turn, .bool d.given, .slice va j vp]) ∧ Hid (OwX lineS wr (w.heap.size + 3) wr.heap.size (.slice va j vp) (d.ls.take j)) ∧ Hid (Below w.heap.size w wr)) (fun i _ => d.ls.length - (intOf i).toNat)
  case atStart => exact ⟨0, none, 0, rfl, Nat.zero_le _, hW3, HRr, HR2, HRo, hide (owX_nil _ _ _), HB0⟩
  case round =>
    clear HRr HR2 HRo HB0
    obtain ⟨j, va, vp, rfl, hj, hU3, HRr, HR2, HRo, HOUT, HB⟩ := hrel
    by_cases hlt : j < d.ls.length
    rotate_left
    · have hltI : ¬ (j : Int) < d.ls.length := by omega
      have k2 := RowIs.cell (j := 2) HRr.out rfl
      have kl := HRr.out.lt
      have o0 := RowIs.cell (j := 0) HRo.out rfl
      have o1 := RowIs.cell (j := 1) HRo.out rfl
      have o2 := RowIs.cell (j := 2) HRo.out rfl
      have ol := HRo.out.lt
      have z0 := RowIs.cell (j := 0) HR2.out rfl
      have z1 := RowIs.cell (j := 1) HR2.out rfl
      have z2 := RowIs.cell (j := 2) HR2.out rfl
      have z9 := fun q => RowIs.frozen HR2.out q
      have zl := HR2.out.lt
      have hall : d.ls.take j = d.ls := List.take_of_length_le (by omega)
      have HALLT := hide hall
      clear hall
      go_wp2_with fail
      refine bodyPost_ret (v := .agg #[.int .i64 d.turn, .bool d.given, .slice va j vp]) (by simp [results, Try.results35, go_sem, *]) rfl ?_
      refine ⟨_, rfl, ?_, ?_⟩
      · have h3 := ((HOUT.out.far ⟨w.heap.size + 1, 0, none⟩ (.int .i64 d.turn) (.inl (by show w.heap.size + 1 < (w.heap.size + 3); omega))).far ⟨w.heap.size + 1, 1, none⟩ (.bool d.given) (.inl (by show w.heap.size + 1 < (w.heap.size + 3); omega))).far ⟨w.heap.size + 1, 2, none⟩ (.slice va j vp) (.inl (by show w.heap.size + 1 < (w.heap.size + 3); omega))
        have h4 := h3.wide (lo' := w.heap.size) (hi' := _) (by omega) (Nat.le_refl _)
        rw [HALLT.out] at h4
        exact h4.top
      · exact ((HB.out.setCell (p := ⟨w.heap.size + 1, 0, none⟩) (show w.heap.size ≤ w.heap.size + 1 by omega) _).setCell (p := ⟨w.heap.size + 1, 1, none⟩) (show w.heap.size ≤ w.heap.size + 1 by omega) _).setCell (p := ⟨w.heap.size + 1, 2, none⟩) (show w.heap.size ≤ w.heap.size + 1 by omega) _
    have hltI : (j : Int) < d.ls.length := by omega
    have k2 := RowIs.cell (j := 2) HRr.out rfl
    have kl := HRr.out.lt
    go_upto_region 5 with fail
    clear k2 kl
    have hrk := HR0.out.at j hlt
    have hxo := HALL.out _ (List.getElem_mem hlt)
    have htk : d.ls.take (j + 1) = d.ls.take j ++ [d.ls[j]] := (List.take_append_getElem hlt).symm
    obtain ⟨x, hx⟩ : ∃ x, x = d.ls[j] := ⟨_, rfl⟩
    rw [← hx] at hrk hxo htk
    clear hx
    have HTK := hide htk
    clear htk
    obtain ⟨b, o, cs, rfl, hbw, hrd, hc⟩ := hrk
    obtain ⟨vsz, rfl, hsz0⟩ := hrd
    obtain ⟨az, pz, rfl, hs1, hs2⟩ := hsz0.form
    have c0 : w.cell? ⟨b, o + j * 3, none⟩ = some (.int .i64 x.wt) := hc 0 _ rfl
    have c1 : w.cell? ⟨b, o + j * 3 + 1, none⟩ = some (.int .i64 x.left) := hc 1 _ rfl
    have c2 : w.cell? ⟨b, o + j * 3 + 2, none⟩ = some (.slice az x.sz.length pz) := hc 2 _ rfl
    have HSZ := hide hsz0
    clear hc hsz0
    obtain ⟨_, _, l30, _⟩ := okLn_iff.1 hxo
    have hjl : j ≤ 6 := by omega
    obtain ⟨U, hU⟩ : ∃ U, U = wr := ⟨_, rfl⟩
    rw [← hU] at hU3 HRr HR2 HRo HOUT HB ⊢
    clear hU hxo
    refine wp_region_any (by kernel_rfl) ?_; change wpAny _ _ _ _ _ _ _ (World.drew _)
    have hUd : Below U.heap.size U (World.drew U) := (Below.refl _ _).drew
    replace HRr := hide (HRr.out.new hUd)
    replace HR2 := hide (HR2.out.new hUd)
    replace HRo := hide (HRo.out.new hUd)
    replace HB := hide HB.out.drew
    have hUs : (World.drew U).heap.size = U.heap.size := rfl
    refine wpAny_take (i := 0) (v := ?_) rfl (by kernel_rfl) (by kernel_rfl) (by kernel_rfl) (fun _ _ _ h => h) (Or.inl ⟨by rfl, ?_⟩) ?_; rotate_left; focus (intro w; go_simp; try with_reducible rfl)
    refine wpAny_take (i := 2) (v := ?_) rfl (by kernel_rfl) (by kernel_rfl) (by kernel_rfl) (fun _ _ _ h => h) (Or.inl ⟨by rfl, ?_⟩) ?_; rotate_left; focus (intro w; go_simp; try with_reducible rfl)
    refine wpAny_take (i := 4) (v := ?_) rfl (by kernel_rfl) (by kernel_rfl) (by kernel_rfl) (fun _ _ _ h => h) (Or.inl ⟨by rfl, ?_⟩) ?_; rotate_left; focus (intro w; go_simp; try with_reducible rfl)
    refine wpAny_take (i := 8) (v := ?_) rfl (by kernel_rfl) (by kernel_rfl) (by kernel_rfl) (fun _ _ _ h => h) (Or.inl ⟨by rfl, ?_⟩) ?_; rotate_left; focus (intro w; go_simp; try with_reducible rfl)
    refine wpAny_take (i := 10) (v := ?_) rfl (by kernel_rfl) (by kernel_rfl) (by kernel_rfl) (fun _ _ _ h => h) (Or.inl ⟨by rfl, ?_⟩) ?_; rotate_left; focus (intro w; go_simp; try with_reducible rfl)
    refine wpAny_take (i := 15) (v := ?_) rfl (by kernel_rfl) (by kernel_rfl) (by kernel_rfl) (fun _ _ _ h => h) (Or.inl ⟨by rfl, ?_⟩) ?_; rotate_left; focus (intro w; go_simp; try with_reducible rfl)
    refine wpAny_take (i := 17) (v := ?_) rfl (by kernel_rfl) (by kernel_rfl) (by kernel_rfl) (fun _ _ _ h => h) (Or.inl ⟨by rfl, ?_⟩) ?_; rotate_left; focus (intro w; go_simp; try with_reducible rfl)
    refine wpAny_inv (fun (l : Array Bool) (a : Act) (u : World) => ∃ x18 x20 x22 x23 x24 x26 x28 x29 x30 x31 x33 x35 x36 x37 x38 x39 x40 x41 x42, a = ⟨#[.agg #[.int .i64 d.turn, .bool d.given, .slice (some ⟨b, o, none⟩) d.ls.length cap], .pointer (some ⟨w.heap.size, 0, none⟩), .pointer (some ⟨w.heap.size + 1, 0, none⟩), .pointer (some ⟨w.heap.size + 1 + 1, 0, none⟩), .int .i64 (j : Int), .pointer (some ⟨w.heap.size, 0, none⟩), .int .i64 d.turn, .pointer (some ⟨w.heap.size, 1, none⟩), .bool d.given, .agg #[.int .i64 d.turn, .bool d.given, .slice none 0 0], .int .i64 (j : Int), .pointer (some ⟨w.heap.size, 2, none⟩), .slice (some ⟨b, o, none⟩) d.ls.length cap, .int .i64 (d.ls.length : Int), .bool true, u15, u16, .pointer (some ⟨w.heap.size + 1 + 1, 2, none⟩), x18, .pointer (some ⟨w.heap.size, 2, none⟩), x20, .int .i64 (j : Int), x22, x23, x24, .pointer (some ⟨w.heap.size, 2, none⟩), x26, .int .i64 (j : Int), x28, x29, x30, x31, .pointer (some ⟨w.heap.size, 2, none⟩), x33, .int .i64 (j : Int), x35, x36, x37, x38, x39, x40, x41, x42, undef], []⟩ ∧ CopyI d x w U j cap b o vp pz va az l u x18 x20 x22 x23 x24 x26 x28 x29 x30 x31 x33 x35 x36 x37 x38 x39 x40 x41 x42) ?hs ?he _ _ _ _ (by kernel_rfl) (by decide) ?h0
    case h0 => exact ⟨_, _, _, _, _, _, _, _, _, _, _, _, _, _, _, _, _, _, _, rfl, ⟨HB.out, HRr.out, HR2.out, Nat.le_refl _, fun _ => HRo.out, fun h => absurd h (by decide), fun _ => hUd, fun h => absurd h (by decide), fun h => absurd h (by decide), fun h => absurd h (by decide), fun h => absurd h (by decide), fun h => absurd h (by decide), fun h => absurd h (by decide), fun h => absurd h (by decide), fun h => absurd h (by decide), fun h => absurd h (by decide), fun h => absurd h (by decide), fun h => absurd h (by decide), fun h => absurd h (by decide), fun h => absurd h (by decide), fun h => absurd h (by decide), fun h => absurd h (by decide), fun h => absurd h (by decide), fun h => absurd h (by decide), fun h => absurd h (by decide), fun h => absurd h (by decide), fun h => absurd h (by decide), fun h => absurd h (by decide), fun h => absurd h (by decide), fun h => absurd h (by decide), fun h => absurd h (by decide), by decide⟩⟩
    case he =>
      rintro l a u ⟨x18, x20, x22, x23, x24, x26, x28, x29, x30, x31, x33, x35, x36, x37, x38, x39, x40, x41, x42, rfl, H⟩ hl hr
      have hall := all_listed hl (by kernel_rfl) hr
      have hRo := H.ro1 (hall 26 (by decide))
      obtain ⟨ao, po, rfl, hox⟩ := H.f24 (hall 24 (by decide))
      have hB := H.hB; have hRr := H.hRr; have hR2 := H.hR2; have hsz := H.hsz
      clear H hall hr
      have HN1 := hide hB; have HN2 := hide hRr; have HN3 := hide hR2; have HN4 := hide hRo; have HN5 := hide hox
      clear hB hRr hR2 hRo hox
      go_wp2_with fail
      go_roundw
      case rel =>
        refine ⟨j + 1, ao, po, by go_num, by omega, by omega, ?_⟩
        rw [HTK.out]
        first | exact ⟨HN2, HN3, HN4, HN5, HN1⟩ | exact ⟨HN2, HN3, HN4, HN5⟩
      case measure => simp [intOf]; omega
    case hs =>
      rintro l a u io ⟨x18, x20, x22, x23, x24, x26, x28, x29, x30, x31, x33, x35, x36, x37, x38, x39, x40, x41, x42, rfl, H⟩ hl hr
      have hB := H.hB
      have hRr := H.hRr
      have hR2 := H.hR2
      have hsz := H.hsz
      have ro0 := H.ro0
      have ro1 := H.ro1
      have n24 := H.n24
      have f1 := H.f1
      have f3 := H.f3
      have f5 := H.f5
      have f6 := H.f6
      have f7 := H.f7
      have f9 := H.f9
      have f11 := H.f11
      have f12 := H.f12
      have f13 := H.f13
      have f14 := H.f14
      have f16 := H.f16
      have f18 := H.f18
      have f19 := H.f19
      have f20 := H.f20
      have f21 := H.f21
      have f22 := H.f22
      have f23 := H.f23
      have f24 := H.f24
      have f25 := H.f25
      have l26 := H.l26
      have l21 := H.l21
      have l24 := H.l24
      have c22 := H.c22
      have c23 := H.c23
      have tk := H.tk
      clear H
      have hlt2 := ready_lt hr
      match io, hlt2, hr with
      | 0, _, hr =>
        have h0 := (ready_new hr hl).1
        rw [tk 0 (by decide)] at h0
        cases h0
      | 1, _, hr =>
        have RL := ro0 (not_last hr hl l26 (by decide))
        have l2 := RowIs.cell (j := 2) RL rfl
        have ll := RL.lt
        refine wpOp_step (o := _) rfl (fun K hK => ?_)
        go_simp
        refine hK _ _ ?_; clear hK K
        exact ⟨_, _, _, _, _, _, _, _, _, _, _, _, _, _, _, _, _, _, _, rfl, ⟨hB, hRr, hR2, hsz, fun n => ro0 (set_same n), fun h => ro1 (set_or h (by decide)), fun n => n24 (set_same n), fun _ => rfl, fun h => (f3 (set_or h (by decide))), fun h => (f5 (set_or h (by decide))), fun h => (f6 (set_or h (by decide))), fun h => (f7 (set_or h (by decide))), fun h => (f9 (set_or h (by decide))), fun h => (f11 (set_or h (by decide))), fun h => (f12 (set_or h (by decide))), fun h => (f13 (set_or h (by decide))), fun h => (f14 (set_or h (by decide))).imp fun q hq => ⟨hq.1, fun n => hq.2 (set_same n)⟩, fun h => (f16 (set_or h (by decide))), fun h => (f18 (set_or h (by decide))), fun h => (f19 (set_or h (by decide))), fun h => (f20 (set_or h (by decide))), fun h => by obtain ⟨aq, pq, e, hq⟩ := (f21 (set_or h (by decide))); exact ⟨aq, pq, e, fun n => hq (set_same n)⟩, fun h => (f22 (set_or h (by decide))), fun h => (f23 (set_or h (by decide))).imp fun q hq => ⟨hq.1, fun n => hq.2 (set_same n)⟩, fun h => (f24 (set_or h (by decide))), fun h => (f25 (set_or h (by decide))), last_kept hr hl l26 (by decide), fun h => getD_set_true (l21 (set_or h (by decide))), fun h => ⟨getD_set_true (l24 (set_or h (by decide))).1, getD_set_true (l24 (set_or h (by decide))).2.1, getD_set_true (l24 (set_or h (by decide))).2.2⟩, fun h => getD_set_true (c22 (set_or h (by decide))), fun h => getD_set_true (c23 (set_or h (by decide))), fun i hi => getD_set_true (tk i hi)⟩⟩
      | 2, _, hr =>
        have h0 := (ready_new hr hl).1
        rw [tk 2 (by decide)] at h0
        cases h0
      | 3, _, hr =>
        have l2 := RowIs.cell (j := 2) hRr rfl
        have ll := hRr.lt
        refine wpOp_step (o := _) rfl (fun K hK => ?_)
        go_simp
        refine hK _ _ ?_; clear hK K
        exact ⟨_, _, _, _, _, _, _, _, _, _, _, _, _, _, _, _, _, _, _, rfl, ⟨hB, hRr, hR2, hsz, fun n => ro0 (set_same n), fun h => ro1 (set_or h (by decide)), fun n => n24 (set_same n), fun h => (f1 (set_or h (by decide))), fun _ => rfl, fun h => (f5 (set_or h (by decide))), fun h => (f6 (set_or h (by decide))), fun h => (f7 (set_or h (by decide))), fun h => (f9 (set_or h (by decide))), fun h => (f11 (set_or h (by decide))), fun h => (f12 (set_or h (by decide))), fun h => (f13 (set_or h (by decide))), fun h => (f14 (set_or h (by decide))).imp fun q hq => ⟨hq.1, fun n => hq.2 (set_same n)⟩, fun h => (f16 (set_or h (by decide))), fun h => (f18 (set_or h (by decide))), fun h => (f19 (set_or h (by decide))), fun h => (f20 (set_or h (by decide))), fun h => by obtain ⟨aq, pq, e, hq⟩ := (f21 (set_or h (by decide))); exact ⟨aq, pq, e, fun n => hq (set_same n)⟩, fun h => (f22 (set_or h (by decide))), fun h => (f23 (set_or h (by decide))).imp fun q hq => ⟨hq.1, fun n => hq.2 (set_same n)⟩, fun h => (f24 (set_or h (by decide))), fun h => (f25 (set_or h (by decide))), last_kept hr hl l26 (by decide), fun h => getD_set_true (l21 (set_or h (by decide))), fun h => ⟨getD_set_true (l24 (set_or h (by decide))).1, getD_set_true (l24 (set_or h (by decide))).2.1, getD_set_true (l24 (set_or h (by decide))).2.2⟩, fun h => getD_set_true (c22 (set_or h (by decide))), fun h => getD_set_true (c23 (set_or h (by decide))), fun i hi => getD_set_true (tk i hi)⟩⟩
      | 4, _, hr =>
        have h0 := (ready_new hr hl).1
        rw [tk 4 (by decide)] at h0
        cases h0
      | 5, _, hr =>
        obtain rfl := f3 (ready_waits hr (j := 3) (by kernel_rfl))
        refine wpOp_step (o := _) rfl (fun K hK => ?_)
        go_simp
        refine hK _ _ ?_; clear hK K
        exact ⟨_, _, _, _, _, _, _, _, _, _, _, _, _, _, _, _, _, _, _, rfl, ⟨hB, hRr, hR2, hsz, fun n => ro0 (set_same n), fun h => ro1 (set_or h (by decide)), fun n => n24 (set_same n), fun h => (f1 (set_or h (by decide))), fun h => (f3 (set_or h (by decide))), fun _ => rfl, fun h => (f6 (set_or h (by decide))), fun h => (f7 (set_or h (by decide))), fun h => (f9 (set_or h (by decide))), fun h => (f11 (set_or h (by decide))), fun h => (f12 (set_or h (by decide))), fun h => (f13 (set_or h (by decide))), fun h => (f14 (set_or h (by decide))).imp fun q hq => ⟨hq.1, fun n => hq.2 (set_same n)⟩, fun h => (f16 (set_or h (by decide))), fun h => (f18 (set_or h (by decide))), fun h => (f19 (set_or h (by decide))), fun h => (f20 (set_or h (by decide))), fun h => by obtain ⟨aq, pq, e, hq⟩ := (f21 (set_or h (by decide))); exact ⟨aq, pq, e, fun n => hq (set_same n)⟩, fun h => (f22 (set_or h (by decide))), fun h => (f23 (set_or h (by decide))).imp fun q hq => ⟨hq.1, fun n => hq.2 (set_same n)⟩, fun h => (f24 (set_or h (by decide))), fun h => (f25 (set_or h (by decide))), last_kept hr hl l26 (by decide), fun h => getD_set_true (l21 (set_or h (by decide))), fun h => ⟨getD_set_true (l24 (set_or h (by decide))).1, getD_set_true (l24 (set_or h (by decide))).2.1, getD_set_true (l24 (set_or h (by decide))).2.2⟩, fun h => getD_set_true (c22 (set_or h (by decide))), fun h => getD_set_true (c23 (set_or h (by decide))), fun i hi => getD_set_true (tk i hi)⟩⟩
      | 6, _, hr =>
        obtain rfl := f5 (ready_waits hr (j := 5) (by kernel_rfl))
        refine wpOp_step (o := _) rfl (fun K hK => ?_)
        go_simp
        refine hK _ _ ?_; clear hK K
        exact ⟨_, _, _, _, _, _, _, _, _, _, _, _, _, _, _, _, _, _, _, rfl, ⟨hB, hRr, hR2, hsz, fun n => ro0 (set_same n), fun h => ro1 (set_or h (by decide)), fun n => n24 (set_same n), fun h => (f1 (set_or h (by decide))), fun h => (f3 (set_or h (by decide))), fun h => (f5 (set_or h (by decide))), fun _ => rfl, fun h => (f7 (set_or h (by decide))), fun h => (f9 (set_or h (by decide))), fun h => (f11 (set_or h (by decide))), fun h => (f12 (set_or h (by decide))), fun h => (f13 (set_or h (by decide))), fun h => (f14 (set_or h (by decide))).imp fun q hq => ⟨hq.1, fun n => hq.2 (set_same n)⟩, fun h => (f16 (set_or h (by decide))), fun h => (f18 (set_or h (by decide))), fun h => (f19 (set_or h (by decide))), fun h => (f20 (set_or h (by decide))), fun h => by obtain ⟨aq, pq, e, hq⟩ := (f21 (set_or h (by decide))); exact ⟨aq, pq, e, fun n => hq (set_same n)⟩, fun h => (f22 (set_or h (by decide))), fun h => (f23 (set_or h (by decide))).imp fun q hq => ⟨hq.1, fun n => hq.2 (set_same n)⟩, fun h => (f24 (set_or h (by decide))), fun h => (f25 (set_or h (by decide))), last_kept hr hl l26 (by decide), fun h => getD_set_true (l21 (set_or h (by decide))), fun h => ⟨getD_set_true (l24 (set_or h (by decide))).1, getD_set_true (l24 (set_or h (by decide))).2.1, getD_set_true (l24 (set_or h (by decide))).2.2⟩, fun h => getD_set_true (c22 (set_or h (by decide))), fun h => getD_set_true (c23 (set_or h (by decide))), fun i hi => getD_set_true (tk i hi)⟩⟩
      | 7, _, hr =>
        obtain rfl := f6 (ready_waits hr (j := 6) (by kernel_rfl))
        have ce := (hB.cell (p := ⟨b, o + j * 3, none⟩) hbw).trans c0
        refine wpOp_step (o := _) rfl (fun K hK => ?_)
        go_simp
        refine hK _ _ ?_; clear hK K
        exact ⟨_, _, _, _, _, _, _, _, _, _, _, _, _, _, _, _, _, _, _, rfl, ⟨hB, hRr, hR2, hsz, fun n => ro0 (set_same n), fun h => ro1 (set_or h (by decide)), fun n => n24 (set_same n), fun h => (f1 (set_or h (by decide))), fun h => (f3 (set_or h (by decide))), fun h => (f5 (set_or h (by decide))), fun h => (f6 (set_or h (by decide))), fun _ => rfl, fun h => (f9 (set_or h (by decide))), fun h => (f11 (set_or h (by decide))), fun h => (f12 (set_or h (by decide))), fun h => (f13 (set_or h (by decide))), fun h => (f14 (set_or h (by decide))).imp fun q hq => ⟨hq.1, fun n => hq.2 (set_same n)⟩, fun h => (f16 (set_or h (by decide))), fun h => (f18 (set_or h (by decide))), fun h => (f19 (set_or h (by decide))), fun h => (f20 (set_or h (by decide))), fun h => by obtain ⟨aq, pq, e, hq⟩ := (f21 (set_or h (by decide))); exact ⟨aq, pq, e, fun n => hq (set_same n)⟩, fun h => (f22 (set_or h (by decide))), fun h => (f23 (set_or h (by decide))).imp fun q hq => ⟨hq.1, fun n => hq.2 (set_same n)⟩, fun h => (f24 (set_or h (by decide))), fun h => (f25 (set_or h (by decide))), last_kept hr hl l26 (by decide), fun h => getD_set_true (l21 (set_or h (by decide))), fun h => ⟨getD_set_true (l24 (set_or h (by decide))).1, getD_set_true (l24 (set_or h (by decide))).2.1, getD_set_true (l24 (set_or h (by decide))).2.2⟩, fun h => getD_set_true (c22 (set_or h (by decide))), fun h => getD_set_true (c23 (set_or h (by decide))), fun i hi => getD_set_true (tk i hi)⟩⟩
      | 8, _, hr =>
        have h0 := (ready_new hr hl).1
        rw [tk 8 (by decide)] at h0
        cases h0
      | 9, _, hr =>
        have l2 := RowIs.cell (j := 2) hRr rfl
        have ll := hRr.lt
        refine wpOp_step (o := _) rfl (fun K hK => ?_)
        go_simp
        refine hK _ _ ?_; clear hK K
        exact ⟨_, _, _, _, _, _, _, _, _, _, _, _, _, _, _, _, _, _, _, rfl, ⟨hB, hRr, hR2, hsz, fun n => ro0 (set_same n), fun h => ro1 (set_or h (by decide)), fun n => n24 (set_same n), fun h => (f1 (set_or h (by decide))), fun h => (f3 (set_or h (by decide))), fun h => (f5 (set_or h (by decide))), fun h => (f6 (set_or h (by decide))), fun h => (f7 (set_or h (by decide))), fun _ => rfl, fun h => (f11 (set_or h (by decide))), fun h => (f12 (set_or h (by decide))), fun h => (f13 (set_or h (by decide))), fun h => (f14 (set_or h (by decide))).imp fun q hq => ⟨hq.1, fun n => hq.2 (set_same n)⟩, fun h => (f16 (set_or h (by decide))), fun h => (f18 (set_or h (by decide))), fun h => (f19 (set_or h (by decide))), fun h => (f20 (set_or h (by decide))), fun h => by obtain ⟨aq, pq, e, hq⟩ := (f21 (set_or h (by decide))); exact ⟨aq, pq, e, fun n => hq (set_same n)⟩, fun h => (f22 (set_or h (by decide))), fun h => (f23 (set_or h (by decide))).imp fun q hq => ⟨hq.1, fun n => hq.2 (set_same n)⟩, fun h => (f24 (set_or h (by decide))), fun h => (f25 (set_or h (by decide))), last_kept hr hl l26 (by decide), fun h => getD_set_true (l21 (set_or h (by decide))), fun h => ⟨getD_set_true (l24 (set_or h (by decide))).1, getD_set_true (l24 (set_or h (by decide))).2.1, getD_set_true (l24 (set_or h (by decide))).2.2⟩, fun h => getD_set_true (c22 (set_or h (by decide))), fun h => getD_set_true (c23 (set_or h (by decide))), fun i hi => getD_set_true (tk i hi)⟩⟩
      | 10, _, hr =>
        have h0 := (ready_new hr hl).1
        rw [tk 10 (by decide)] at h0
        cases h0
      | 11, _, hr =>
        obtain rfl := f9 (ready_waits hr (j := 9) (by kernel_rfl))
        refine wpOp_step (o := _) rfl (fun K hK => ?_)
        go_simp
        refine hK _ _ ?_; clear hK K
        exact ⟨_, _, _, _, _, _, _, _, _, _, _, _, _, _, _, _, _, _, _, rfl, ⟨hB, hRr, hR2, hsz, fun n => ro0 (set_same n), fun h => ro1 (set_or h (by decide)), fun n => n24 (set_same n), fun h => (f1 (set_or h (by decide))), fun h => (f3 (set_or h (by decide))), fun h => (f5 (set_or h (by decide))), fun h => (f6 (set_or h (by decide))), fun h => (f7 (set_or h (by decide))), fun h => (f9 (set_or h (by decide))), fun _ => rfl, fun h => (f12 (set_or h (by decide))), fun h => (f13 (set_or h (by decide))), fun h => (f14 (set_or h (by decide))).imp fun q hq => ⟨hq.1, fun n => hq.2 (set_same n)⟩, fun h => (f16 (set_or h (by decide))), fun h => (f18 (set_or h (by decide))), fun h => (f19 (set_or h (by decide))), fun h => (f20 (set_or h (by decide))), fun h => by obtain ⟨aq, pq, e, hq⟩ := (f21 (set_or h (by decide))); exact ⟨aq, pq, e, fun n => hq (set_same n)⟩, fun h => (f22 (set_or h (by decide))), fun h => (f23 (set_or h (by decide))).imp fun q hq => ⟨hq.1, fun n => hq.2 (set_same n)⟩, fun h => (f24 (set_or h (by decide))), fun h => (f25 (set_or h (by decide))), last_kept hr hl l26 (by decide), fun h => getD_set_true (l21 (set_or h (by decide))), fun h => ⟨getD_set_true (l24 (set_or h (by decide))).1, getD_set_true (l24 (set_or h (by decide))).2.1, getD_set_true (l24 (set_or h (by decide))).2.2⟩, fun h => getD_set_true (c22 (set_or h (by decide))), fun h => getD_set_true (c23 (set_or h (by decide))), fun i hi => getD_set_true (tk i hi)⟩⟩
      | 12, _, hr =>
        obtain rfl := f11 (ready_waits hr (j := 11) (by kernel_rfl))
        refine wpOp_step (o := _) rfl (fun K hK => ?_)
        go_simp
        refine hK _ _ ?_; clear hK K
        exact ⟨_, _, _, _, _, _, _, _, _, _, _, _, _, _, _, _, _, _, _, rfl, ⟨hB, hRr, hR2, hsz, fun n => ro0 (set_same n), fun h => ro1 (set_or h (by decide)), fun n => n24 (set_same n), fun h => (f1 (set_or h (by decide))), fun h => (f3 (set_or h (by decide))), fun h => (f5 (set_or h (by decide))), fun h => (f6 (set_or h (by decide))), fun h => (f7 (set_or h (by decide))), fun h => (f9 (set_or h (by decide))), fun h => (f11 (set_or h (by decide))), fun _ => rfl, fun h => (f13 (set_or h (by decide))), fun h => (f14 (set_or h (by decide))).imp fun q hq => ⟨hq.1, fun n => hq.2 (set_same n)⟩, fun h => (f16 (set_or h (by decide))), fun h => (f18 (set_or h (by decide))), fun h => (f19 (set_or h (by decide))), fun h => (f20 (set_or h (by decide))), fun h => by obtain ⟨aq, pq, e, hq⟩ := (f21 (set_or h (by decide))); exact ⟨aq, pq, e, fun n => hq (set_same n)⟩, fun h => (f22 (set_or h (by decide))), fun h => (f23 (set_or h (by decide))).imp fun q hq => ⟨hq.1, fun n => hq.2 (set_same n)⟩, fun h => (f24 (set_or h (by decide))), fun h => (f25 (set_or h (by decide))), last_kept hr hl l26 (by decide), fun h => getD_set_true (l21 (set_or h (by decide))), fun h => ⟨getD_set_true (l24 (set_or h (by decide))).1, getD_set_true (l24 (set_or h (by decide))).2.1, getD_set_true (l24 (set_or h (by decide))).2.2⟩, fun h => getD_set_true (c22 (set_or h (by decide))), fun h => getD_set_true (c23 (set_or h (by decide))), fun i hi => getD_set_true (tk i hi)⟩⟩
      | 13, _, hr =>
        obtain rfl := f12 (ready_waits hr (j := 12) (by kernel_rfl))
        have ce := (hB.cell (p := ⟨b, o + j * 3 + 1, none⟩) hbw).trans c1
        refine wpOp_step (o := _) rfl (fun K hK => ?_)
        go_simp
        refine hK _ _ ?_; clear hK K
        exact ⟨_, _, _, _, _, _, _, _, _, _, _, _, _, _, _, _, _, _, _, rfl, ⟨hB, hRr, hR2, hsz, fun n => ro0 (set_same n), fun h => ro1 (set_or h (by decide)), fun n => n24 (set_same n), fun h => (f1 (set_or h (by decide))), fun h => (f3 (set_or h (by decide))), fun h => (f5 (set_or h (by decide))), fun h => (f6 (set_or h (by decide))), fun h => (f7 (set_or h (by decide))), fun h => (f9 (set_or h (by decide))), fun h => (f11 (set_or h (by decide))), fun h => (f12 (set_or h (by decide))), fun _ => rfl, fun h => (f14 (set_or h (by decide))).imp fun q hq => ⟨hq.1, fun n => hq.2 (set_same n)⟩, fun h => (f16 (set_or h (by decide))), fun h => (f18 (set_or h (by decide))), fun h => (f19 (set_or h (by decide))), fun h => (f20 (set_or h (by decide))), fun h => by obtain ⟨aq, pq, e, hq⟩ := (f21 (set_or h (by decide))); exact ⟨aq, pq, e, fun n => hq (set_same n)⟩, fun h => (f22 (set_or h (by decide))), fun h => (f23 (set_or h (by decide))).imp fun q hq => ⟨hq.1, fun n => hq.2 (set_same n)⟩, fun h => (f24 (set_or h (by decide))), fun h => (f25 (set_or h (by decide))), last_kept hr hl l26 (by decide), fun h => getD_set_true (l21 (set_or h (by decide))), fun h => ⟨getD_set_true (l24 (set_or h (by decide))).1, getD_set_true (l24 (set_or h (by decide))).2.1, getD_set_true (l24 (set_or h (by decide))).2.2⟩, fun h => getD_set_true (c22 (set_or h (by decide))), fun h => getD_set_true (c23 (set_or h (by decide))), fun i hi => getD_set_true (tk i hi)⟩⟩
      | 14, _, hr =>
        have hb : Below u.heap.size u (u.alloc (.cells #[] 2)) := (Below.refl _ _).alloc (Nat.le_refl _) _
        refine wpOp_step (o := _) rfl (fun K hK => ?_)
        go_simp
        refine hK _ _ ?_; clear hK K
        exact ⟨_, _, _, _, _, _, _, _, _, _, _, _, _, _, _, _, _, _, _, rfl, ⟨bchain hB hb, hRr.new hb, hR2.new hb, Nat.le_trans hsz hb.size, fun n => (ro0 (set_same n)).new hb, fun h => (ro1 (set_or h (by decide))).new hb, fun n => bchain (n24 (set_same n)) hb, fun h => (f1 (set_or h (by decide))), fun h => (f3 (set_or h (by decide))), fun h => (f5 (set_or h (by decide))), fun h => (f6 (set_or h (by decide))), fun h => (f7 (set_or h (by decide))), fun h => (f9 (set_or h (by decide))), fun h => (f11 (set_or h (by decide))), fun h => (f12 (set_or h (by decide))), fun h => (f13 (set_or h (by decide))), fun _ => ⟨_, rfl, fun _ => owns_base (owns_lit u 2 1 0 #[] rfl (by omega)) (fun q hq => by simp [Value.ownBlock] at hq; omega)⟩, fun h => (f16 (set_or h (by decide))), fun h => (f18 (set_or h (by decide))), fun h => (f19 (set_or h (by decide))), fun h => (f20 (set_or h (by decide))), fun h => by obtain ⟨aq, pq, e, hq⟩ := (f21 (set_or h (by decide))); exact ⟨aq, pq, e, fun n => ((hq (set_same n)).new hb).top⟩, fun h => (f22 (set_or h (by decide))), fun h => (f23 (set_or h (by decide))).imp fun q hq => ⟨hq.1, fun n => ⟨(hq.2 (set_same n)).1, (hq.2 (set_same n)).2.new hb⟩⟩, fun h => by obtain ⟨ao, po, e, hq⟩ := (f24 (set_or h (by decide))); exact ⟨ao, po, e, (hq.new hb).top⟩, fun h => (f25 (set_or h (by decide))), last_kept hr hl l26 (by decide), fun h => getD_set_true (l21 (set_or h (by decide))), fun h => ⟨getD_set_true (l24 (set_or h (by decide))).1, getD_set_true (l24 (set_or h (by decide))).2.1, getD_set_true (l24 (set_or h (by decide))).2.2⟩, fun h => getD_set_true (c22 (set_or h (by decide))), fun h => getD_set_true (c23 (set_or h (by decide))), fun i hi => getD_set_true (tk i hi)⟩⟩
      | 15, _, hr =>
        have h0 := (ready_new hr hl).1
        rw [tk 15 (by decide)] at h0
        cases h0
      | 16, _, hr =>
        have l2 := RowIs.cell (j := 2) hRr rfl
        have ll := hRr.lt
        refine wpOp_step (o := _) rfl (fun K hK => ?_)
        go_simp
        refine hK _ _ ?_; clear hK K
        exact ⟨_, _, _, _, _, _, _, _, _, _, _, _, _, _, _, _, _, _, _, rfl, ⟨hB, hRr, hR2, hsz, fun n => ro0 (set_same n), fun h => ro1 (set_or h (by decide)), fun n => n24 (set_same n), fun h => (f1 (set_or h (by decide))), fun h => (f3 (set_or h (by decide))), fun h => (f5 (set_or h (by decide))), fun h => (f6 (set_or h (by decide))), fun h => (f7 (set_or h (by decide))), fun h => (f9 (set_or h (by decide))), fun h => (f11 (set_or h (by decide))), fun h => (f12 (set_or h (by decide))), fun h => (f13 (set_or h (by decide))), fun h => (f14 (set_or h (by decide))).imp fun q hq => ⟨hq.1, fun n => hq.2 (set_same n)⟩, fun _ => rfl, fun h => (f18 (set_or h (by decide))), fun h => (f19 (set_or h (by decide))), fun h => (f20 (set_or h (by decide))), fun h => by obtain ⟨aq, pq, e, hq⟩ := (f21 (set_or h (by decide))); exact ⟨aq, pq, e, fun n => hq (set_same n)⟩, fun h => (f22 (set_or h (by decide))), fun h => (f23 (set_or h (by decide))).imp fun q hq => ⟨hq.1, fun n => hq.2 (set_same n)⟩, fun h => (f24 (set_or h (by decide))), fun h => (f25 (set_or h (by decide))), last_kept hr hl l26 (by decide), fun h => getD_set_true (l21 (set_or h (by decide))), fun h => ⟨getD_set_true (l24 (set_or h (by decide))).1, getD_set_true (l24 (set_or h (by decide))).2.1, getD_set_true (l24 (set_or h (by decide))).2.2⟩, fun h => getD_set_true (c22 (set_or h (by decide))), fun h => getD_set_true (c23 (set_or h (by decide))), fun i hi => getD_set_true (tk i hi)⟩⟩
      | 17, _, hr =>
        have h0 := (ready_new hr hl).1
        rw [tk 17 (by decide)] at h0
        cases h0
      | 18, _, hr =>
        obtain rfl := f16 (ready_waits hr (j := 16) (by kernel_rfl))
        refine wpOp_step (o := _) rfl (fun K hK => ?_)
        go_simp
        refine hK _ _ ?_; clear hK K
        exact ⟨_, _, _, _, _, _, _, _, _, _, _, _, _, _, _, _, _, _, _, rfl, ⟨hB, hRr, hR2, hsz, fun n => ro0 (set_same n), fun h => ro1 (set_or h (by decide)), fun n => n24 (set_same n), fun h => (f1 (set_or h (by decide))), fun h => (f3 (set_or h (by decide))), fun h => (f5 (set_or h (by decide))), fun h => (f6 (set_or h (by decide))), fun h => (f7 (set_or h (by decide))), fun h => (f9 (set_or h (by decide))), fun h => (f11 (set_or h (by decide))), fun h => (f12 (set_or h (by decide))), fun h => (f13 (set_or h (by decide))), fun h => (f14 (set_or h (by decide))).imp fun q hq => ⟨hq.1, fun n => hq.2 (set_same n)⟩, fun h => (f16 (set_or h (by decide))), fun _ => rfl, fun h => (f19 (set_or h (by decide))), fun h => (f20 (set_or h (by decide))), fun h => by obtain ⟨aq, pq, e, hq⟩ := (f21 (set_or h (by decide))); exact ⟨aq, pq, e, fun n => hq (set_same n)⟩, fun h => (f22 (set_or h (by decide))), fun h => (f23 (set_or h (by decide))).imp fun q hq => ⟨hq.1, fun n => hq.2 (set_same n)⟩, fun h => (f24 (set_or h (by decide))), fun h => (f25 (set_or h (by decide))), last_kept hr hl l26 (by decide), fun h => getD_set_true (l21 (set_or h (by decide))), fun h => ⟨getD_set_true (l24 (set_or h (by decide))).1, getD_set_true (l24 (set_or h (by decide))).2.1, getD_set_true (l24 (set_or h (by decide))).2.2⟩, fun h => getD_set_true (c22 (set_or h (by decide))), fun h => getD_set_true (c23 (set_or h (by decide))), fun i hi => getD_set_true (tk i hi)⟩⟩
      | 19, _, hr =>
        obtain rfl := f18 (ready_waits hr (j := 18) (by kernel_rfl))
        refine wpOp_step (o := _) rfl (fun K hK => ?_)
        go_simp
        refine hK _ _ ?_; clear hK K
        exact ⟨_, _, _, _, _, _, _, _, _, _, _, _, _, _, _, _, _, _, _, rfl, ⟨hB, hRr, hR2, hsz, fun n => ro0 (set_same n), fun h => ro1 (set_or h (by decide)), fun n => n24 (set_same n), fun h => (f1 (set_or h (by decide))), fun h => (f3 (set_or h (by decide))), fun h => (f5 (set_or h (by decide))), fun h => (f6 (set_or h (by decide))), fun h => (f7 (set_or h (by decide))), fun h => (f9 (set_or h (by decide))), fun h => (f11 (set_or h (by decide))), fun h => (f12 (set_or h (by decide))), fun h => (f13 (set_or h (by decide))), fun h => (f14 (set_or h (by decide))).imp fun q hq => ⟨hq.1, fun n => hq.2 (set_same n)⟩, fun h => (f16 (set_or h (by decide))), fun h => (f18 (set_or h (by decide))), fun _ => rfl, fun h => (f20 (set_or h (by decide))), fun h => by obtain ⟨aq, pq, e, hq⟩ := (f21 (set_or h (by decide))); exact ⟨aq, pq, e, fun n => hq (set_same n)⟩, fun h => (f22 (set_or h (by decide))), fun h => (f23 (set_or h (by decide))).imp fun q hq => ⟨hq.1, fun n => hq.2 (set_same n)⟩, fun h => (f24 (set_or h (by decide))), fun h => (f25 (set_or h (by decide))), last_kept hr hl l26 (by decide), fun h => getD_set_true (l21 (set_or h (by decide))), fun h => ⟨getD_set_true (l24 (set_or h (by decide))).1, getD_set_true (l24 (set_or h (by decide))).2.1, getD_set_true (l24 (set_or h (by decide))).2.2⟩, fun h => getD_set_true (c22 (set_or h (by decide))), fun h => getD_set_true (c23 (set_or h (by decide))), fun i hi => getD_set_true (tk i hi)⟩⟩
      | 20, _, hr =>
        obtain rfl := f19 (ready_waits hr (j := 19) (by kernel_rfl))
        have ce := (hB.cell (p := ⟨b, o + j * 3 + 2, none⟩) hbw).trans c2
        refine wpOp_step (o := _) rfl (fun K hK => ?_)
        go_simp
        refine hK _ _ ?_; clear hK K
        exact ⟨_, _, _, _, _, _, _, _, _, _, _, _, _, _, _, _, _, _, _, rfl, ⟨hB, hRr, hR2, hsz, fun n => ro0 (set_same n), fun h => ro1 (set_or h (by decide)), fun n => n24 (set_same n), fun h => (f1 (set_or h (by decide))), fun h => (f3 (set_or h (by decide))), fun h => (f5 (set_or h (by decide))), fun h => (f6 (set_or h (by decide))), fun h => (f7 (set_or h (by decide))), fun h => (f9 (set_or h (by decide))), fun h => (f11 (set_or h (by decide))), fun h => (f12 (set_or h (by decide))), fun h => (f13 (set_or h (by decide))), fun h => (f14 (set_or h (by decide))).imp fun q hq => ⟨hq.1, fun n => hq.2 (set_same n)⟩, fun h => (f16 (set_or h (by decide))), fun h => (f18 (set_or h (by decide))), fun h => (f19 (set_or h (by decide))), fun _ => rfl, fun h => by obtain ⟨aq, pq, e, hq⟩ := (f21 (set_or h (by decide))); exact ⟨aq, pq, e, fun n => hq (set_same n)⟩, fun h => (f22 (set_or h (by decide))), fun h => (f23 (set_or h (by decide))).imp fun q hq => ⟨hq.1, fun n => hq.2 (set_same n)⟩, fun h => (f24 (set_or h (by decide))), fun h => (f25 (set_or h (by decide))), last_kept hr hl l26 (by decide), fun h => getD_set_true (l21 (set_or h (by decide))), fun h => ⟨getD_set_true (l24 (set_or h (by decide))).1, getD_set_true (l24 (set_or h (by decide))).2.1, getD_set_true (l24 (set_or h (by decide))).2.2⟩, fun h => getD_set_true (c22 (set_or h (by decide))), fun h => getD_set_true (c23 (set_or h (by decide))), fun i hi => getD_set_true (tk i hi)⟩⟩
      | 21, _, hr =>
        obtain ⟨q14, rfl, h14⟩ := f14 (ready_waits hr (j := 14) (by kernel_rfl))
        obtain rfl := f20 (ready_waits hr (j := 20) (by kernel_rfl))
        have hnew := (ready_new hr hl).1
        have hown := h14 hnew
        have hrd := rd_ints (HSZ.out.new (Below.mono hB (Nat.le_refl _)))
        refine wpOp_step (o := _) rfl (fun K hK => ?_)
        refine step_app _ (by rfl) _ _ 33 (by rfl) 2 (.int .i64 0) 1 8 Try.underlying33 (by kernel_rfl) rfl (by decide) U.heap.size _ 0 [] (by rfl) hown _ x.sz.length (iv x.sz) (by rfl) hrd (iv_one _) (by omega) (by decide) hsz ?_
        intro aq pq w' hown' hg hat
        have hlq := (hown.lt q14 rfl).1
        have hb : Below U.heap.size u w' := (Below.refl U.heap.size u).grown hg hsz (fun q hq => by have := (hown.lt q hq).1; omega)
        have N24 : l.getD 24 false = false := by
          cases hh : l.getD 24 false
          · rfl
          · have := (l24 hh).2.1; rw [hnew] at this; cases this
        have N26 := not_last hr hl l26 (show 21 < 26 by decide)
        have hox : OwX intS w' U.heap.size w'.heap.size (.slice aq x.sz.length pq) x.sz := by
          apply ints_ow
          simpa using hown'
        have hlo : w.heap.size + 3 ≤ U.heap.size := hU3
        rw [Nat.zero_add]
        refine hK _ _ ?_; clear hK K
        have hBw : Below w.heap.size w w' := hB.trans (hb.mono (by omega))
        have hRr' : RowIs w' (w.heap.size) 26 [.int .i64 d.turn, .bool d.given, .slice (some ⟨b, o, none⟩) d.ls.length cap] := hRr.kept (hb.block _ (by omega))
        have hR2' : RowIs w' (w.heap.size + 1) 26 [.int .i64 0, .bool false, .slice none 0 0] := hR2.kept (hb.block _ (by omega))
        have hRo' : RowIs w' (w.heap.size + 1 + 1) 26 [.int .i64 d.turn, .bool d.given, .slice va j vp] := (ro0 N26).kept (hb.block _ (by omega))
        have hbU : Below U.heap.size U w' := (n24 N24).trans hb
        exact ⟨_, _, _, _, _, _, _, _, _, _, _, _, _, _, _, _, _, _, _, rfl, ⟨hBw, hRr', hR2', Nat.le_trans hsz hb.size, fun _ => hRo', fun h => absurd (set_or h (by decide)) (by rw [N26]; decide), fun _ => hbU, fun h => (f1 (set_or h (by decide))), fun h => (f3 (set_or h (by decide))), fun h => (f5 (set_or h (by decide))), fun h => (f6 (set_or h (by decide))), fun h => (f7 (set_or h (by decide))), fun h => (f9 (set_or h (by decide))), fun h => (f11 (set_or h (by decide))), fun h => (f12 (set_or h (by decide))), fun h => (f13 (set_or h (by decide))), fun _ => ⟨q14, rfl, fun n => (by rw [set_is (by rw [hl]; exact ready_lt hr)] at n; cases n)⟩, fun h => (f16 (set_or h (by decide))), fun h => (f18 (set_or h (by decide))), fun h => (f19 (set_or h (by decide))), fun h => (f20 (set_or h (by decide))), fun _ => ⟨aq, pq, rfl, fun _ => hox⟩, fun h => absurd (set_or h (by decide)) (by intro c; have := c22 c; rw [hnew] at this; cases this), fun h => absurd (set_or h (by decide)) (by intro c; have := c22 (c23 c); rw [hnew] at this; cases this), fun h => absurd (set_or h (by decide)) (by rw [N24]; decide), fun h => (f25 (set_or h (by decide))), last_kept hr hl l26 (by decide), fun _ => getD_set_true (ready_waits hr (j := 14) (by kernel_rfl)), fun h => absurd (set_or h (by decide)) (by rw [N24]; decide), fun h => getD_set_true (c22 (set_or h (by decide))), fun h => getD_set_true (c23 (set_or h (by decide))), fun i hi => getD_set_true (tk i hi)⟩⟩
      | 22, _, hr =>
        obtain rfl := f7 (ready_waits hr (j := 7) (by kernel_rfl))
        obtain rfl := f13 (ready_waits hr (j := 13) (by kernel_rfl))
        obtain ⟨aq, pq, rfl, hq21⟩ := f21 (ready_waits hr (j := 21) (by kernel_rfl))
        refine wpOp_step (o := _) rfl (fun K hK => ?_)
        go_simp
        refine hK _ _ ?_; clear hK K
        exact ⟨_, _, _, _, _, _, _, _, _, _, _, _, _, _, _, _, _, _, _, rfl, ⟨hB, hRr, hR2, hsz, fun n => ro0 (set_same n), fun h => ro1 (set_or h (by decide)), fun n => n24 (set_same n), fun h => (f1 (set_or h (by decide))), fun h => (f3 (set_or h (by decide))), fun h => (f5 (set_or h (by decide))), fun h => (f6 (set_or h (by decide))), fun h => (f7 (set_or h (by decide))), fun h => (f9 (set_or h (by decide))), fun h => (f11 (set_or h (by decide))), fun h => (f12 (set_or h (by decide))), fun h => (f13 (set_or h (by decide))), fun h => (f14 (set_or h (by decide))).imp fun q hq => ⟨hq.1, fun n => hq.2 (set_same n)⟩, fun h => (f16 (set_or h (by decide))), fun h => (f18 (set_or h (by decide))), fun h => (f19 (set_or h (by decide))), fun h => (f20 (set_or h (by decide))), fun h => by obtain ⟨aq, pq, e, hq⟩ := (f21 (set_or h (by decide))); exact ⟨aq, pq, e, fun n => hq (set_same n)⟩, fun _ => rfl, fun h => (f23 (set_or h (by decide))).imp fun q hq => ⟨hq.1, fun n => hq.2 (set_same n)⟩, fun h => (f24 (set_or h (by decide))), fun h => (f25 (set_or h (by decide))), last_kept hr hl l26 (by decide), fun h => getD_set_true (l21 (set_or h (by decide))), fun h => ⟨getD_set_true (l24 (set_or h (by decide))).1, getD_set_true (l24 (set_or h (by decide))).2.1, getD_set_true (l24 (set_or h (by decide))).2.2⟩, fun _ => getD_set_true (ready_waits hr (j := 21) (by kernel_rfl)), fun h => getD_set_true (c23 (set_or h (by decide))), fun i hi => getD_set_true (tk i hi)⟩⟩
      | 23, _, hr =>
        obtain rfl := f22 (ready_waits hr (j := 22) (by kernel_rfl))
        have hb : Below u.heap.size u (u.alloc (.cells #[.int .i64 x.wt, .int .i64 x.left, x38] 35)) := (Below.refl _ _).alloc (Nat.le_refl _) _
        obtain ⟨aq, pq, rfl, hq21⟩ := f21 (c22 (ready_waits hr (j := 22) (by kernel_rfl)))
        refine wpOp_step (o := _) rfl (fun K hK => ?_)
        go_simp
        refine hK _ _ ?_; clear hK K
        exact ⟨_, _, _, _, _, _, _, _, _, _, _, _, _, _, _, _, _, _, _, rfl, ⟨bchain hB hb, hRr.new hb, hR2.new hb, Nat.le_trans hsz hb.size, fun n => (ro0 (set_same n)).new hb, fun h => (ro1 (set_or h (by decide))).new hb, fun n => bchain (n24 (set_same n)) hb, fun h => (f1 (set_or h (by decide))), fun h => (f3 (set_or h (by decide))), fun h => (f5 (set_or h (by decide))), fun h => (f6 (set_or h (by decide))), fun h => (f7 (set_or h (by decide))), fun h => (f9 (set_or h (by decide))), fun h => (f11 (set_or h (by decide))), fun h => (f12 (set_or h (by decide))), fun h => (f13 (set_or h (by decide))), fun h => (f14 (set_or h (by decide))).imp fun q hq => ⟨hq.1, fun n => owns_new (hq.2 (set_same n)) hb⟩, fun h => (f16 (set_or h (by decide))), fun h => (f18 (set_or h (by decide))), fun h => (f19 (set_or h (by decide))), fun h => (f20 (set_or h (by decide))), fun h => by obtain ⟨aq, pq, e, hq⟩ := (f21 (set_or h (by decide))); exact ⟨aq, pq, e, fun n => ((hq (set_same n)).new hb).top⟩, fun h => (f22 (set_or h (by decide))), fun _ => ⟨_, rfl, fun _ => ⟨hsz, rowIs_new u _ _⟩⟩, fun h => by obtain ⟨ao, po, e, hq⟩ := (f24 (set_or h (by decide))); exact ⟨ao, po, e, (hq.new hb).top⟩, fun h => (f25 (set_or h (by decide))), last_kept hr hl l26 (by decide), fun h => getD_set_true (l21 (set_or h (by decide))), fun h => ⟨getD_set_true (l24 (set_or h (by decide))).1, getD_set_true (l24 (set_or h (by decide))).2.1, getD_set_true (l24 (set_or h (by decide))).2.2⟩, fun h => getD_set_true (c22 (set_or h (by decide))), fun _ => getD_set_true (ready_waits hr (j := 22) (by kernel_rfl)), fun i hi => getD_set_true (tk i hi)⟩⟩
      | 24, _, hr =>
        have L21 := ready_waits hr (j := 21) (by kernel_rfl)
        have L23 := ready_waits hr (j := 23) (by kernel_rfl)
        obtain rfl := f1 (ready_waits hr (j := 1) (by kernel_rfl))
        obtain ⟨aq, pq, rfl, hq21⟩ := f21 L21
        obtain ⟨q23, rfl, hq23⟩ := f23 L23
        have N24 := (ready_new hr hl).1
        have N26 := not_last hr hl l26 (show 24 < 26 by decide)
        have hoz := hq21 N24
        obtain ⟨hqU, hrow⟩ := hq23 N24
        have hbU := n24 N24
        have hU3' : w.heap.size + 3 ≤ U.heap.size := hU3
        obtain ⟨bs, hOR, hnd, hbb⟩ := HOUT.out.new hbU
        obtain ⟨ts, hL, ho, hE, rfl⟩ := hOR
        have hlt : ts.length = j := by have e := congrArg List.length hL; simp at e; omega
        have hrdl : Reads u (.slice (some ⟨q23, 0, none⟩) 1 1) 1 3 [.int .i64 x.wt, .int .i64 x.left, .slice aq x.sz.length pq] := reads_one hrow
        have hone : ∀ y ∈ [Value.int .i64 x.wt, .int .i64 x.left, .slice aq x.sz.length pq], y.oneCell' = true := by intro y hy; simp at hy; rcases hy with rfl | rfl | rfl <;> rfl
        have hoe : OwE lineS u U.heap.size u.heap.size [.int .i64 x.wt, .int .i64 x.left, .slice aq x.sz.length pq] x := by
          obtain ⟨bz, z1, z2, z3⟩ := hoz
          exact ⟨bz, ⟨_, _, rfl, z1, rfl⟩, z2, z3⟩
        refine wpOp_step (o := _) rfl (fun K hK => ?_)
        refine step_app _ (by rfl) _ _ 24 (by rfl) 35 (.agg #[.int .i64 0, .int .i64 0, .slice none 0 0]) 3 40 Try.underlying24 (by kernel_rfl) rfl (by decide) 0 _ j _ (by rfl) (hlt ▸ ho) _ 1 _ (by rfl) hrdl hone (by simp; omega) (by decide) (Nat.zero_le _) ?_
        intro ao po w' hown' hg hat
        have hox : OwX lineS w' (w.heap.size + 3) w'.heap.size (.slice ao (j + 1) po) (d.ls.take j ++ [x]) := OwX.app (mid := U.heap.size) (hi := u.heap.size) hL ho hE hnd (fun y hy => by have := hbb y hy; omega) hsz (by omega) hoe (by omega) (by rw [hlt]; exact hown') hg hat
        have hgo : ∀ y, (Value.slice va j vp).ownBlock = some y → (w.heap.size + 3) ≤ y := fun y hy => (hbb y (List.mem_append_left _ (by rw [hy]; simp))).1
        have keep : ∀ y, y < (w.heap.size + 3) → y < u.heap.size → w'.heap[y]? = u.heap[y]? := fun y hy hyu => hg.block y hyu (fun c => by have := hgo y c.symm; omega)
        have hB2 : Below w.heap.size w w' := hB.grown hg (by omega) (fun y hy => by have := hgo y hy; omega)
        have hRr2 : RowIs w' (w.heap.size) 26 [.int .i64 d.turn, .bool d.given, .slice (some ⟨b, o, none⟩) d.ls.length cap] := hRr.kept (keep _ (by omega) hRr.lt)
        have hR22 : RowIs w' (w.heap.size + 1) 26 [.int .i64 0, .bool false, .slice none 0 0] := hR2.kept (keep _ (by omega) hR2.lt)
        have hRo2 : RowIs w' (w.heap.size + 1 + 1) 26 [.int .i64 d.turn, .bool d.given, .slice va j vp] := (ro0 N26).kept (keep _ (by omega) (ro0 N26).lt)
        have hsz2 : U.heap.size ≤ w'.heap.size := Nat.le_trans hsz hg.size
        refine hK _ _ ?_; clear hK K
        exact ⟨_, _, _, _, _, _, _, _, _, _, _, _, _, _, _, _, _, _, _, rfl, ⟨hB2, hRr2, hR22, hsz2, fun n => hRo2, fun h => absurd (set_or h (by decide)) (by rw [N26]; decide), fun n => (by rw [set_is (by rw [hl]; exact ready_lt hr)] at n; cases n), fun h => (f1 (set_or h (by decide))), fun h => (f3 (set_or h (by decide))), fun h => (f5 (set_or h (by decide))), fun h => (f6 (set_or h (by decide))), fun h => (f7 (set_or h (by decide))), fun h => (f9 (set_or h (by decide))), fun h => (f11 (set_or h (by decide))), fun h => (f12 (set_or h (by decide))), fun h => (f13 (set_or h (by decide))), fun h => (f14 (set_or h (by decide))).imp fun q hq => ⟨hq.1, fun n => (by have h2 := (getD_set_true (i := 24) L21); rw [h2] at n; cases n)⟩, fun h => (f16 (set_or h (by decide))), fun h => (f18 (set_or h (by decide))), fun h => (f19 (set_or h (by decide))), fun h => (f20 (set_or h (by decide))), fun h => by obtain ⟨aq, pq, e, hq⟩ := (f21 (set_or h (by decide))); exact ⟨aq, pq, e, fun n => (by have h2 := (set_is (i := 24) (l := l) (by rw [hl]; exact ready_lt hr)); rw [h2] at n; cases n)⟩, fun h => (f22 (set_or h (by decide))), fun h => (f23 (set_or h (by decide))).imp fun q hq => ⟨hq.1, fun n => (by have h2 := (set_is (i := 24) (l := l) (by rw [hl]; exact ready_lt hr)); rw [h2] at n; cases n)⟩, fun _ => ⟨ao, po, rfl, hox⟩, fun h => (f25 (set_or h (by decide))), last_kept hr hl l26 (by decide), fun h => getD_set_true (l21 (set_or h (by decide))), fun _ => ⟨getD_set_true (l21 L21), getD_set_true L21, getD_set_true (ready_waits hr (j := 23) (by kernel_rfl))⟩, fun h => getD_set_true (c22 (set_or h (by decide))), fun h => getD_set_true (c23 (set_or h (by decide))), fun i hi => getD_set_true (tk i hi)⟩⟩
      | 25, _, hr =>
        refine wpOp_step (o := _) rfl (fun K hK => ?_)
        go_simp
        refine hK _ _ ?_; clear hK K
        exact ⟨_, _, _, _, _, _, _, _, _, _, _, _, _, _, _, _, _, _, _, rfl, ⟨hB, hRr, hR2, hsz, fun n => ro0 (set_same n), fun h => ro1 (set_or h (by decide)), fun n => n24 (set_same n), fun h => (f1 (set_or h (by decide))), fun h => (f3 (set_or h (by decide))), fun h => (f5 (set_or h (by decide))), fun h => (f6 (set_or h (by decide))), fun h => (f7 (set_or h (by decide))), fun h => (f9 (set_or h (by decide))), fun h => (f11 (set_or h (by decide))), fun h => (f12 (set_or h (by decide))), fun h => (f13 (set_or h (by decide))), fun h => (f14 (set_or h (by decide))).imp fun q hq => ⟨hq.1, fun n => hq.2 (set_same n)⟩, fun h => (f16 (set_or h (by decide))), fun h => (f18 (set_or h (by decide))), fun h => (f19 (set_or h (by decide))), fun h => (f20 (set_or h (by decide))), fun h => by obtain ⟨aq, pq, e, hq⟩ := (f21 (set_or h (by decide))); exact ⟨aq, pq, e, fun n => hq (set_same n)⟩, fun h => (f22 (set_or h (by decide))), fun h => (f23 (set_or h (by decide))).imp fun q hq => ⟨hq.1, fun n => hq.2 (set_same n)⟩, fun h => (f24 (set_or h (by decide))), fun _ => rfl, last_kept hr hl l26 (by decide), fun h => getD_set_true (l21 (set_or h (by decide))), fun h => ⟨getD_set_true (l24 (set_or h (by decide))).1, getD_set_true (l24 (set_or h (by decide))).2.1, getD_set_true (l24 (set_or h (by decide))).2.2⟩, fun h => getD_set_true (c22 (set_or h (by decide))), fun h => getD_set_true (c23 (set_or h (by decide))), fun i hi => getD_set_true (tk i hi)⟩⟩
      | 26, _, hr =>
        have L24 := ready_waits hr (j := 24) (by kernel_rfl)
        obtain rfl := f25 (ready_waits hr (j := 25) (by kernel_rfl))
        obtain ⟨ao, po, rfl, hox⟩ := f24 L24
        have RL := ro0 (ready_new hr hl).1
        have l2 := RowIs.cell (j := 2) RL rfl
        have l9 := RowIs.frozen RL 2
        have ll := RL.lt
        have hB2 : Below w.heap.size w (u.setCell ⟨w.heap.size + 1 + 1, 2, none⟩ (.slice ao (j + 1) po)) := hB.setCell (p := ⟨w.heap.size + 1 + 1, 2, none⟩) (show w.heap.size ≤ w.heap.size + 1 + 1 by omega) _
        have hRr2 : RowIs (u.setCell ⟨w.heap.size + 1 + 1, 2, none⟩ (.slice ao (j + 1) po)) (w.heap.size) 26 [.int .i64 d.turn, .bool d.given, .slice (some ⟨b, o, none⟩) d.ls.length cap] := hRr.far ⟨w.heap.size + 1 + 1, 2, none⟩ _ (by show w.heap.size + 1 + 1 ≠ w.heap.size; omega)
        have hR22 : RowIs (u.setCell ⟨w.heap.size + 1 + 1, 2, none⟩ (.slice ao (j + 1) po)) (w.heap.size + 1) 26 [.int .i64 0, .bool false, .slice none 0 0] := hR2.far ⟨w.heap.size + 1 + 1, 2, none⟩ _ (by show w.heap.size + 1 + 1 ≠ w.heap.size + 1; omega)
        have hRo2 : RowIs (u.setCell ⟨w.heap.size + 1 + 1, 2, none⟩ (.slice ao (j + 1) po)) (w.heap.size + 1 + 1) 26 [.int .i64 d.turn, .bool d.given, .slice ao (j + 1) po] := RL.set 2 _
        refine wpOp_step (o := _) rfl (fun K hK => ?_)
        go_simp
        refine hK _ _ ?_; clear hK K
        exact ⟨_, _, _, _, _, _, _, _, _, _, _, _, _, _, _, _, _, _, _, rfl, ⟨hB2, hRr2, hR22, by simpa using hsz, fun n => (by rw [set_is (by rw [hl]; exact ready_lt hr)] at n; cases n), fun _ => hRo2, fun n => (by have h2 := ready_waits hr (j := 24) (by kernel_rfl); rw [getD_set_true h2] at n; cases n), fun h => (f1 (set_or h (by decide))), fun h => (f3 (set_or h (by decide))), fun h => (f5 (set_or h (by decide))), fun h => (f6 (set_or h (by decide))), fun h => (f7 (set_or h (by decide))), fun h => (f9 (set_or h (by decide))), fun h => (f11 (set_or h (by decide))), fun h => (f12 (set_or h (by decide))), fun h => (f13 (set_or h (by decide))), fun h => (f14 (set_or h (by decide))).imp fun q hq => ⟨hq.1, fun n => (by have h2 := (getD_set_true (i := 26) (l24 L24).2.1); rw [h2] at n; cases n)⟩, fun h => (f16 (set_or h (by decide))), fun h => (f18 (set_or h (by decide))), fun h => (f19 (set_or h (by decide))), fun h => (f20 (set_or h (by decide))), fun h => by obtain ⟨aq, pq, e, hq⟩ := (f21 (set_or h (by decide))); exact ⟨aq, pq, e, fun n => (by have h2 := (getD_set_true (i := 26) L24); rw [h2] at n; cases n)⟩, fun h => (f22 (set_or h (by decide))), fun h => (f23 (set_or h (by decide))).imp fun q hq => ⟨hq.1, fun n => (by have h2 := (getD_set_true (i := 26) L24); rw [h2] at n; cases n)⟩, fun h => ⟨ao, po, rfl, by have := hox.far ⟨w.heap.size + 1 + 1, 2, none⟩ (.slice ao (j + 1) po) (.inl (by show w.heap.size + 1 + 1 < (w.heap.size + 3); omega)); simpa using this⟩, fun h => (f25 (set_or h (by decide))), last_comes hr (by kernel_rfl), fun h => getD_set_true (l21 (set_or h (by decide))), fun h => ⟨getD_set_true (l24 (set_or h (by decide))).1, getD_set_true (l24 (set_or h (by decide))).2.1, getD_set_true (l24 (set_or h (by decide))).2.2⟩, fun h => getD_set_true (c22 (set_or h (by decide))), fun h => getD_set_true (c23 (set_or h (by decide))), fun i hi => getD_set_true (tk i hi)⟩⟩
      | n + 27, h, _ => exact absurd h (by show ¬ n + 27 < 27; omega)
end Go.Proofs.Yteojibdnphaooaa
