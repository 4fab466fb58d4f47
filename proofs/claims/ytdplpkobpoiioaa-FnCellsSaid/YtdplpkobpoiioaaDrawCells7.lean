/- What FnCells draws for Through. -/
import Derived.Test.YtdplpkobpoiioaaDrawCells6


namespace Go.Proofs.Ytdplpkobpoiioaa
open Go.RowKit
set_option linter.unusedSimpArgs false
set_option linter.unusedVariables false

set_option maxHeartbeats 4000000 in
theorem drawThrough (a : Option Addr) (len cap : Nat) (w : World) (hl : len ≤ 4096) (hcode : CodeAt w a len w.heap.size) :
    Calls Try.prog 15 #[.slice a len cap] w fun e w' => ∃ m : Mm, e = .returned (.agg #[m.cv, m.tv]) ∧ ReadM w' m ∧ Below w.heap.size w w' := by
  go_enter Try.func15, Try.ntmps15
  go_wp2_with fail
  refine (new1 a len cap _ hl (hcode.behind ((Below.refl _ _).alloc (Nat.le_refl _) _))).mono ?_; rintro x w1 ⟨g, rfl, hg, hc1, hb1⟩
  simp only [World.size_alloc] at hg hc1 hb1
  have hs1 := hb1.size
  simp only [World.size_alloc] at hs1
  have hg1 := hc1.lt
  go_wp2_with fail
  refine (drawAny g _ _ hc1).mono ?_; rintro x w2 ⟨m, rfl, hR, hO, hpl, hc2, hm2⟩
  have hs2 := hm2.size
  have hB1 : Below w.heap.size w w1 := ((Below.refl w.heap.size w).alloc (Nat.le_refl _) _).trans (hb1.mono (by omega))
  have hB2 : Below w.heap.size w w2 := hB1.trans (hm2.below (by omega) hB1.size)
  have rr : ∀ o, w2.cell? ⟨w.heap.size, o, none⟩ = (w.alloc (.cells #[.slice none 0 0, .slice none 0 0] 27)).cell? ⟨w.heap.size, o, none⟩ := fun o => (hm2.cell w.heap.size o (by omega) (by omega)).trans (hb1.cell (p := ⟨w.heap.size, o, none⟩) (by simp))
  have rff : ∀ o, w2.frozen? ⟨w.heap.size, o, none⟩ = (w.alloc (.cells #[.slice none 0 0, .slice none 0 0] 27)).frozen? ⟨w.heap.size, o, none⟩ := fun o => (hm2.frozen w.heap.size o (by omega) (by omega)).trans (hb1.frozen (p := ⟨w.heap.size, o, none⟩) (by simp))
  have r0 : w2.cell? ⟨w.heap.size, 0, none⟩ = some (.slice none 0 0) := by rw [rr]; simp [go_sem]
  have r1 : w2.cell? ⟨w.heap.size, 1, none⟩ = some (.slice none 0 0) := by rw [rr]; simp [go_sem]
  have rf0 : w2.frozen? ⟨w.heap.size, 0, none⟩ = false := by rw [rff]; simp [go_sem]
  have rf1 : w2.frozen? ⟨w.heap.size, 1, none⟩ = false := by rw [rff]; simp [go_sem]
  obtain ⟨cv, Cc, tvv, T⟩ := m
  obtain ⟨ad1, cap1, hcv, _⟩ := hR.cel.2
  obtain ⟨ad2, cap2, htv, _⟩ := hR.ths.row.2
  simp only at hcv htv
  subst hcv htv
  have HR := hide hR; have HPL := hide hpl; have HB2 := hide hB2; have HOO := hide hO
  clear rr rff hR hO hpl hb1 hm2 hc1 hcode
  have hb3 : Below w2.heap.size w2 (w2.alloc (.cells #[.slice ad1 Cc.length cap1, .slice ad2 T.length cap2] 27)) := (Below.refl _ _).alloc (Nat.le_refl _) _
  have b0 : (w2.alloc (.cells #[.slice ad1 Cc.length cap1, .slice ad2 T.length cap2] 27)).cell? ⟨w2.heap.size, 0, none⟩ = some (.slice ad1 Cc.length cap1) := by simp [go_sem]
  have b1 : (w2.alloc (.cells #[.slice ad1 Cc.length cap1, .slice ad2 T.length cap2] 27)).cell? ⟨w2.heap.size, 1, none⟩ = some (.slice ad2 T.length cap2) := by simp [go_sem]
  have hc3 : Cur (w2.alloc (.cells #[.slice ad1 Cc.length cap1, .slice ad2 T.length cap2] 27)) g (w.heap.size + 1) := hc2.alloc _
  have hs3 : (w2.alloc (.cells #[.slice ad1 Cc.length cap1, .slice ad2 T.length cap2] 27)).heap.size = w2.heap.size + 1 := by simp
  go_wp2_with fail
  generalize (w2.alloc (.cells #[.slice ad1 Cc.length cap1, .slice ad2 T.length cap2] 27)) = w3 at *
  refine (once1 g _ 2 _ hc3 (by omega)).mono ?_; rintro x w4 ⟨v, rfl, hc4, hm4⟩
  have hs4 := hm4.size
  have CK : ∀ (b o : Nat), b < w3.heap.size → b ≠ g → w4.cell? ⟨b, o, none⟩ = w3.cell? ⟨b, o, none⟩ := fun b o h1 h2 => hm4.cell b o h1 h2
  have FK : ∀ (b o : Nat), b < w3.heap.size → b ≠ g → w4.frozen? ⟨b, o, none⟩ = w3.frozen? ⟨b, o, none⟩ := fun b o h1 h2 => hm4.frozen b o h1 h2
  have c0 := (CK w2.heap.size 0 (by omega) (by omega)).trans b0
  have c1 := (CK w2.heap.size 1 (by omega) (by omega)).trans b1
  have y0 := (CK w.heap.size 0 (by omega) (by omega)).trans ((hb3.cell (p := ⟨w.heap.size, 0, none⟩) (by show w.heap.size < w2.heap.size; omega)).trans r0)
  have y1 := (CK w.heap.size 1 (by omega) (by omega)).trans ((hb3.cell (p := ⟨w.heap.size, 1, none⟩) (by show w.heap.size < w2.heap.size; omega)).trans r1)
  have yf0 := (FK w.heap.size 0 (by omega) (by omega)).trans ((hb3.frozen (p := ⟨w.heap.size, 0, none⟩) (by show w.heap.size < w2.heap.size; omega)).trans rf0)
  have yf1 := (FK w.heap.size 1 (by omega) (by omega)).trans ((hb3.frozen (p := ⟨w.heap.size, 1, none⟩) (by show w.heap.size < w2.heap.size; omega)).trans rf1)
  have HR4 := hide ((HR.out.new hb3).turn hm4.turn (fun u hu k hk => .inr (by have := HPL.out u hu k hk; omega)))
  have HB4 : Hid (Below w.heap.size w w4) := (HB2.out.trans (hb3.mono (by omega))).trans (hm4.below (by omega) (by omega))
  have HO4 : Hid (okM ⟨Cc, T.map Th.d⟩ = true → OwnM w4 w1.heap.size w2.heap.size ⟨.slice ad1 Cc.length cap1, Cc, .slice ad2 T.length cap2, T⟩) := fun hk => ((HOO.out hk).new hb3).moves hm4 (by omega)
  clear CK FK r0 r1 rf0 rf1 b0 b1 hc3 hc2 hc4 hm4 hb3 HR HOO
  -- the answer out of a world in which the Memory m' lies in its box
  have DONE : Hid (∀ (wx : World) (m' : Mm), ReadM wx m' → (∀ u ∈ m'.cv :: m'.tv :: m'.ths.map Th.sv, ∀ k, u.ownBlock = some k → w.heap.size + 1 ≤ k) → Below w.heap.size w wx → ∀ W : World, Turn w.heap.size (w.heap.size + 1) wx W → w.heap.size ≤ wx.heap.size → ReadM W m' ∧ Below w.heap.size w W) := fun wx m' h1 h2 h3 W h4 h5 => ⟨h1.turn h4 (fun u hu k hk => .inr (h2 u hu k hk)), h3.trans (h4.below (Nat.le_refl _) h5)⟩
  cases v
  · have hT5 : Turn w.heap.size (w.heap.size + 1) w4 ((w4.setCell ⟨w.heap.size, 0, none⟩ (.slice ad1 Cc.length cap1)).setCell ⟨w.heap.size, 1, none⟩ (.slice ad2 T.length cap2)) := ((Turn.refl _ _ _).setCell _ (.inl (by simp))).setCell _ (.inl (by simp))
    have HF := hide (DONE.out w4 _ HR4.out (fun u hu k hk => by have := HPL.out u hu k hk; omega) HB4.out _ hT5 (by omega))
    clear hT5
    go_wp2_with fail
    refine bodyPost_ret (v := .agg #[.slice ad1 Cc.length cap1, .slice ad2 T.length cap2]) (by simp [results, Try.results15, go_sem, *]) rfl ?_
    exact ⟨⟨_, _, _, _⟩, rfl, HF.out.1, HF.out.2⟩
  · go_wp2_with fail
    refine (specOkM _ _ Cc T _ HR4.out.cel HR4.out.ths).mono ?_; rintro x w5 ⟨rfl, hb5⟩
    have hs5 := hb5.size
    have e0 := (hb5.cell (p := ⟨w2.heap.size, 0, none⟩) (by show w2.heap.size < w4.heap.size; omega)).trans c0
    have e1 := (hb5.cell (p := ⟨w2.heap.size, 1, none⟩) (by show w2.heap.size < w4.heap.size; omega)).trans c1
    have z0 := (hb5.cell (p := ⟨w.heap.size, 0, none⟩) (by show w.heap.size < w4.heap.size; omega)).trans y0
    have z1 := (hb5.cell (p := ⟨w.heap.size, 1, none⟩) (by show w.heap.size < w4.heap.size; omega)).trans y1
    have zf0 := (hb5.frozen (p := ⟨w.heap.size, 0, none⟩) (by show w.heap.size < w4.heap.size; omega)).trans yf0
    have zf1 := (hb5.frozen (p := ⟨w.heap.size, 1, none⟩) (by show w.heap.size < w4.heap.size; omega)).trans yf1
    have HR5 := hide (HR4.out.new hb5)
    have HB5 : Hid (Below w.heap.size w w5) := HB4.out.trans (hb5.mono (by omega))
    have HO5 : Hid (okM ⟨Cc, T.map Th.d⟩ = true → OwnM w5 w1.heap.size w2.heap.size ⟨.slice ad1 Cc.length cap1, Cc, .slice ad2 T.length cap2, T⟩) := fun hk => (HO4.out hk).new hb5
    clear c0 c1 y0 y1 yf0 yf1 HR4 HB4 HO4 hb5
    cases hok : okM ⟨Cc, T.map Th.d⟩
    · have hT5 : Turn w.heap.size (w.heap.size + 1) w5 ((w5.setCell ⟨w.heap.size, 0, none⟩ (.slice ad1 Cc.length cap1)).setCell ⟨w.heap.size, 1, none⟩ (.slice ad2 T.length cap2)) := ((Turn.refl _ _ _).setCell _ (.inl (by simp))).setCell _ (.inl (by simp))
      have HF := hide (DONE.out w5 _ HR5.out (fun u hu k hk => by have := HPL.out u hu k hk; omega) HB5.out _ hT5 (by omega))
      clear hT5
      go_wp2_with fail
      refine bodyPost_ret (v := .agg #[.slice ad1 Cc.length cap1, .slice ad2 T.length cap2]) (by simp [results, Try.results15, go_sem, *]) rfl ?_
      exact ⟨⟨_, _, _, _⟩, rfl, HF.out.1, HF.out.2⟩
    · have HO6 := hide (HO5.out hok)
      have HOK := hide hok
      clear hok HO5
      go_wp2_with fail
      go_loopw [5] (fun i wr => ∃ (k : Nat) (m' : Mm), i = .int .i64 k ∧ k ≤ 6 ∧ okM m'.d = true ∧ m'.cv = .slice ad1 Cc.length cap1 ∧ m'.tv = .slice ad2 T.length cap2 ∧ OwnM wr w1.heap.size w2.heap.size m' ∧ Turn w1.heap.size w2.heap.size w5 wr) (fun i _ => 6 - (intOf i).toNat)
      case atStart => exact ⟨0, ⟨.slice ad1 Cc.length cap1, Cc, .slice ad2 T.length cap2, T⟩, rfl, by omega, HOK.out, rfl, rfl, HO6.out, Turn.refl _ _ _⟩
      case round =>
        obtain ⟨k, m', rfl, hk, hok', hcv', htv', hO', hT'⟩ := hrel
        obtain ⟨wo, rfl⟩ : ∃ x : World, x = wr := ⟨_, rfl⟩
        by_cases hk6 : k < 6
        · have hkI : (k : Int) < 6 := by omega
          have H0 := hide hok'; have H1 := hide hcv'; have H2 := hide htv'; have H3 := hide hO'; have H4 := hide hT'
          clear hok' hcv' htv' hO' hT'
          go_wp2_with fail
          go_loopw [6] (fun i wr => ∃ (j : Nat) (m' : Mm), i = .int .i64 j ∧ j ≤ 20 ∧ okM m'.d = true ∧ m'.cv = .slice ad1 Cc.length cap1 ∧ m'.tv = .slice ad2 T.length cap2 ∧ OwnM wr w1.heap.size w2.heap.size m' ∧ Turn w1.heap.size w2.heap.size w5 wr) (fun i _ => 20 - (intOf i).toNat)
          case atStart => exact ⟨0, m', rfl, by omega, H0.out, H1.out, H2.out, H3.out, H4.out⟩
          case round =>
            clear H0 H1 H2 H3 H4
            obtain ⟨j, m', rfl, hj, hok', hcv', htv', hO', hT'⟩ := hrel
            by_cases hj20 : j < 20
            · have hjI : (j : Int) < 20 := by omega
              have hsT := hT'.size
              have q0 := (hT'.cell w2.heap.size 0 (by omega) (.inr (Nat.le_refl _))).trans e0
              have q1 := (hT'.cell w2.heap.size 1 (by omega) (.inr (Nat.le_refl _))).trans e1
              rw [← hcv'] at q0
              rw [← htv'] at q1
              have H0 := hide hok'; have H1 := hide hcv'; have H2 := hide htv'; have H3 := hide hO'; have H4 := hide hT'
              have Q0 := hide q0; have Q1 := hide q1
              clear hok' hcv' htv' hO' hT' q0 q1
              go_wp2_with fail
              refine (specPick m' w1.heap.size w2.heap.size k w2.heap.size wr H3.out (by omega) H0.out Q0.out Q1.out (by omega) (.inr (Nat.le_refl _))).mono ?_
              rintro e w6 ⟨m'', rfl, hd'', hcv'', htv'', hO'', hT''⟩
              have G0 : Hid (okM m''.d = true) := by show _ = _; rw [hd'']; exact pickR_ok H0.out _
              have G1 : Hid (m''.cv = .slice ad1 Cc.length cap1) := hcv''.trans H1.out
              have G2 : Hid (m''.tv = .slice ad2 T.length cap2) := htv''.trans H2.out
              have G3 := hide hO''
              have G4 := hide (H4.out.trans hT'')
              clear hd'' hcv'' htv'' hO'' hT'' H0 H1 H2 H3 H4 Q0 Q1
              go_wp2_with fail
              go_roundw
              case rel => exact ⟨j + 1, m'', by go_num, by omega, G0.out, G1.out, G2.out, G3.out, G4.out⟩
              case measure => simp [intOf]; omega
            · have hjI : ¬ (j : Int) < 20 := by omega
              have H0 := hide hok'; have H1 := hide hcv'; have H2 := hide htv'; have H3 := hide hO'; have H4 := hide hT'
              clear hok' hcv' htv' hO' hT'
              go_wp2_with fail
              go_roundw
              case rel => exact ⟨k + 1, m', by go_num, by omega, H0.out, H1.out, H2.out, H3.out, H4.out⟩
              case measure => simp [intOf]; omega
        · have hkI : ¬ (k : Int) < 6 := by omega
          have hsT := hT'.size
          have q0 := (hT'.cell w2.heap.size 0 (by omega) (.inr (Nat.le_refl _))).trans e0
          have q1 := (hT'.cell w2.heap.size 1 (by omega) (.inr (Nat.le_refl _))).trans e1
          have p0 := (hT'.cell w.heap.size 0 (by omega) (.inl (by omega))).trans z0
          have p1 := (hT'.cell w.heap.size 1 (by omega) (.inl (by omega))).trans z1
          have pf0 := (hT'.frozen w.heap.size 0 (by omega) (.inl (by omega))).trans zf0
          have pf1 := (hT'.frozen w.heap.size 1 (by omega) (.inl (by omega))).trans zf1
          have hT5 : Turn w.heap.size (w.heap.size + 1) wo ((wo.setCell ⟨w.heap.size, 0, none⟩ (.slice ad1 Cc.length cap1)).setCell ⟨w.heap.size, 1, none⟩ (.slice ad2 T.length cap2)) := ((Turn.refl _ _ _).setCell _ (.inl (by simp))).setCell _ (.inl (by simp))
          have HBo : Below w.heap.size w wo := HB5.out.trans (hT'.below (by omega) (by omega))
          have HF := hide (DONE.out wo m' hO'.read (fun u hu q hq => by have := hO'.places u hu q hq; omega) HBo _ hT5 (by omega))
          obtain ⟨cvx, Cx, tvx, Tx⟩ := m'
          simp only at hcv' htv'
          subst hcv' htv'
          clear hT5 hT' hO' HBo hok'
          go_wp2_with fail
          refine bodyPost_ret (v := .agg #[.slice ad1 Cc.length cap1, .slice ad2 T.length cap2]) (by simp [results, Try.results15, go_sem, *]) rfl ?_
          exact ⟨⟨_, _, _, _⟩, rfl, HF.out.1, HF.out.2⟩
end Go.Proofs.Ytdplpkobpoiioaa
