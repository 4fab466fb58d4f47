/- A Frame that is drawn: of what was there the cursor alone has moved. -/
import Derived.Test.YtelcnojmfkoboaaDoorFrShow2
import Derived.Test.YtelcnojmfkoboaaDoorCurTurn
import Derived.Test.YtelcnojmfkoboaaDoorRowIs
import Derived.Test.YtelcnojmfkoboaaDoorMade
import Derived.Test.YtelcnojmfkoboaaDoorFrameMath
import Derived.Test.YtelcnojmfkoboaaDoorRegionInv
import Derived.Deep.RegionHeld3
import Derived.Deep.DeepCutAuto

namespace Go.Proofs.YtelcnojmfkoboaaDoor
open Go.RowKit
set_option maxRecDepth 100000
set_option linter.unusedSimpArgs false
set_option linter.unusedVariables false

/-- A row of noughts, made. -/
theorem made_bytes (R : Nat) (h : R ≤ 1048576) : ∃ M : Array Value, M.size = R ∧ (∀ u ∈ M.toList, ByteVal u) ∧ ∀ X : World, (Instr.makeSlice 22 (.int .i64 (R : Int)) (.int .i64 (R : Int))).run Tryd.prog X = .ok (.slice (some ⟨X.heap.size, 0, none⟩) R R) (X.alloc (.cells M 5)) := by
  obtain ⟨i0, hi, hz0, hz1, hz2⟩ := info_parts (P := Tryd.prog) (e := 5) (z := .int .u8 0) (size := 1) (bytes := 1) (by kernel_rfl)
  refine ⟨madeCells (Value.int .u8 0).cells (R * 1), by rw [size_madeCells]; omega, ?_, fun X => ?_⟩
  · intro u hu
    have : u = .int .u8 0 := by
      simp only [madeCells, Value.cells] at hu
      simp at hu
      obtain ⟨j, _, hj⟩ := hu
      simp [Nat.mod_one] at hj
      exact hj.symm
    exact ⟨0, this, by omega, by omega⟩
  · have h := run_make (P := Tryd.prog) X 22 5 i0 (.int .u8 0) Tryd.underlying22 hi hz0 .i64 .i64 (R : Int) (R : Int) (by omega) (by omega) (by rw [hz2]; omega) (by omega)
    rw [hz1] at h
    simpa using h

set_option maxHeartbeats 4000000 in
theorem draw7 (g B : Nat) (w : World) (hc : Cur w g B) :
    Calls Tryd.prog 31 #[.pointer (some ⟨g, 0, none⟩)] w fun e w' => ∃ f : Fr, f.b.size ≤ 20 ∧ e = .returned (.agg #[.int .i64 f.k, .int .i64 f.fl, .int .i64 f.st, .string f.b]) ∧ Cur w' g B ∧ Moves g w w' := by
  have hgw := hc.lt
  go_enter Tryd.func31, Tryd.ntmps31
  go_wp2_with fail
  have R2 : RowIs (w.alloc (.cells #[.int .i64 0, .int .i64 0, .int .i64 0, .string ⟨#[]⟩] 29)) w.heap.size 29 [.int .i64 0, .int .i64 0, .int .i64 0, .string ⟨#[]⟩] := rowIs_new w _ _
  have hm := (Moves.refl g w).alloc (.cells #[.int .i64 0, .int .i64 0, .int .i64 0, .string ⟨#[]⟩] 29)
  refine (below1 g B 7 _ (hc.alloc _) (by omega)).mono ?_; rintro e w1 ⟨x, x0, x1, x2, rfl, hc1, hm1⟩
  have x7 := x1 (by omega)
  replace R2 := R2.moves hm1 (by omega)
  replace hm := hm.trans hm1
  replace hc := hc1
  clear hc1 hm1 x1 x2
  have hszm := hm.size
  have hzw := R2.lt
  have hx : x = 0 ∨ x = 1 ∨ x = 2 ∨ x = 3 ∨ x = 4 ∨ x = 5 ∨ x = 6 := by omega
  rcases hx with rfl | rfl | rfl | rfl | rfl | rfl | rfl
  · skip
    go_wp2_with fail
    obtain ⟨V, hV⟩ : ∃ V, w1.alloc (.cells #[.int .i64 1, .int .i64 0, .int .i64 0, .string ⟨#[]⟩] 29) = V := ⟨_, rfl⟩
    have RB : RowIs V w1.heap.size 29 [.int .i64 1, .int .i64 0, .int .i64 0, .string ⟨#[]⟩] := by rw [← hV]; exact rowIs_new w1 _ _
    replace R2 : RowIs V w.heap.size 29 [.int .i64 0, .int .i64 0, .int .i64 0, .string ⟨#[]⟩] := by rw [← hV]; exact R2.alloc _
    replace hm : Moves g w V := by rw [← hV]; exact hm.alloc _
    replace hc : Cur V g B := by rw [← hV]; exact hc.alloc _
    rw [hV]
    clear hV
    obtain ⟨b, hb⟩ : ∃ b, b = w1.heap.size := ⟨_, rfl⟩
    rw [← hb] at RB ⊢
    have hbw : w.heap.size < b := by omega
    have hbg : b ≠ g := by omega
    clear hb
    have y0 := RowIs.cell (j := 0) RB rfl; have y1 := RowIs.cell (j := 1) RB rfl; have y2 := RowIs.cell (j := 2) RB rfl; have y3 := RowIs.cell (j := 3) RB rfl; have y9 := fun j => RowIs.frozen RB j
    have ylt := RB.lt
    refine (below1 g B 4 _ hc (by omega)).mono ?_; rintro e w2 ⟨i, i0, i1, i2, rfl, hcx, hmx⟩
    have i4 := i1 (by omega)
    clear i1 i2
    replace RB : RowIs w2 b 29 [.int .i64 1, .int .i64 0, .int .i64 0, .string ⟨#[]⟩] := RB.moves hmx hbg
    replace R2 : RowIs w2 w.heap.size 29 [.int .i64 0, .int .i64 0, .int .i64 0, .string ⟨#[]⟩] := R2.moves hmx (by omega)
    replace hm := hm.trans hmx
    replace hc := hcx
    clear hmx y0 y1 y2 y3 y9 ylt hcx
    have y0 := RowIs.cell (j := 0) RB rfl; have y1 := RowIs.cell (j := 1) RB rfl; have y2 := RowIs.cell (j := 2) RB rfl; have y3 := RowIs.cell (j := 3) RB rfl; have y9 := fun j => RowIs.frozen RB j
    have ylt := RB.lt
    go_wp2_with fail
    refine (below1 g B 2 _ (hc.set ⟨b, 2, none⟩ _ (by show g < b; omega)) (by omega)).mono ?_; rintro e w3 ⟨fl, fl0, fl1, _, rfl, hcx, hmx⟩
    have fl2 := fl1 (by omega)
    clear fl1
    replace RB : RowIs w3 b 29 [.int .i64 1, .int .i64 0, .int .i64 (1 + 2 * i), .string ⟨#[]⟩] := ((RB.set 2 (.int .i64 (1 + 2 * i)))).moves hmx (by omega)
    replace R2 : RowIs w3 w.heap.size 29 [.int .i64 0, .int .i64 0, .int .i64 0, .string ⟨#[]⟩] := ((R2.far ⟨b, 2, none⟩ (.int .i64 (1 + 2 * i)) (by show b ≠ w.heap.size; omega))).moves hmx (by omega)
    replace hm : Moves g w w3 := ((hm.setNew ⟨b, 2, none⟩ (by show w.heap.size ≤ b; omega) (.int .i64 (1 + 2 * i)))).trans hmx
    replace hc := hcx
    clear hmx y0 y1 y2 y3 y9 ylt hcx
    have y0 := RowIs.cell (j := 0) RB rfl; have y1 := RowIs.cell (j := 1) RB rfl; have y2 := RowIs.cell (j := 2) RB rfl; have y3 := RowIs.cell (j := 3) RB rfl; have y9 := fun j => RowIs.frozen RB j
    have ylt := RB.lt
    go_wp2_with fail
    refine (text1 g B 6 _ (hc.set ⟨b, 1, none⟩ _ (by show g < b; omega)) (by omega) (by omega)).mono ?_; rintro e w4 ⟨t, tz, rfl, hcx, hmx⟩
    replace RB : RowIs w4 b 29 [.int .i64 1, .int .i64 fl, .int .i64 (1 + 2 * i), .string ⟨#[]⟩] := ((RB.set 1 (.int .i64 fl))).moves hmx (by omega)
    replace R2 : RowIs w4 w.heap.size 29 [.int .i64 0, .int .i64 0, .int .i64 0, .string ⟨#[]⟩] := ((R2.far ⟨b, 1, none⟩ (.int .i64 fl) (by show b ≠ w.heap.size; omega))).moves hmx (by omega)
    replace hm : Moves g w w4 := ((hm.setNew ⟨b, 1, none⟩ (by show w.heap.size ≤ b; omega) (.int .i64 fl))).trans hmx
    replace hc := hcx
    clear hmx y0 y1 y2 y3 y9 ylt hcx
    have y0 := RowIs.cell (j := 0) RB rfl; have y1 := RowIs.cell (j := 1) RB rfl; have y2 := RowIs.cell (j := 2) RB rfl; have y3 := RowIs.cell (j := 3) RB rfl; have y9 := fun j => RowIs.frozen RB j
    have ylt := RB.lt
    go_wp2_with fail
    refine (once1 g B 3 _ (hc.set ⟨b, 3, none⟩ _ (by show g < b; omega)) (by omega)).mono ?_; rintro e w5 ⟨vb, rfl, hcx, hmx⟩
    replace RB : RowIs w5 b 29 [.int .i64 1, .int .i64 fl, .int .i64 (1 + 2 * i), .string t] := ((RB.set 3 (.string t))).moves hmx (by omega)
    replace R2 : RowIs w5 w.heap.size 29 [.int .i64 0, .int .i64 0, .int .i64 0, .string ⟨#[]⟩] := ((R2.far ⟨b, 3, none⟩ (.string t) (by show b ≠ w.heap.size; omega))).moves hmx (by omega)
    replace hm : Moves g w w5 := ((hm.setNew ⟨b, 3, none⟩ (by show w.heap.size ≤ b; omega) (.string t))).trans hmx
    replace hc := hcx
    clear hmx y0 y1 y2 y3 y9 ylt hcx
    have y0 := RowIs.cell (j := 0) RB rfl; have y1 := RowIs.cell (j := 1) RB rfl; have y2 := RowIs.cell (j := 2) RB rfl; have y3 := RowIs.cell (j := 3) RB rfl; have y9 := fun j => RowIs.frozen RB j
    have ylt := RB.lt
    cases vb
    · skip
      have x0 := RowIs.cell (j := 0) R2 rfl; have x1 := RowIs.cell (j := 1) R2 rfl; have x2 := RowIs.cell (j := 2) R2 rfl; have x3 := RowIs.cell (j := 3) R2 rfl; have x9 := fun j => RowIs.frozen R2 j
      have xlt := R2.lt
      go_wp2_with fail
      refine bodyPost_ret (v := .agg #[.int .i64 1, .int .i64 fl, .int .i64 (1 + 2 * i), .string t]) (by simp [results, Tryd.results31, go_sem, *]) rfl ?_
      exact ⟨⟨1, fl, (1 + 2 * i), t⟩, by show t.size ≤ 20; omega, rfl, by repeat' (first | (with_reducible exact hc) | (with_reducible refine Cur.set ?_ _ _ ?_) | (with_reducible refine Cur.alloc ?_ _) | (with_reducible refine Cur.drewN ?_ _) | (with_reducible refine Cur.drew ?_) | omega | (simp; done) | (simp; omega)), by repeat' (first | (with_reducible exact hm) | (with_reducible refine Moves.setNew ?_ _ ?_ _) | (with_reducible refine Moves.alloc ?_ _) | (with_reducible refine Moves.drewN _ ?_) | (with_reducible refine Moves.drew ?_) | omega | (simp; done) | (simp; omega))⟩
    · skip
      go_wp2_with fail
      refine (below1 g B 4 _ (hc.set ⟨b, 1, none⟩ _ (by show g < b; omega)) (by omega)).mono ?_; rintro e w6 ⟨z, z0, z1, _, rfl, hcx, hmx⟩
      have z4 := z1 (by omega)
      clear z1
      replace RB : RowIs w6 b 29 [.int .i64 1, .int .i64 (fl + 2), .int .i64 (1 + 2 * i), .string t] := ((RB.set 1 (.int .i64 (fl + 2)))).moves hmx (by omega)
      replace R2 : RowIs w6 w.heap.size 29 [.int .i64 0, .int .i64 0, .int .i64 0, .string ⟨#[]⟩] := ((R2.far ⟨b, 1, none⟩ (.int .i64 (fl + 2)) (by show b ≠ w.heap.size; omega))).moves hmx (by omega)
      replace hm : Moves g w w6 := ((hm.setNew ⟨b, 1, none⟩ (by show w.heap.size ≤ b; omega) (.int .i64 (fl + 2)))).trans hmx
      replace hc := hcx
      clear hmx y0 y1 y2 y3 y9 ylt hcx
      have y0 := RowIs.cell (j := 0) RB rfl; have y1 := RowIs.cell (j := 1) RB rfl; have y2 := RowIs.cell (j := 2) RB rfl; have y3 := RowIs.cell (j := 3) RB rfl; have y9 := fun j => RowIs.frozen RB j
      have ylt := RB.lt
      obtain ⟨zn, rfl⟩ : ∃ zn : Nat, z = zn := ⟨z.toNat, by omega⟩
      obtain ⟨M, hM, hMb, hmk⟩ := made_bytes zn (by omega)
      have hzn : zn ≤ 3 := by omega
      have hz255 : ∀ x ∈ [(zn : Int)], 0 ≤ x ∧ x ≤ 255 := by intro x hx; simp at hx; omega
      have wz : IntKind.u8.wrap (zn : Int) = zn := by rw [IntKind.wrap_u8]; omega
      have T1s : (strOf [(zn : Int)]).size = 1 := rfl
      obtain ⟨T1, hT1⟩ : ∃ T, strOf [(zn : Int)] = T := ⟨_, rfl⟩
      rw [hT1] at T1s
      have tz6 : t.size ≤ 6 := by omega
      have s1 : ¬ 9223372036854775807 < T1.size + t.size := by omega
      have HT1s := hide T1s
      have HMb := hide hMb; have HM := hide hM
      clear T1s hMb hM
      go_wp2_with fail
      skip
      refine region_inv (by kernel_rfl) (fun (l : Array Bool) (a : Act) (u : World) => ∃ x34 x35 x36 x37 x38 x39 x40 x41 x42 x43 x44 x45, a = ⟨#[.pointer (some ⟨g, 0, none⟩), undef, .pointer (some ⟨w.heap.size, 0, none⟩), .pointer (some ⟨b, 0, none⟩), .int .i64 (1 + 2 * i), .int .i64 (zn : Int), .pointer (some ⟨g, 0, none⟩), .int .i64 0, .int .i64 1, .agg #[.int .i64 1, .int .i64 0, .int .i64 0, .string ⟨#[]⟩], .pointer (some ⟨g, 0, none⟩), .int .i64 i, .int .i64 (2 * i), .int .i64 (1 + 2 * i), .pointer (some ⟨b, 0, none⟩), .int .i64 1, .bool true, .bool true, .int .i64 (1 + 2 * i), .pointer (some ⟨b, 2, none⟩), .pointer (some ⟨g, 0, none⟩), .int .i64 fl, .pointer (some ⟨b, 1, none⟩), .pointer (some ⟨g, 0, none⟩), .string t, .pointer (some ⟨b, 3, none⟩), .pointer (some ⟨g, 0, none⟩), .bool true, .pointer (some ⟨b, 1, none⟩), .int .i64 fl, .int .i64 (fl + 2), .pointer (some ⟨b, 1, none⟩), .pointer (some ⟨g, 0, none⟩), .int .i64 (zn : Int), x34, x35, x36, x37, x38, x39, x40, x41, x42, x43, x44, x45, undef, undef, undef, undef, undef, undef, undef, undef, undef, undef, undef, undef, undef, undef, undef, undef, undef, undef, undef, undef, undef, undef, undef, undef, undef, undef, undef, undef, undef, undef, undef, undef, undef, undef, undef, undef, undef, undef, undef, undef, undef, undef, undef, undef, undef, undef, undef], []⟩ ∧ Cur u g B ∧ Moves g w u ∧ RowIs u w.heap.size 29 [.int .i64 0, .int .i64 0, .int .i64 0, .string ⟨#[]⟩] ∧ w6.heap.size ≤ u.heap.size ∧ (l.getD 12 false = false → RowIs u b 29 [.int .i64 1, .int .i64 (fl + 2), .int .i64 (1 + 2 * i), .string t]) ∧ (l.getD 12 false = true → ∃ tt : ByteArray, tt.size ≤ 20 ∧ RowIs u b 29 [.int .i64 1, .int .i64 (fl + 2), .int .i64 (1 + 2 * i), .string tt]) ∧ (l.getD 0 false = true → x34 = .int .i64 (zn : Int)) ∧ (l.getD 1 false = true → x35 = .int .u8 (zn : Int)) ∧ (l.getD 2 false = true → ∃ q, x36 = .slice (some ⟨q, 0, none⟩) 1 1 ∧ u.ownsRow w6.heap.size 5 1 (.slice (some ⟨q, 0, none⟩) 1 1) 1 [.int .u8 (zn : Int)]) ∧ (l.getD 3 false = true → x37 = .string T1) ∧ (l.getD 4 false = true → x38 = .pointer (some ⟨b, 3, none⟩)) ∧ (l.getD 5 false = true → x39 = .string t) ∧ (l.getD 6 false = true → x40 = .string (T1 ++ t)) ∧ (l.getD 7 false = true → x41 = .int .i64 (zn : Int)) ∧ (l.getD 8 false = true → ∃ q, x42 = .slice (some ⟨q, 0, none⟩) zn zn ∧ u.ownsRow w6.heap.size 5 1 (.slice (some ⟨q, 0, none⟩) zn zn) zn M.toList) ∧ (l.getD 9 false = true → ∃ t9 : ByteArray, x43 = .string t9 ∧ t9.size ≤ 3) ∧ (l.getD 10 false = true → ∃ tt : ByteArray, x44 = .string tt ∧ tt.size ≤ 20) ∧ (l.getD 11 false = true → x45 = .pointer (some ⟨b, 3, none⟩)) ∧ (l.getD 12 false = true → ∀ j, j < 12 → l.getD j false = true)) ?h0 ?hs ?he
      case h0 => exact ⟨undef, undef, undef, undef, undef, undef, undef, undef, undef, undef, undef, undef, rfl, hc.drew, hm.drew, R2, Nat.le_refl _, fun _ => RB, by simp, by simp, by simp, by simp, by simp, by simp, by simp, by simp, by simp, by simp, by simp, by simp, by simp, by simp⟩
      case he =>
        rintro l a u ⟨x34, x35, x36, x37, x38, x39, x40, x41, x42, x43, x44, x45, rfl, hcu, hmu, r2u, szu, nb, yb, f0, f1, f2, f3, f4, f5, f6, f7, f8, f9, f10, f11, fl12⟩ hl hr
        have hall := all_listed hl (by kernel_rfl) hr
        obtain ⟨tt, htt, RS⟩ := yb (hall 12 (by decide))
        clear f0 f1 f2 f3 f4 f5 f6 f7 f8 f9 f10 f11 fl12 nb yb hall hr y0 y1 y2 y3 y9 ylt
        have y0 := RowIs.cell (j := 0) RS rfl; have y1 := RowIs.cell (j := 1) RS rfl; have y2 := RowIs.cell (j := 2) RS rfl; have y3 := RowIs.cell (j := 3) RS rfl; have y9 := fun j => RowIs.frozen RS j
        have ylt2 := RS.lt
        have x0 := RowIs.cell (j := 0) r2u rfl; have x1 := RowIs.cell (j := 1) r2u rfl; have x2 := RowIs.cell (j := 2) r2u rfl; have x3 := RowIs.cell (j := 3) r2u rfl; have x9 := fun j => RowIs.frozen r2u j
        have xlt := r2u.lt
        go_wp2_with fail
        refine bodyPost_ret (v := .agg #[.int .i64 1, .int .i64 (fl + 2), .int .i64 (1 + 2 * i), .string tt]) (by simp [results, Tryd.results31, go_sem, *]) rfl ?_
        exact ⟨⟨1, fl + 2, 1 + 2 * i, tt⟩, htt, rfl, by repeat' (first | (with_reducible exact hcu) | (with_reducible refine Cur.set ?_ _ _ ?_) | (with_reducible refine Cur.alloc ?_ _) | (with_reducible refine Cur.drewN ?_ _) | (with_reducible refine Cur.drew ?_) | omega | (simp; done) | (simp; omega)), by repeat' (first | (with_reducible exact hmu) | (with_reducible refine Moves.setNew ?_ _ ?_ _) | (with_reducible refine Moves.alloc ?_ _) | (with_reducible refine Moves.drewN _ ?_) | (with_reducible refine Moves.drew ?_) | omega | (simp; done) | (simp; omega))⟩
      case hs =>
        rintro l a u io ⟨x34, x35, x36, x37, x38, x39, x40, x41, x42, x43, x44, x45, rfl, hcu, hmu, r2u, szu, nb, yb, f0, f1, f2, f3, f4, f5, f6, f7, f8, f9, f10, f11, fl12⟩ hl hr
        have hlt := ready_lt hr
        clear y0 y1 y2 y3 y9
        match io, hlt, hr with
        | 0, _, hr =>
          refine wpOp_step (o := _) rfl (fun K hK => ?_)
          go_simp
          refine hK _ _ ?_; clear hK K
          exact ⟨_, _, _, _, _, _, _, _, _, _, _, _, rfl, hcu, hmu, r2u, szu, fun n => (nb (set_same n)), fun h => (yb (set_or h (by decide))).imp fun tt ht => ⟨ht.1, ht.2⟩, fun _ => rfl, fun h => (f1 (set_or h (by decide))), fun h => (f2 (set_or h (by decide))), fun h => (f3 (set_or h (by decide))), fun h => (f4 (set_or h (by decide))), fun h => (f5 (set_or h (by decide))), fun h => (f6 (set_or h (by decide))), fun h => (f7 (set_or h (by decide))), fun h => (f8 (set_or h (by decide))), fun h => (f9 (set_or h (by decide))), fun h => (f10 (set_or h (by decide))), fun h => (f11 (set_or h (by decide))), last_kept hr hl fl12 (by decide)⟩
        | 1, _, hr =>
          obtain rfl := f0 (ready_waits hr (j := 0) (by kernel_rfl))
          refine wpOp_step (o := _) rfl (fun K hK => ?_)
          go_simp
          refine hK _ _ ?_; clear hK K
          exact ⟨_, _, _, _, _, _, _, _, _, _, _, _, rfl, hcu, hmu, r2u, szu, fun n => (nb (set_same n)), fun h => (yb (set_or h (by decide))).imp fun tt ht => ⟨ht.1, ht.2⟩, fun h => (f0 (set_or h (by decide))), fun _ => rfl, fun h => (f2 (set_or h (by decide))), fun h => (f3 (set_or h (by decide))), fun h => (f4 (set_or h (by decide))), fun h => (f5 (set_or h (by decide))), fun h => (f6 (set_or h (by decide))), fun h => (f7 (set_or h (by decide))), fun h => (f8 (set_or h (by decide))), fun h => (f9 (set_or h (by decide))), fun h => (f10 (set_or h (by decide))), fun h => (f11 (set_or h (by decide))), last_kept hr hl fl12 (by decide)⟩
        | 2, _, hr =>
          obtain rfl := f1 (ready_waits hr (j := 1) (by kernel_rfl))
          refine wpOp_step (o := _) rfl (fun K hK => ?_)
          go_simp
          refine hK _ _ ?_; clear hK K
          exact ⟨_, _, _, _, _, _, _, _, _, _, _, _, rfl, hcu.alloc _, hmu.alloc _, r2u.alloc _, (by simp; omega), fun n => (nb (set_same n)).alloc _, fun h => (yb (set_or h (by decide))).imp fun tt ht => ⟨ht.1, ht.2.alloc _⟩, fun h => (f0 (set_or h (by decide))), fun h => (f1 (set_or h (by decide))), fun _ => ⟨_, rfl, owns_base (ownsRow_one u 5 _) (fun q hq => by simp [Value.ownBlock] at hq; omega)⟩, fun h => (f3 (set_or h (by decide))), fun h => (f4 (set_or h (by decide))), fun h => (f5 (set_or h (by decide))), fun h => (f6 (set_or h (by decide))), fun h => (f7 (set_or h (by decide))), fun h => (f8 (set_or h (by decide))).imp fun q hq => ⟨hq.1, hq.2.alloc _⟩, fun h => (f9 (set_or h (by decide))), fun h => (f10 (set_or h (by decide))), fun h => (f11 (set_or h (by decide))), last_kept hr hl fl12 (by decide)⟩
        | 3, _, hr =>
          obtain ⟨q, rfl, hq⟩ := f2 (ready_waits hr (j := 2) (by kernel_rfl))
          have hcv := row_string (l := [(zn : Int)]) hq hz255
          rw [hT1] at hcv
          refine wpOp_step (o := _) rfl (fun K hK => ?_)
          go_simp
          refine hK _ _ ?_; clear hK K
          exact ⟨_, _, _, _, _, _, _, _, _, _, _, _, rfl, hcu, hmu, r2u, szu, fun n => (nb (set_same n)), fun h => (yb (set_or h (by decide))).imp fun tt ht => ⟨ht.1, ht.2⟩, fun h => (f0 (set_or h (by decide))), fun h => (f1 (set_or h (by decide))), fun h => (f2 (set_or h (by decide))), fun _ => rfl, fun h => (f4 (set_or h (by decide))), fun h => (f5 (set_or h (by decide))), fun h => (f6 (set_or h (by decide))), fun h => (f7 (set_or h (by decide))), fun h => (f8 (set_or h (by decide))), fun h => (f9 (set_or h (by decide))), fun h => (f10 (set_or h (by decide))), fun h => (f11 (set_or h (by decide))), last_kept hr hl fl12 (by decide)⟩
        | 4, _, hr =>
          refine wpOp_step (o := _) rfl (fun K hK => ?_)
          go_simp
          refine hK _ _ ?_; clear hK K
          exact ⟨_, _, _, _, _, _, _, _, _, _, _, _, rfl, hcu, hmu, r2u, szu, fun n => (nb (set_same n)), fun h => (yb (set_or h (by decide))).imp fun tt ht => ⟨ht.1, ht.2⟩, fun h => (f0 (set_or h (by decide))), fun h => (f1 (set_or h (by decide))), fun h => (f2 (set_or h (by decide))), fun h => (f3 (set_or h (by decide))), fun _ => rfl, fun h => (f5 (set_or h (by decide))), fun h => (f6 (set_or h (by decide))), fun h => (f7 (set_or h (by decide))), fun h => (f8 (set_or h (by decide))), fun h => (f9 (set_or h (by decide))), fun h => (f10 (set_or h (by decide))), fun h => (f11 (set_or h (by decide))), last_kept hr hl fl12 (by decide)⟩
        | 5, _, hr =>
          obtain rfl := f4 (ready_waits hr (j := 4) (by kernel_rfl))
          have RL := nb (not_last hr hl fl12 (by decide))
          have l3 := RowIs.cell (j := 3) RL rfl
          have llt := RL.lt
          refine wpOp_step (o := _) rfl (fun K hK => ?_)
          go_simp
          refine hK _ _ ?_; clear hK K
          exact ⟨_, _, _, _, _, _, _, _, _, _, _, _, rfl, hcu, hmu, r2u, szu, fun n => (nb (set_same n)), fun h => (yb (set_or h (by decide))).imp fun tt ht => ⟨ht.1, ht.2⟩, fun h => (f0 (set_or h (by decide))), fun h => (f1 (set_or h (by decide))), fun h => (f2 (set_or h (by decide))), fun h => (f3 (set_or h (by decide))), fun h => (f4 (set_or h (by decide))), fun _ => rfl, fun h => (f6 (set_or h (by decide))), fun h => (f7 (set_or h (by decide))), fun h => (f8 (set_or h (by decide))), fun h => (f9 (set_or h (by decide))), fun h => (f10 (set_or h (by decide))), fun h => (f11 (set_or h (by decide))), last_kept hr hl fl12 (by decide)⟩
        | 6, _, hr =>
          obtain rfl := f3 (ready_waits hr (j := 3) (by kernel_rfl))
          obtain rfl := f5 (ready_waits hr (j := 5) (by kernel_rfl))
          refine wpOp_step (o := _) rfl (fun K hK => ?_)
          go_simp
          refine hK _ _ ?_; clear hK K
          exact ⟨_, _, _, _, _, _, _, _, _, _, _, _, rfl, hcu, hmu, r2u, szu, fun n => (nb (set_same n)), fun h => (yb (set_or h (by decide))).imp fun tt ht => ⟨ht.1, ht.2⟩, fun h => (f0 (set_or h (by decide))), fun h => (f1 (set_or h (by decide))), fun h => (f2 (set_or h (by decide))), fun h => (f3 (set_or h (by decide))), fun h => (f4 (set_or h (by decide))), fun h => (f5 (set_or h (by decide))), fun _ => rfl, fun h => (f7 (set_or h (by decide))), fun h => (f8 (set_or h (by decide))), fun h => (f9 (set_or h (by decide))), fun h => (f10 (set_or h (by decide))), fun h => (f11 (set_or h (by decide))), last_kept hr hl fl12 (by decide)⟩
        | 7, _, hr =>
          refine wpOp_step (o := _) rfl (fun K hK => ?_)
          go_simp
          refine hK _ _ ?_; clear hK K
          exact ⟨_, _, _, _, _, _, _, _, _, _, _, _, rfl, hcu, hmu, r2u, szu, fun n => (nb (set_same n)), fun h => (yb (set_or h (by decide))).imp fun tt ht => ⟨ht.1, ht.2⟩, fun h => (f0 (set_or h (by decide))), fun h => (f1 (set_or h (by decide))), fun h => (f2 (set_or h (by decide))), fun h => (f3 (set_or h (by decide))), fun h => (f4 (set_or h (by decide))), fun h => (f5 (set_or h (by decide))), fun h => (f6 (set_or h (by decide))), fun _ => rfl, fun h => (f8 (set_or h (by decide))), fun h => (f9 (set_or h (by decide))), fun h => (f10 (set_or h (by decide))), fun h => (f11 (set_or h (by decide))), last_kept hr hl fl12 (by decide)⟩
        | 8, _, hr =>
          obtain rfl := f7 (ready_waits hr (j := 7) (by kernel_rfl))
          refine wpOp_step (o := _) rfl (fun K hK => ?_)
          go_simp
          refine hK _ _ ?_; clear hK K
          exact ⟨_, _, _, _, _, _, _, _, _, _, _, _, rfl, hcu.alloc _, hmu.alloc _, r2u.alloc _, (by simp; omega), fun n => (nb (set_same n)).alloc _, fun h => (yb (set_or h (by decide))).imp fun tt ht => ⟨ht.1, ht.2.alloc _⟩, fun h => (f0 (set_or h (by decide))), fun h => (f1 (set_or h (by decide))), fun h => (f2 (set_or h (by decide))).imp fun q hq => ⟨hq.1, hq.2.alloc _⟩, fun h => (f3 (set_or h (by decide))), fun h => (f4 (set_or h (by decide))), fun h => (f5 (set_or h (by decide))), fun h => (f6 (set_or h (by decide))), fun h => (f7 (set_or h (by decide))), fun _ => ⟨_, rfl, owns_base (owns_made u M 5 1 zn (by have := HM.out; omega) (by omega)) (fun q hq => by simp [Value.ownBlock] at hq; omega)⟩, fun h => (f9 (set_or h (by decide))), fun h => (f10 (set_or h (by decide))), fun h => (f11 (set_or h (by decide))), last_kept hr hl fl12 (by decide)⟩
        | 9, _, hr =>
          obtain ⟨q, rfl, hq⟩ := f8 (ready_waits hr (j := 8) (by kernel_rfl))
          obtain ⟨t9, t9s, hcv9⟩ := row_to_string hq HMb.out
          refine wpOp_step (o := _) rfl (fun K hK => ?_)
          go_simp
          refine hK _ _ ?_; clear hK K
          exact ⟨_, _, _, _, _, _, _, _, _, _, _, _, rfl, hcu, hmu, r2u, szu, fun n => (nb (set_same n)), fun h => (yb (set_or h (by decide))).imp fun tt ht => ⟨ht.1, ht.2⟩, fun h => (f0 (set_or h (by decide))), fun h => (f1 (set_or h (by decide))), fun h => (f2 (set_or h (by decide))), fun h => (f3 (set_or h (by decide))), fun h => (f4 (set_or h (by decide))), fun h => (f5 (set_or h (by decide))), fun h => (f6 (set_or h (by decide))), fun h => (f7 (set_or h (by decide))), fun h => (f8 (set_or h (by decide))), fun _ => ⟨t9, rfl, by omega⟩, fun h => (f10 (set_or h (by decide))), fun h => (f11 (set_or h (by decide))), last_kept hr hl fl12 (by decide)⟩
        | 10, _, hr =>
          obtain rfl := f6 (ready_waits hr (j := 6) (by kernel_rfl))
          obtain ⟨t9, rfl, t9s⟩ := f9 (ready_waits hr (j := 9) (by kernel_rfl))
          have s2 : ¬ 9223372036854775807 < T1.size + t.size + t9.size := by have := HT1s.out; omega
          have s2b : ¬ 9223372036854775807 < (T1 ++ t).size + t9.size := by rw [ba_size_append]; exact s2
          have hfs : (T1 ++ t ++ t9).size ≤ 20 := by rw [ba_size_append, ba_size_append]; have := HT1s.out; omega
          have HFS := hide hfs
          clear hfs
          refine wpOp_step (o := _) rfl (fun K hK => ?_)
          go_simp
          refine hK _ _ ?_; clear hK K
          exact ⟨_, _, _, _, _, _, _, _, _, _, _, _, rfl, hcu, hmu, r2u, szu, fun n => (nb (set_same n)), fun h => (yb (set_or h (by decide))).imp fun tt ht => ⟨ht.1, ht.2⟩, fun h => (f0 (set_or h (by decide))), fun h => (f1 (set_or h (by decide))), fun h => (f2 (set_or h (by decide))), fun h => (f3 (set_or h (by decide))), fun h => (f4 (set_or h (by decide))), fun h => (f5 (set_or h (by decide))), fun h => (f6 (set_or h (by decide))), fun h => (f7 (set_or h (by decide))), fun h => (f8 (set_or h (by decide))), fun h => (f9 (set_or h (by decide))), fun _ => ⟨_, rfl, HFS.out⟩, fun h => (f11 (set_or h (by decide))), last_kept hr hl fl12 (by decide)⟩
        | 11, _, hr =>
          refine wpOp_step (o := _) rfl (fun K hK => ?_)
          go_simp
          refine hK _ _ ?_; clear hK K
          exact ⟨_, _, _, _, _, _, _, _, _, _, _, _, rfl, hcu, hmu, r2u, szu, fun n => (nb (set_same n)), fun h => (yb (set_or h (by decide))).imp fun tt ht => ⟨ht.1, ht.2⟩, fun h => (f0 (set_or h (by decide))), fun h => (f1 (set_or h (by decide))), fun h => (f2 (set_or h (by decide))), fun h => (f3 (set_or h (by decide))), fun h => (f4 (set_or h (by decide))), fun h => (f5 (set_or h (by decide))), fun h => (f6 (set_or h (by decide))), fun h => (f7 (set_or h (by decide))), fun h => (f8 (set_or h (by decide))), fun h => (f9 (set_or h (by decide))), fun h => (f10 (set_or h (by decide))), fun _ => rfl, last_kept hr hl fl12 (by decide)⟩
        | 12, _, hr =>
          obtain ⟨tt, rfl, htt⟩ := f10 (ready_waits hr (j := 10) (by kernel_rfl))
          obtain rfl := f11 (ready_waits hr (j := 11) (by kernel_rfl))
          have RL := nb (ready_new hr hl).1
          have l3 := RowIs.cell (j := 3) RL rfl
          have l9 := fun j => RowIs.frozen RL j
          have llt := RL.lt
          have RL2 := hide (RL.set 3 (.string tt))
          clear RL
          refine wpOp_step (o := _) rfl (fun K hK => ?_)
          go_simp
          refine hK _ _ ?_; clear hK K
          exact ⟨_, _, _, _, _, _, _, _, _, _, _, _, rfl, hcu.set ⟨b, 3, none⟩ _ (by show g < b; omega), hmu.setNew ⟨b, 3, none⟩ (by show w.heap.size ≤ b; omega) _, r2u.far ⟨b, 3, none⟩ _ (by show b ≠ w.heap.size; omega), (by simp; exact szu), fun n => (by rw [set_is (by rw [hl]; exact ready_lt hr)] at n; cases n), fun _ => ⟨tt, htt, RL2.out⟩, fun h => (f0 (set_or h (by decide))), fun h => (f1 (set_or h (by decide))), fun h => (f2 (set_or h (by decide))).imp fun q hq => ⟨hq.1, owns_far w6.heap.size hq.2 (fun y hy => (hq.2.lt y hy).1) ⟨b, 3, none⟩ _ ylt⟩, fun h => (f3 (set_or h (by decide))), fun h => (f4 (set_or h (by decide))), fun h => (f5 (set_or h (by decide))), fun h => (f6 (set_or h (by decide))), fun h => (f7 (set_or h (by decide))), fun h => (f8 (set_or h (by decide))).imp fun q hq => ⟨hq.1, owns_far w6.heap.size hq.2 (fun y hy => (hq.2.lt y hy).1) ⟨b, 3, none⟩ _ ylt⟩, fun h => (f9 (set_or h (by decide))), fun h => (f10 (set_or h (by decide))), fun h => (f11 (set_or h (by decide))), last_comes hr (by kernel_rfl)⟩
        | n + 13, h, _ => exact absurd h (by show ¬ n + 13 < 13; omega)
  · skip
    go_wp2_with fail
    obtain ⟨V, hV⟩ : ∃ V, w1.alloc (.cells #[.int .i64 2, .int .i64 0, .int .i64 0, .string ⟨#[]⟩] 29) = V := ⟨_, rfl⟩
    have RB : RowIs V w1.heap.size 29 [.int .i64 2, .int .i64 0, .int .i64 0, .string ⟨#[]⟩] := by rw [← hV]; exact rowIs_new w1 _ _
    replace R2 : RowIs V w.heap.size 29 [.int .i64 0, .int .i64 0, .int .i64 0, .string ⟨#[]⟩] := by rw [← hV]; exact R2.alloc _
    replace hm : Moves g w V := by rw [← hV]; exact hm.alloc _
    replace hc : Cur V g B := by rw [← hV]; exact hc.alloc _
    rw [hV]
    clear hV
    obtain ⟨b, hb⟩ : ∃ b, b = w1.heap.size := ⟨_, rfl⟩
    rw [← hb] at RB ⊢
    have hbw : w.heap.size < b := by omega
    have hbg : b ≠ g := by omega
    clear hb
    have y0 := RowIs.cell (j := 0) RB rfl; have y1 := RowIs.cell (j := 1) RB rfl; have y2 := RowIs.cell (j := 2) RB rfl; have y3 := RowIs.cell (j := 3) RB rfl; have y9 := fun j => RowIs.frozen RB j
    have ylt := RB.lt
    refine (below1 g B 4 _ hc (by omega)).mono ?_; rintro e w2 ⟨i, i0, i1, i2, rfl, hcx, hmx⟩
    have i4 := i1 (by omega)
    clear i1 i2
    replace RB : RowIs w2 b 29 [.int .i64 2, .int .i64 0, .int .i64 0, .string ⟨#[]⟩] := RB.moves hmx hbg
    replace R2 : RowIs w2 w.heap.size 29 [.int .i64 0, .int .i64 0, .int .i64 0, .string ⟨#[]⟩] := R2.moves hmx (by omega)
    replace hm := hm.trans hmx
    replace hc := hcx
    clear hmx y0 y1 y2 y3 y9 ylt hcx
    have y0 := RowIs.cell (j := 0) RB rfl; have y1 := RowIs.cell (j := 1) RB rfl; have y2 := RowIs.cell (j := 2) RB rfl; have y3 := RowIs.cell (j := 3) RB rfl; have y9 := fun j => RowIs.frozen RB j
    have ylt := RB.lt
    go_wp2_with fail
    refine (below1 g B 2 _ (hc.set ⟨b, 2, none⟩ _ (by show g < b; omega)) (by omega)).mono ?_; rintro e w3 ⟨fl, fl0, fl1, _, rfl, hcx, hmx⟩
    replace RB : RowIs w3 b 29 [.int .i64 2, .int .i64 0, .int .i64 (1 + 2 * i), .string ⟨#[]⟩] := ((RB.set 2 (.int .i64 (1 + 2 * i)))).moves hmx (by omega)
    replace R2 : RowIs w3 w.heap.size 29 [.int .i64 0, .int .i64 0, .int .i64 0, .string ⟨#[]⟩] := ((R2.far ⟨b, 2, none⟩ (.int .i64 (1 + 2 * i)) (by show b ≠ w.heap.size; omega))).moves hmx (by omega)
    replace hm : Moves g w w3 := ((hm.setNew ⟨b, 2, none⟩ (by show w.heap.size ≤ b; omega) (.int .i64 (1 + 2 * i)))).trans hmx
    replace hc := hcx
    clear hmx y0 y1 y2 y3 y9 ylt hcx
    have y0 := RowIs.cell (j := 0) RB rfl; have y1 := RowIs.cell (j := 1) RB rfl; have y2 := RowIs.cell (j := 2) RB rfl; have y3 := RowIs.cell (j := 3) RB rfl; have y9 := fun j => RowIs.frozen RB j
    have ylt := RB.lt
    go_wp2_with fail
    refine (text1 g B 5 _ (hc.set ⟨b, 1, none⟩ _ (by show g < b; omega)) (by omega) (by omega)).mono ?_; rintro e w4 ⟨t, tz, rfl, hcx, hmx⟩
    replace RB : RowIs w4 b 29 [.int .i64 2, .int .i64 fl, .int .i64 (1 + 2 * i), .string ⟨#[]⟩] := ((RB.set 1 (.int .i64 fl))).moves hmx (by omega)
    replace R2 : RowIs w4 w.heap.size 29 [.int .i64 0, .int .i64 0, .int .i64 0, .string ⟨#[]⟩] := ((R2.far ⟨b, 1, none⟩ (.int .i64 fl) (by show b ≠ w.heap.size; omega))).moves hmx (by omega)
    replace hm : Moves g w w4 := ((hm.setNew ⟨b, 1, none⟩ (by show w.heap.size ≤ b; omega) (.int .i64 fl))).trans hmx
    replace hc := hcx
    clear hmx y0 y1 y2 y3 y9 ylt hcx
    have y0 := RowIs.cell (j := 0) RB rfl; have y1 := RowIs.cell (j := 1) RB rfl; have y2 := RowIs.cell (j := 2) RB rfl; have y3 := RowIs.cell (j := 3) RB rfl; have y9 := fun j => RowIs.frozen RB j
    have ylt := RB.lt
    have x0 := RowIs.cell (j := 0) R2 rfl; have x1 := RowIs.cell (j := 1) R2 rfl; have x2 := RowIs.cell (j := 2) R2 rfl; have x3 := RowIs.cell (j := 3) R2 rfl; have x9 := fun j => RowIs.frozen R2 j
    have xlt := R2.lt
    go_wp2_with fail
    refine bodyPost_ret (v := .agg #[.int .i64 2, .int .i64 fl, .int .i64 (1 + 2 * i), .string t]) (by simp [results, Tryd.results31, go_sem, *]) rfl ?_
    exact ⟨⟨2, fl, (1 + 2 * i), t⟩, by show t.size ≤ 20; omega, rfl, by repeat' (first | (with_reducible exact hc) | (with_reducible refine Cur.set ?_ _ _ ?_) | (with_reducible refine Cur.alloc ?_ _) | (with_reducible refine Cur.drewN ?_ _) | (with_reducible refine Cur.drew ?_) | omega | (simp; done) | (simp; omega)), by repeat' (first | (with_reducible exact hm) | (with_reducible refine Moves.setNew ?_ _ ?_ _) | (with_reducible refine Moves.alloc ?_ _) | (with_reducible refine Moves.drewN _ ?_) | (with_reducible refine Moves.drew ?_) | omega | (simp; done) | (simp; omega))⟩
  · skip
    go_wp2_with fail
    obtain ⟨V, hV⟩ : ∃ V, w1.alloc (.cells #[.int .i64 3, .int .i64 0, .int .i64 0, .string ⟨#[]⟩] 29) = V := ⟨_, rfl⟩
    have RB : RowIs V w1.heap.size 29 [.int .i64 3, .int .i64 0, .int .i64 0, .string ⟨#[]⟩] := by rw [← hV]; exact rowIs_new w1 _ _
    replace R2 : RowIs V w.heap.size 29 [.int .i64 0, .int .i64 0, .int .i64 0, .string ⟨#[]⟩] := by rw [← hV]; exact R2.alloc _
    replace hm : Moves g w V := by rw [← hV]; exact hm.alloc _
    replace hc : Cur V g B := by rw [← hV]; exact hc.alloc _
    rw [hV]
    clear hV
    obtain ⟨b, hb⟩ : ∃ b, b = w1.heap.size := ⟨_, rfl⟩
    rw [← hb] at RB ⊢
    have hbw : w.heap.size < b := by omega
    have hbg : b ≠ g := by omega
    clear hb
    have y0 := RowIs.cell (j := 0) RB rfl; have y1 := RowIs.cell (j := 1) RB rfl; have y2 := RowIs.cell (j := 2) RB rfl; have y3 := RowIs.cell (j := 3) RB rfl; have y9 := fun j => RowIs.frozen RB j
    have ylt := RB.lt
    refine (below1 g B 4 _ hc (by omega)).mono ?_; rintro e w2 ⟨i, i0, i1, i2, rfl, hcx, hmx⟩
    have i4 := i1 (by omega)
    clear i1 i2
    replace RB : RowIs w2 b 29 [.int .i64 3, .int .i64 0, .int .i64 0, .string ⟨#[]⟩] := RB.moves hmx hbg
    replace R2 : RowIs w2 w.heap.size 29 [.int .i64 0, .int .i64 0, .int .i64 0, .string ⟨#[]⟩] := R2.moves hmx (by omega)
    replace hm := hm.trans hmx
    replace hc := hcx
    clear hmx y0 y1 y2 y3 y9 ylt hcx
    have y0 := RowIs.cell (j := 0) RB rfl; have y1 := RowIs.cell (j := 1) RB rfl; have y2 := RowIs.cell (j := 2) RB rfl; have y3 := RowIs.cell (j := 3) RB rfl; have y9 := fun j => RowIs.frozen RB j
    have ylt := RB.lt
    have x0 := RowIs.cell (j := 0) R2 rfl; have x1 := RowIs.cell (j := 1) R2 rfl; have x2 := RowIs.cell (j := 2) R2 rfl; have x3 := RowIs.cell (j := 3) R2 rfl; have x9 := fun j => RowIs.frozen R2 j
    have xlt := R2.lt
    go_wp2_with fail
    refine bodyPost_ret (v := .agg #[.int .i64 3, .int .i64 0, .int .i64 (1 + 2 * i), .string ⟨#[3]⟩]) (by simp [results, Tryd.results31, go_sem, *]) rfl ?_
    exact ⟨⟨3, 0, (1 + 2 * i), ⟨#[3]⟩⟩, by dsimp only; decide, rfl, by repeat' (first | (with_reducible exact hc) | (with_reducible refine Cur.set ?_ _ _ ?_) | (with_reducible refine Cur.alloc ?_ _) | (with_reducible refine Cur.drewN ?_ _) | (with_reducible refine Cur.drew ?_) | omega | (simp; done) | (simp; omega)), by repeat' (first | (with_reducible exact hm) | (with_reducible refine Moves.setNew ?_ _ ?_ _) | (with_reducible refine Moves.alloc ?_ _) | (with_reducible refine Moves.drewN _ ?_) | (with_reducible refine Moves.drew ?_) | omega | (simp; done) | (simp; omega))⟩
  · skip
    go_wp2_with fail
    obtain ⟨V, hV⟩ : ∃ V, w1.alloc (.cells #[.int .i64 4, .int .i64 0, .int .i64 0, .string ⟨#[]⟩] 29) = V := ⟨_, rfl⟩
    have RB : RowIs V w1.heap.size 29 [.int .i64 4, .int .i64 0, .int .i64 0, .string ⟨#[]⟩] := by rw [← hV]; exact rowIs_new w1 _ _
    replace R2 : RowIs V w.heap.size 29 [.int .i64 0, .int .i64 0, .int .i64 0, .string ⟨#[]⟩] := by rw [← hV]; exact R2.alloc _
    replace hm : Moves g w V := by rw [← hV]; exact hm.alloc _
    replace hc : Cur V g B := by rw [← hV]; exact hc.alloc _
    rw [hV]
    clear hV
    obtain ⟨b, hb⟩ : ∃ b, b = w1.heap.size := ⟨_, rfl⟩
    rw [← hb] at RB ⊢
    have hbw : w.heap.size < b := by omega
    have hbg : b ≠ g := by omega
    clear hb
    have y0 := RowIs.cell (j := 0) RB rfl; have y1 := RowIs.cell (j := 1) RB rfl; have y2 := RowIs.cell (j := 2) RB rfl; have y3 := RowIs.cell (j := 3) RB rfl; have y9 := fun j => RowIs.frozen RB j
    have ylt := RB.lt
    refine (below1 g B 4 _ hc (by omega)).mono ?_; rintro e w2 ⟨i, i0, i1, i2, rfl, hcx, hmx⟩
    have i4 := i1 (by omega)
    clear i1 i2
    replace RB : RowIs w2 b 29 [.int .i64 4, .int .i64 0, .int .i64 0, .string ⟨#[]⟩] := RB.moves hmx hbg
    replace R2 : RowIs w2 w.heap.size 29 [.int .i64 0, .int .i64 0, .int .i64 0, .string ⟨#[]⟩] := R2.moves hmx (by omega)
    replace hm := hm.trans hmx
    replace hc := hcx
    clear hmx y0 y1 y2 y3 y9 ylt hcx
    have y0 := RowIs.cell (j := 0) RB rfl; have y1 := RowIs.cell (j := 1) RB rfl; have y2 := RowIs.cell (j := 2) RB rfl; have y3 := RowIs.cell (j := 3) RB rfl; have y9 := fun j => RowIs.frozen RB j
    have ylt := RB.lt
    go_wp2_with fail
    refine (once1 g B 2 _ hc (by omega)).mono ?_; rintro e w3 ⟨vb, rfl, hcx, hmx⟩
    replace RB : RowIs w3 b 29 [.int .i64 4, .int .i64 0, .int .i64 0, .string ⟨#[]⟩] := (RB).moves hmx (by omega)
    replace R2 : RowIs w3 w.heap.size 29 [.int .i64 0, .int .i64 0, .int .i64 0, .string ⟨#[]⟩] := (R2).moves hmx (by omega)
    replace hm : Moves g w w3 := (hm).trans hmx
    replace hc := hcx
    clear hmx y0 y1 y2 y3 y9 ylt hcx
    have y0 := RowIs.cell (j := 0) RB rfl; have y1 := RowIs.cell (j := 1) RB rfl; have y2 := RowIs.cell (j := 2) RB rfl; have y3 := RowIs.cell (j := 3) RB rfl; have y9 := fun j => RowIs.frozen RB j
    have ylt := RB.lt
    cases vb
    · skip
      have x0 := RowIs.cell (j := 0) R2 rfl; have x1 := RowIs.cell (j := 1) R2 rfl; have x2 := RowIs.cell (j := 2) R2 rfl; have x3 := RowIs.cell (j := 3) R2 rfl; have x9 := fun j => RowIs.frozen R2 j
      have xlt := R2.lt
      go_wp2_with fail
      refine bodyPost_ret (v := .agg #[.int .i64 4, .int .i64 0, .int .i64 0, .string ⟨#[]⟩]) (by simp [results, Tryd.results31, go_sem, *]) rfl ?_
      exact ⟨⟨4, 0, 0, ⟨#[]⟩⟩, by dsimp only; decide, rfl, by repeat' (first | (with_reducible exact hc) | (with_reducible refine Cur.set ?_ _ _ ?_) | (with_reducible refine Cur.alloc ?_ _) | (with_reducible refine Cur.drewN ?_ _) | (with_reducible refine Cur.drew ?_) | omega | (simp; done) | (simp; omega)), by repeat' (first | (with_reducible exact hm) | (with_reducible refine Moves.setNew ?_ _ ?_ _) | (with_reducible refine Moves.alloc ?_ _) | (with_reducible refine Moves.drewN _ ?_) | (with_reducible refine Moves.drew ?_) | omega | (simp; done) | (simp; omega))⟩
    · skip
      go_wp2_with fail
      refine (below1 g B 900 _ hc (by omega)).mono ?_; rintro e w4 ⟨z, z0, z1, _, rfl, hcx, hmx⟩
      have z9 := z1 (by omega)
      clear z1
      replace RB : RowIs w4 b 29 [.int .i64 4, .int .i64 0, .int .i64 0, .string ⟨#[]⟩] := (RB).moves hmx (by omega)
      replace R2 : RowIs w4 w.heap.size 29 [.int .i64 0, .int .i64 0, .int .i64 0, .string ⟨#[]⟩] := (R2).moves hmx (by omega)
      replace hm : Moves g w w4 := (hm).trans hmx
      replace hc := hcx
      clear hmx y0 y1 y2 y3 y9 ylt hcx
      have y0 := RowIs.cell (j := 0) RB rfl; have y1 := RowIs.cell (j := 1) RB rfl; have y2 := RowIs.cell (j := 2) RB rfl; have y3 := RowIs.cell (j := 3) RB rfl; have y9 := fun j => RowIs.frozen RB j
      have ylt := RB.lt
      go_wp2_with fail
      refine (specBytes7 z 3 _ z0 (by omega) (by omega) (by omega)).mono ?_; rintro e w5 ⟨rfl, hbx⟩
      replace RB : RowIs w5 b 29 [.int .i64 4, .int .i64 0, .int .i64 0, .string ⟨#[]⟩] := RB.new hbx
      replace R2 := R2.new hbx
      replace hm := hm.trans (Moves.of_below hbx)
      replace hc := hc.below hbx
      clear hbx y0 y1 y2 y3 y9 ylt
      have y0 := RowIs.cell (j := 0) RB rfl; have y1 := RowIs.cell (j := 1) RB rfl; have y2 := RowIs.cell (j := 2) RB rfl; have y3 := RowIs.cell (j := 3) RB rfl; have y9 := fun j => RowIs.frozen RB j
      have ylt := RB.lt
      have x0 := RowIs.cell (j := 0) R2 rfl; have x1 := RowIs.cell (j := 1) R2 rfl; have x2 := RowIs.cell (j := 2) R2 rfl; have x3 := RowIs.cell (j := 3) R2 rfl; have x9 := fun j => RowIs.frozen R2 j
      have xlt := R2.lt
      go_wp2_with fail
      refine bodyPost_ret (v := .agg #[.int .i64 4, .int .i64 0, .int .i64 0, .string (bytV 3 z)]) (by simp [results, Tryd.results31, go_sem, *]) rfl ?_
      exact ⟨⟨4, 0, 0, (bytV 3 z)⟩, by show (bytV 3 z).size ≤ 20; rw [bytV_size]; omega, rfl, by repeat' (first | (with_reducible exact hc) | (with_reducible refine Cur.set ?_ _ _ ?_) | (with_reducible refine Cur.alloc ?_ _) | (with_reducible refine Cur.drewN ?_ _) | (with_reducible refine Cur.drew ?_) | omega | (simp; done) | (simp; omega)), by repeat' (first | (with_reducible exact hm) | (with_reducible refine Moves.setNew ?_ _ ?_ _) | (with_reducible refine Moves.alloc ?_ _) | (with_reducible refine Moves.drewN _ ?_) | (with_reducible refine Moves.drew ?_) | omega | (simp; done) | (simp; omega))⟩
  · skip
    go_wp2_with fail
    obtain ⟨V, hV⟩ : ∃ V, w1.alloc (.cells #[.int .i64 5, .int .i64 0, .int .i64 0, .string ⟨#[]⟩] 29) = V := ⟨_, rfl⟩
    have RB : RowIs V w1.heap.size 29 [.int .i64 5, .int .i64 0, .int .i64 0, .string ⟨#[]⟩] := by rw [← hV]; exact rowIs_new w1 _ _
    replace R2 : RowIs V w.heap.size 29 [.int .i64 0, .int .i64 0, .int .i64 0, .string ⟨#[]⟩] := by rw [← hV]; exact R2.alloc _
    replace hm : Moves g w V := by rw [← hV]; exact hm.alloc _
    replace hc : Cur V g B := by rw [← hV]; exact hc.alloc _
    rw [hV]
    clear hV
    obtain ⟨b, hb⟩ : ∃ b, b = w1.heap.size := ⟨_, rfl⟩
    rw [← hb] at RB ⊢
    have hbw : w.heap.size < b := by omega
    have hbg : b ≠ g := by omega
    clear hb
    have y0 := RowIs.cell (j := 0) RB rfl; have y1 := RowIs.cell (j := 1) RB rfl; have y2 := RowIs.cell (j := 2) RB rfl; have y3 := RowIs.cell (j := 3) RB rfl; have y9 := fun j => RowIs.frozen RB j
    have ylt := RB.lt
    refine (below1 g B 4 _ hc (by omega)).mono ?_; rintro e w2 ⟨i, i0, i1, i2, rfl, hcx, hmx⟩
    have i4 := i1 (by omega)
    clear i1 i2
    replace RB : RowIs w2 b 29 [.int .i64 5, .int .i64 0, .int .i64 0, .string ⟨#[]⟩] := RB.moves hmx hbg
    replace R2 : RowIs w2 w.heap.size 29 [.int .i64 0, .int .i64 0, .int .i64 0, .string ⟨#[]⟩] := R2.moves hmx (by omega)
    replace hm := hm.trans hmx
    replace hc := hcx
    clear hmx y0 y1 y2 y3 y9 ylt hcx
    have y0 := RowIs.cell (j := 0) RB rfl; have y1 := RowIs.cell (j := 1) RB rfl; have y2 := RowIs.cell (j := 2) RB rfl; have y3 := RowIs.cell (j := 3) RB rfl; have y9 := fun j => RowIs.frozen RB j
    have ylt := RB.lt
    go_wp2_with fail
    refine (below1 g B 2 _ hc (by omega)).mono ?_; rintro e w3 ⟨fl, fl0, fl1, _, rfl, hcx, hmx⟩
    replace RB : RowIs w3 b 29 [.int .i64 5, .int .i64 0, .int .i64 0, .string ⟨#[]⟩] := (RB).moves hmx (by omega)
    replace R2 : RowIs w3 w.heap.size 29 [.int .i64 0, .int .i64 0, .int .i64 0, .string ⟨#[]⟩] := (R2).moves hmx (by omega)
    replace hm : Moves g w w3 := (hm).trans hmx
    replace hc := hcx
    clear hmx y0 y1 y2 y3 y9 ylt hcx
    have y0 := RowIs.cell (j := 0) RB rfl; have y1 := RowIs.cell (j := 1) RB rfl; have y2 := RowIs.cell (j := 2) RB rfl; have y3 := RowIs.cell (j := 3) RB rfl; have y9 := fun j => RowIs.frozen RB j
    have ylt := RB.lt
    have x0 := RowIs.cell (j := 0) R2 rfl; have x1 := RowIs.cell (j := 1) R2 rfl; have x2 := RowIs.cell (j := 2) R2 rfl; have x3 := RowIs.cell (j := 3) R2 rfl; have x9 := fun j => RowIs.frozen R2 j
    have xlt := R2.lt
    go_wp2_with fail
    refine bodyPost_ret (v := .agg #[.int .i64 5, .int .i64 fl, .int .i64 0, .string ⟨#[112, 105, 110, 103]⟩]) (by simp [results, Tryd.results31, go_sem, *]) rfl ?_
    exact ⟨⟨5, fl, 0, ⟨#[112, 105, 110, 103]⟩⟩, by dsimp only; decide, rfl, by repeat' (first | (with_reducible exact hc) | (with_reducible refine Cur.set ?_ _ _ ?_) | (with_reducible refine Cur.alloc ?_ _) | (with_reducible refine Cur.drewN ?_ _) | (with_reducible refine Cur.drew ?_) | omega | (simp; done) | (simp; omega)), by repeat' (first | (with_reducible exact hm) | (with_reducible refine Moves.setNew ?_ _ ?_ _) | (with_reducible refine Moves.alloc ?_ _) | (with_reducible refine Moves.drewN _ ?_) | (with_reducible refine Moves.drew ?_) | omega | (simp; done) | (simp; omega))⟩
  · skip
    go_wp2_with fail
    obtain ⟨V, hV⟩ : ∃ V, w1.alloc (.cells #[.int .i64 6, .int .i64 0, .int .i64 0, .string ⟨#[]⟩] 29) = V := ⟨_, rfl⟩
    have RB : RowIs V w1.heap.size 29 [.int .i64 6, .int .i64 0, .int .i64 0, .string ⟨#[]⟩] := by rw [← hV]; exact rowIs_new w1 _ _
    replace R2 : RowIs V w.heap.size 29 [.int .i64 0, .int .i64 0, .int .i64 0, .string ⟨#[]⟩] := by rw [← hV]; exact R2.alloc _
    replace hm : Moves g w V := by rw [← hV]; exact hm.alloc _
    replace hc : Cur V g B := by rw [← hV]; exact hc.alloc _
    rw [hV]
    clear hV
    obtain ⟨b, hb⟩ : ∃ b, b = w1.heap.size := ⟨_, rfl⟩
    rw [← hb] at RB ⊢
    have hbw : w.heap.size < b := by omega
    have hbg : b ≠ g := by omega
    clear hb
    have y0 := RowIs.cell (j := 0) RB rfl; have y1 := RowIs.cell (j := 1) RB rfl; have y2 := RowIs.cell (j := 2) RB rfl; have y3 := RowIs.cell (j := 3) RB rfl; have y9 := fun j => RowIs.frozen RB j
    have ylt := RB.lt
    refine (below1 g B 4 _ hc (by omega)).mono ?_; rintro e w2 ⟨i, i0, i1, i2, rfl, hcx, hmx⟩
    have i4 := i1 (by omega)
    clear i1 i2
    replace RB : RowIs w2 b 29 [.int .i64 6, .int .i64 0, .int .i64 0, .string ⟨#[]⟩] := RB.moves hmx hbg
    replace R2 : RowIs w2 w.heap.size 29 [.int .i64 0, .int .i64 0, .int .i64 0, .string ⟨#[]⟩] := R2.moves hmx (by omega)
    replace hm := hm.trans hmx
    replace hc := hcx
    clear hmx y0 y1 y2 y3 y9 ylt hcx
    have y0 := RowIs.cell (j := 0) RB rfl; have y1 := RowIs.cell (j := 1) RB rfl; have y2 := RowIs.cell (j := 2) RB rfl; have y3 := RowIs.cell (j := 3) RB rfl; have y9 := fun j => RowIs.frozen RB j
    have ylt := RB.lt
    have x0 := RowIs.cell (j := 0) R2 rfl; have x1 := RowIs.cell (j := 1) R2 rfl; have x2 := RowIs.cell (j := 2) R2 rfl; have x3 := RowIs.cell (j := 3) R2 rfl; have x9 := fun j => RowIs.frozen R2 j
    have xlt := R2.lt
    go_wp2_with fail
    refine bodyPost_ret (v := .agg #[.int .i64 6, .int .i64 0, .int .i64 0, .string ⟨#[0, 0, 0, 1]⟩]) (by simp [results, Tryd.results31, go_sem, *]) rfl ?_
    exact ⟨⟨6, 0, 0, ⟨#[0, 0, 0, 1]⟩⟩, by dsimp only; decide, rfl, by repeat' (first | (with_reducible exact hc) | (with_reducible refine Cur.set ?_ _ _ ?_) | (with_reducible refine Cur.alloc ?_ _) | (with_reducible refine Cur.drewN ?_ _) | (with_reducible refine Cur.drew ?_) | omega | (simp; done) | (simp; omega)), by repeat' (first | (with_reducible exact hm) | (with_reducible refine Moves.setNew ?_ _ ?_ _) | (with_reducible refine Moves.alloc ?_ _) | (with_reducible refine Moves.drewN _ ?_) | (with_reducible refine Moves.drew ?_) | omega | (simp; done) | (simp; omega))⟩
  · skip
    go_wp2_with fail
    obtain ⟨V, hV⟩ : ∃ V, w1.alloc (.cells #[.int .i64 7, .int .i64 0, .int .i64 0, .string ⟨#[]⟩] 29) = V := ⟨_, rfl⟩
    have RB : RowIs V w1.heap.size 29 [.int .i64 7, .int .i64 0, .int .i64 0, .string ⟨#[]⟩] := by rw [← hV]; exact rowIs_new w1 _ _
    replace R2 : RowIs V w.heap.size 29 [.int .i64 0, .int .i64 0, .int .i64 0, .string ⟨#[]⟩] := by rw [← hV]; exact R2.alloc _
    replace hm : Moves g w V := by rw [← hV]; exact hm.alloc _
    replace hc : Cur V g B := by rw [← hV]; exact hc.alloc _
    rw [hV]
    clear hV
    obtain ⟨b, hb⟩ : ∃ b, b = w1.heap.size := ⟨_, rfl⟩
    rw [← hb] at RB ⊢
    have hbw : w.heap.size < b := by omega
    have hbg : b ≠ g := by omega
    clear hb
    have y0 := RowIs.cell (j := 0) RB rfl; have y1 := RowIs.cell (j := 1) RB rfl; have y2 := RowIs.cell (j := 2) RB rfl; have y3 := RowIs.cell (j := 3) RB rfl; have y9 := fun j => RowIs.frozen RB j
    have ylt := RB.lt
    refine (below1 g B 4 _ hc (by omega)).mono ?_; rintro e w2 ⟨i, i0, i1, i2, rfl, hcx, hmx⟩
    have i4 := i1 (by omega)
    clear i1 i2
    replace RB : RowIs w2 b 29 [.int .i64 7, .int .i64 0, .int .i64 0, .string ⟨#[]⟩] := RB.moves hmx hbg
    replace R2 : RowIs w2 w.heap.size 29 [.int .i64 0, .int .i64 0, .int .i64 0, .string ⟨#[]⟩] := R2.moves hmx (by omega)
    replace hm := hm.trans hmx
    replace hc := hcx
    clear hmx y0 y1 y2 y3 y9 ylt hcx
    have y0 := RowIs.cell (j := 0) RB rfl; have y1 := RowIs.cell (j := 1) RB rfl; have y2 := RowIs.cell (j := 2) RB rfl; have y3 := RowIs.cell (j := 3) RB rfl; have y9 := fun j => RowIs.frozen RB j
    have ylt := RB.lt
    obtain ⟨VA, hVA⟩ : ∃ V, w2.alloc (.cells #[.int .i64 0, .int .i64 (1 + 2 * i)] 2) = V := ⟨_, rfl⟩
    have RA : RowIs VA w2.heap.size 2 [.int .i64 0, .int .i64 (1 + 2 * i)] := by rw [← hVA]; exact rowIs_new w2 _ _
    have hbA : Below w2.heap.size w2 VA := by rw [← hVA]; exact (Below.refl _ _).alloc (Nat.le_refl _) _
    go_wp2_with fail
    clear hVA
    have hgA : g < w2.heap.size := hc.lt
    replace RB := RB.new hbA
    replace R2 := R2.new hbA
    replace hm := hm.trans (Moves.of_below hbA)
    replace hc := hc.below hbA
    clear hbA y0 y1 y2 y3 y9
    refine (below1 g B 2 _ hc (by omega)).mono ?_; rintro e w3 ⟨q, q0, q1, _, rfl, hcx, hmx⟩
    have q2 := q1 (by omega)
    clear q1
    replace RB := RB.moves hmx hbg
    replace R2 := R2.moves hmx (by omega)
    replace RA := RA.moves hmx (by omega)
    replace hm := hm.trans hmx
    replace hc := hcx
    clear hmx hcx ylt
    have y0 := RowIs.cell (j := 0) RB rfl; have y1 := RowIs.cell (j := 1) RB rfl; have y2 := RowIs.cell (j := 2) RB rfl; have y3 := RowIs.cell (j := 3) RB rfl; have y9 := fun j => RowIs.frozen RB j
    have ylt := RB.lt
    have k0 := RowIs.cell (j := 0) RA rfl
    have k1 := RowIs.cell (j := 1) RA rfl
    have hq : q = 0 ∨ q = 1 := by omega
    rcases hq with rfl | rfl
    · skip
      go_wp2_with fail
      refine (below1 g B 900 _ (hc.set ⟨b, 2, none⟩ _ (by show g < b; omega)) (by omega)).mono ?_; rintro e w4 ⟨z, z0, z1, _, rfl, hcx, hmx⟩
      have z9 := z1 (by omega)
      clear z1
      replace RB : RowIs w4 b 29 [.int .i64 7, .int .i64 0, .int .i64 0, .string ⟨#[]⟩] := ((RB.set 2 (.int .i64 0))).moves hmx (by omega)
      replace R2 : RowIs w4 w.heap.size 29 [.int .i64 0, .int .i64 0, .int .i64 0, .string ⟨#[]⟩] := ((R2.far ⟨b, 2, none⟩ (.int .i64 0) (by show b ≠ w.heap.size; omega))).moves hmx (by omega)
      replace hm : Moves g w w4 := ((hm.setNew ⟨b, 2, none⟩ (by show w.heap.size ≤ b; omega) (.int .i64 0))).trans hmx
      replace hc := hcx
      clear hmx y0 y1 y2 y3 y9 ylt hcx
      have y0 := RowIs.cell (j := 0) RB rfl; have y1 := RowIs.cell (j := 1) RB rfl; have y2 := RowIs.cell (j := 2) RB rfl; have y3 := RowIs.cell (j := 3) RB rfl; have y9 := fun j => RowIs.frozen RB j
      have ylt := RB.lt
      go_wp2_with fail
      refine (specBytes7 (1 + z) 3 _ (by omega) (by omega) (by omega) (by omega)).mono ?_; rintro e w5 ⟨rfl, hbx⟩
      replace RB : RowIs w5 b 29 [.int .i64 7, .int .i64 0, .int .i64 0, .string ⟨#[]⟩] := RB.new hbx
      replace R2 := R2.new hbx
      replace hm := hm.trans (Moves.of_below hbx)
      replace hc := hc.below hbx
      clear hbx y0 y1 y2 y3 y9 ylt
      have y0 := RowIs.cell (j := 0) RB rfl; have y1 := RowIs.cell (j := 1) RB rfl; have y2 := RowIs.cell (j := 2) RB rfl; have y3 := RowIs.cell (j := 3) RB rfl; have y9 := fun j => RowIs.frozen RB j
      have ylt := RB.lt
      have x0 := RowIs.cell (j := 0) R2 rfl; have x1 := RowIs.cell (j := 1) R2 rfl; have x2 := RowIs.cell (j := 2) R2 rfl; have x3 := RowIs.cell (j := 3) R2 rfl; have x9 := fun j => RowIs.frozen R2 j
      have xlt := R2.lt
      go_wp2_with fail
      refine bodyPost_ret (v := .agg #[.int .i64 7, .int .i64 0, .int .i64 0, .string (bytV 3 (1 + z))]) (by simp [results, Tryd.results31, go_sem, *]) rfl ?_
      exact ⟨⟨7, 0, 0, (bytV 3 (1 + z))⟩, by show (bytV 3 (1 + z)).size ≤ 20; rw [bytV_size]; omega, rfl, by repeat' (first | (with_reducible exact hc) | (with_reducible refine Cur.set ?_ _ _ ?_) | (with_reducible refine Cur.alloc ?_ _) | (with_reducible refine Cur.drewN ?_ _) | (with_reducible refine Cur.drew ?_) | omega | (simp; done) | (simp; omega)), by repeat' (first | (with_reducible exact hm) | (with_reducible refine Moves.setNew ?_ _ ?_ _) | (with_reducible refine Moves.alloc ?_ _) | (with_reducible refine Moves.drewN _ ?_) | (with_reducible refine Moves.drew ?_) | omega | (simp; done) | (simp; omega))⟩
    · skip
      go_wp2_with fail
      refine (below1 g B 900 _ (hc.set ⟨b, 2, none⟩ _ (by show g < b; omega)) (by omega)).mono ?_; rintro e w4 ⟨z, z0, z1, _, rfl, hcx, hmx⟩
      have z9 := z1 (by omega)
      clear z1
      replace RB : RowIs w4 b 29 [.int .i64 7, .int .i64 0, .int .i64 (1 + 2 * i), .string ⟨#[]⟩] := ((RB.set 2 (.int .i64 (1 + 2 * i)))).moves hmx (by omega)
      replace R2 : RowIs w4 w.heap.size 29 [.int .i64 0, .int .i64 0, .int .i64 0, .string ⟨#[]⟩] := ((R2.far ⟨b, 2, none⟩ (.int .i64 (1 + 2 * i)) (by show b ≠ w.heap.size; omega))).moves hmx (by omega)
      replace hm : Moves g w w4 := ((hm.setNew ⟨b, 2, none⟩ (by show w.heap.size ≤ b; omega) (.int .i64 (1 + 2 * i)))).trans hmx
      replace hc := hcx
      clear hmx y0 y1 y2 y3 y9 ylt hcx
      have y0 := RowIs.cell (j := 0) RB rfl; have y1 := RowIs.cell (j := 1) RB rfl; have y2 := RowIs.cell (j := 2) RB rfl; have y3 := RowIs.cell (j := 3) RB rfl; have y9 := fun j => RowIs.frozen RB j
      have ylt := RB.lt
      go_wp2_with fail
      refine (specBytes7 (1 + z) 3 _ (by omega) (by omega) (by omega) (by omega)).mono ?_; rintro e w5 ⟨rfl, hbx⟩
      replace RB : RowIs w5 b 29 [.int .i64 7, .int .i64 0, .int .i64 (1 + 2 * i), .string ⟨#[]⟩] := RB.new hbx
      replace R2 := R2.new hbx
      replace hm := hm.trans (Moves.of_below hbx)
      replace hc := hc.below hbx
      clear hbx y0 y1 y2 y3 y9 ylt
      have y0 := RowIs.cell (j := 0) RB rfl; have y1 := RowIs.cell (j := 1) RB rfl; have y2 := RowIs.cell (j := 2) RB rfl; have y3 := RowIs.cell (j := 3) RB rfl; have y9 := fun j => RowIs.frozen RB j
      have ylt := RB.lt
      have x0 := RowIs.cell (j := 0) R2 rfl; have x1 := RowIs.cell (j := 1) R2 rfl; have x2 := RowIs.cell (j := 2) R2 rfl; have x3 := RowIs.cell (j := 3) R2 rfl; have x9 := fun j => RowIs.frozen R2 j
      have xlt := R2.lt
      go_wp2_with fail
      refine bodyPost_ret (v := .agg #[.int .i64 7, .int .i64 0, .int .i64 (1 + 2 * i), .string (bytV 3 (1 + z))]) (by simp [results, Tryd.results31, go_sem, *]) rfl ?_
      exact ⟨⟨7, 0, (1 + 2 * i), (bytV 3 (1 + z))⟩, by show (bytV 3 (1 + z)).size ≤ 20; rw [bytV_size]; omega, rfl, by repeat' (first | (with_reducible exact hc) | (with_reducible refine Cur.set ?_ _ _ ?_) | (with_reducible refine Cur.alloc ?_ _) | (with_reducible refine Cur.drewN ?_ _) | (with_reducible refine Cur.drew ?_) | omega | (simp; done) | (simp; omega)), by repeat' (first | (with_reducible exact hm) | (with_reducible refine Moves.setNew ?_ _ ?_ _) | (with_reducible refine Moves.alloc ?_ _) | (with_reducible refine Moves.drewN _ ?_) | (with_reducible refine Moves.drew ?_) | omega | (simp; done) | (simp; omega))⟩
end Go.Proofs.YtelcnojmfkoboaaDoor
