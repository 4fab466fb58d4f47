/- The law FnPours returns true at every argument and leaves it as it was. No condition. -/
import Derived.Test.YthoiefhcaplmiaaBktSpec
import Derived.Test.YthoiefhcaplmiaaBktImpl
import Derived.Test.YthoiefhcaplmiaaBktDraw
import Derived.Test.YthoiefhcaplmiaaBktBox
import Derived.Test.YthoiefhcaplmiaaPickOne
import Derived.Deep.DeepCutAuto
import Derived.Deep.RegionHeld3
import Derived.WalkKit
import Derived.ProofKit
import Derived.OpenShut
import Derived.ShutString
import Derived.ChangeOld
import Derived.Below
import Derived.Lib.SmallJoins

namespace Go.Proofs.Ythoiefhcaplmiaa
open Go.RowKit
set_option maxRecDepth 100000
set_option linter.unusedSimpArgs false
set_option linter.unusedVariables false
namespace lawPours
set_option maxHeartbeats 8000000 in
set_option maxRecDepth 100000 in
theorem walk (a : Option Addr) (len cap : Nat) (w : World) (hl : len ≤ maxLen) (hcode : CodeAt w a len w.heap.size) :
    Calls Try.prog 4 #[.slice a len cap] w fun x w' => x = .returned (.bool true) ∧ Below w.heap.size w w' := by
  unfold maxLen at hl
  by_cases hbig : (4096 : Int) < len
  · go_enter Try.func4, Try.ntmps4
    go_wp2_with fail
    refine (big1 a len cap _).mono ?_; rw [decide_eq_true hbig]; rintro x w1 ⟨rfl, rfl⟩
    go_wp2_with fail
    go_ret
    exact ⟨rfl, Below.refl _ _⟩
  have hl' : len ≤ 4096 := by omega
  have HCODE := hide hcode
  clear hcode
  go_enter Try.func4, Try.ntmps4
  go_wp2_with fail
  refine (big1 a len cap _).mono ?_; rw [decide_eq_false (by omega)]; rintro x w0 ⟨rfl, rfl⟩
  have HBW := hide (Below.refl w0.heap.size w0)
  go_wp2_with fail
  refine (drawPoured a len cap _ hl' (HCODE.out.behind HBW.out)).mono ?_; rintro x w1 ⟨b, now, n, rfl, hb⟩
  dsimp only [bv]
  replace HBW := hide (bchain HBW.out hb)
  clear hb
  go_upto_region 4 with fail
  have hg3 := HBW.out.size
  have hbV : Below w1.heap.size w1 (w1.alloc (.cells #[.int .i64 b.r, .int .i64 b.m, .int .i64 b.l, .int .i64 b.a] 25)) := (Below.refl _ _).alloc (Nat.le_refl _) _
  have B3 := hide (BxK.make w1 b)
  replace HBW := hide (bchain HBW.out hbV)
  clear hbV
  generalize hV : w1.alloc (.cells #[.int .i64 b.r, .int .i64 b.m, .int .i64 b.l, .int .i64 b.a] 25) = v1 at *
  clear hV
  obtain ⟨⟨xd, is⟩, hX⟩ : ∃ y, y = pouV b now n := ⟨_, rfl⟩
  have HX := hide hX
  clear hX
  have hii : (is != is) = false := by cases is <;> rfl
  have x0 := B3.out.row.cell (j := 0) rfl
  have x1 := B3.out.row.cell (j := 1) rfl
  have x2 := B3.out.row.cell (j := 2) rfl
  have x3 := B3.out.row.cell (j := 3) rfl
  have xl := B3.out.row.lt
  go_wp2_with fail
  clear x0 x1 x2 x3 xl
  have hcl := fun uq => implPoured b now n uq
  rw [← HX.out] at hcl
  try dsimp only at hcl
  refine (hcl _).mono ?_; clear hcl; rintro x w2 ⟨rfl, hb⟩
  replace B3 := hide (B3.out.new hb)
  replace HBW := hide (bchain HBW.out hb)
  clear hb
  dsimp only [bv]
  go_upto_region 5 with fail
  have hbV : Below w2.heap.size w2 (w2.alloc (.cells #[.int .i64 xd.r, .int .i64 xd.m, .int .i64 xd.l, .int .i64 xd.a] 25)) := (Below.refl _ _).alloc (Nat.le_refl _) _
  have B6 := hide (BxK.make w2 xd)
  replace B3 := hide (B3.out.new hbV)
  replace HBW := hide (bchain HBW.out hbV)
  clear hbV
  generalize hV : w2.alloc (.cells #[.int .i64 xd.r, .int .i64 xd.m, .int .i64 xd.l, .int .i64 xd.a] 25) = v2 at *
  clear hV
  have x0 := B3.out.row.cell (j := 0) rfl
  have x1 := B3.out.row.cell (j := 1) rfl
  have x2 := B3.out.row.cell (j := 2) rfl
  have x3 := B3.out.row.cell (j := 3) rfl
  have xl := B3.out.row.lt
  go_wp2_with fail
  clear x0 x1 x2 x3 xl
  have hcl := fun uq => specPoured b now n uq
  rw [← HX.out] at hcl
  try dsimp only at hcl
  refine (hcl _).mono ?_; clear hcl; rintro x w3 ⟨rfl, hb⟩
  replace B3 := hide (B3.out.new hb)
  replace B6 := hide (B6.out.new hb)
  replace HBW := hide (bchain HBW.out hb)
  clear hb
  dsimp only [bv]
  go_upto_region 6 with fail
  have hbV : Below w3.heap.size w3 (w3.alloc (.cells #[.int .i64 xd.r, .int .i64 xd.m, .int .i64 xd.l, .int .i64 xd.a] 25)) := (Below.refl _ _).alloc (Nat.le_refl _) _
  have B8 := hide (BxK.make w3 xd)
  replace B3 := hide (B3.out.new hbV)
  replace B6 := hide (B6.out.new hbV)
  replace HBW := hide (bchain HBW.out hbV)
  clear hbV
  generalize hV : w3.alloc (.cells #[.int .i64 xd.r, .int .i64 xd.m, .int .i64 xd.l, .int .i64 xd.a] 25) = v3 at *
  clear hV
  have hq := bk_neq xd.r xd.m xd.l xd.a
  have hq2 := bk_eql 0 0 0 0
  have hg := bk_guard
  have x0 := B6.out.row.cell (j := 0) rfl
  have x1 := B6.out.row.cell (j := 1) rfl
  have x2 := B6.out.row.cell (j := 2) rfl
  have x3 := B6.out.row.cell (j := 3) rfl
  have xl := B6.out.row.lt
  have y0 := B8.out.row.cell (j := 0) rfl
  have y1 := B8.out.row.cell (j := 1) rfl
  have y2 := B8.out.row.cell (j := 2) rfl
  have y3 := B8.out.row.cell (j := 3) rfl
  have yl := B8.out.row.lt
  go_upto_region 8 with fail
  clear x0 x1 x2 x3 xl
  clear y0 y1 y2 y3 yl
  clear B8
  cases hok : okBk b
  · skip
    obtain ⟨rfl, rfl⟩ : xd = zBk ∧ is = false := by have e := HX.out; unfold pouV at e; rw [if_pos hok] at e; exact Prod.mk.inj e
    have x0 := B3.out.row.cell (j := 0) rfl
    have x1 := B3.out.row.cell (j := 1) rfl
    have x2 := B3.out.row.cell (j := 2) rfl
    have x3 := B3.out.row.cell (j := 3) rfl
    have xl := B3.out.row.lt
    go_wp2_with fail
    refine (specBucketOk b _).mono ?_; rw [hok]; rintro x w4 ⟨rfl, hb⟩
    clear x0 x1 x2 x3 xl
    replace B3 := hide (B3.out.new hb)
    replace B6 := hide (B6.out.new hb)
    replace HBW := hide (bchain HBW.out hb)
    clear hb
    have y0 := B6.out.row.cell (j := 0) rfl
    have y1 := B6.out.row.cell (j := 1) rfl
    have y2 := B6.out.row.cell (j := 2) rfl
    have y3 := B6.out.row.cell (j := 3) rfl
    have yl := B6.out.row.lt
    dsimp only [zBk] at y0 y1 y2 y3
    go_wp2_with fail
    go_ret
    exact ⟨rfl, HBW.out⟩
  · skip
    have x0 := B3.out.row.cell (j := 0) rfl
    have x1 := B3.out.row.cell (j := 1) rfl
    have x2 := B3.out.row.cell (j := 2) rfl
    have x3 := B3.out.row.cell (j := 3) rfl
    have xl := B3.out.row.lt
    go_wp2_with fail
    refine (specBucketOk b _).mono ?_; rw [hok]; rintro x w4 ⟨rfl, hb⟩
    clear x0 x1 x2 x3 xl
    replace B3 := hide (B3.out.new hb)
    replace B6 := hide (B6.out.new hb)
    replace HBW := hide (bchain HBW.out hb)
    clear hb
    clear B6
    clear hq hq2 hg hii HX
    obtain ⟨⟨r0, r1⟩, ⟨m0, m1⟩, ⟨l0, l1⟩, t0, t1⟩ := okBk_true hok
    have HOK := hide hok
    clear hok
    have x0 := B3.out.row.cell (j := 0) rfl
    have x1 := B3.out.row.cell (j := 1) rfl
    have x2 := B3.out.row.cell (j := 2) rfl
    have x3 := B3.out.row.cell (j := 3) rfl
    have xl := B3.out.row.lt
    go_wp2_with fail
    clear x0 x1 x2 x3 xl
    generalize hgx : w1.heap.size = g3 at *
    clear hgx
    obtain ⟨f, hf⟩ : ∃ f, f = b.a := ⟨_, rfl⟩
    obtain ⟨st, hst⟩ : ∃ st, st = b.l := ⟨_, rfl⟩
    have HSUM : Hid (0 + b.l ≤ st + b.r * (b.a - f)) := by show _ ≤ _; rw [hf, hst, Int.sub_self, Int.mul_zero]; omega
    have hfa : f ≤ b.a := by omega
    have hst0 : 0 ≤ st := by omega
    have hst1 : st ≤ 10000 := by omega
    have hf0 : 0 ≤ f := by omega
    have hf1 : f ≤ 1000000 := by omega
    have HA : Hid (b.a ≤ f) := by show _ ≤ _; omega
    rw [← hf, ← hst]
    clear hf hst r0 r1 m0 m1 l0 l1 t0 t1
    go_loopw [10, 12, 14] (fun sm tm i wr => ∃ (m : Nat) (bd : Bk) (s at' : Int), sm = .int .i64 s ∧ tm = .int .i64 at' ∧ i = .int .i64 m ∧ m ≤ 12 ∧ 0 ≤ s ∧ s ≤ 10000 * m ∧ f ≤ at' ∧ at' ≤ 1000000 + 3 * m ∧ Hid (okBk bd = true) ∧ Hid (bd.a ≤ at') ∧ Hid (f ≤ bd.a) ∧ Hid (s + bd.l ≤ st + bd.r * (bd.a - f)) ∧ Hid (BxK wr g3 bd) ∧ Hid (Below w0.heap.size w0 wr)) (fun _ _ i _ => 12 - (intOf i).toNat)
    case atStart => exact ⟨0, b, 0, f, rfl, rfl, rfl, by omega, by omega, by omega, by omega, by omega, HOK, HA, hide hfa, HSUM, B3, HBW⟩
    case round =>
      clear HOK HA HSUM B3 HBW hfa
      obtain ⟨m, bd, s, at', rfl, rfl, rfl, hm12, s0, s1, a0, a1, HOK, HA, HF, HSUM, B3, HBW⟩ := hrel
      have hg3l := B3.out.row.lt
      by_cases hm : m < 12
      · skip
        obtain ⟨⟨r0, r1⟩, ⟨m0, m1⟩, ⟨l0, l1⟩, t0, t1⟩ := okBk_true HOK.out
        have hmi : (m : Int) < 12 := by omega
        go_wp2_with fail
        refine (pick1 a len cap (m : Int) 4 _ _ hl' (HCODE.out.behind HBW.out) (by omega) (by omega) (by omega) (by omega)).mono ?_; rintro x wq ⟨z, z0, z1, rfl, hsame⟩; obtain rfl := hsame.symm; clear hsame
        have x0 := B3.out.row.cell (j := 0) rfl
        have x1 := B3.out.row.cell (j := 1) rfl
        have x2 := B3.out.row.cell (j := 2) rfl
        have x3 := B3.out.row.cell (j := 3) rfl
        have xl := B3.out.row.lt
        go_wp2_with fail
        clear x0 x1 x2 x3 xl
        refine (pick1 a len cap (20 + (m : Int)) (bd.m + 1) _ _ hl' (HCODE.out.behind HBW.out) (by omega) (by omega) (by omega) (by omega)).mono ?_; rintro x wq ⟨k, k0, k1, rfl, hsame⟩; obtain rfl := hsame.symm; clear hsame
        obtain ⟨⟨yd, told⟩, hY⟩ : ∃ y, pouV bd (at' + z) k = y := ⟨_, rfl⟩
        have hst' := pour_step (at' := at' + z) (k := k) (s := s) (st := st) (f := f) HOK.out (by have := HA.out; omega) k0 HSUM.out hY
        obtain ⟨yok, yr, ym, ya, yb, ys, yt, yk⟩ := hst'
        have hyb := okBk_true yok
        obtain ⟨-, -, ⟨v0, v1⟩, -, -⟩ := hyb
        have HY := hide hY
        have HYS := hide ys; have HYR := hide yr; have HYA := hide ya; have HYB := hide yb; have HYOK := hide yok; have HYT := hide yt
        clear hY yr ym ya yb ys yt yk yok
        have x0 := B3.out.row.cell (j := 0) rfl
        have x1 := B3.out.row.cell (j := 1) rfl
        have x2 := B3.out.row.cell (j := 2) rfl
        have x3 := B3.out.row.cell (j := 3) rfl
        have xl := B3.out.row.lt
        go_wp2_with fail
        clear x0 x1 x2 x3 xl
        have hcl := fun uq => implPoured bd (at' + z) k uq
        rw [HY.out] at hcl
        try dsimp only at hcl
        refine (hcl _).mono ?_; clear hcl; rintro x w5 ⟨rfl, hb⟩
        replace B3 := hide (B3.out.new hb)
        replace HBW := hide (bchain HBW.out hb)
        clear hb
        dsimp only [bv]
        have hg3l5 := B3.out.row.lt
        go_upto_region 20 with fail
        have hbV : Below w5.heap.size w5 (w5.alloc (.cells #[.int .i64 yd.r, .int .i64 yd.m, .int .i64 yd.l, .int .i64 yd.a] 25)) := (Below.refl _ _).alloc (Nat.le_refl _) _
        have B16 := hide (BxK.make w5 yd)
        replace B3 := hide (B3.out.new hbV)
        replace HBW := hide (bchain HBW.out hbV)
        clear hbV
        generalize hV : w5.alloc (.cells #[.int .i64 yd.r, .int .i64 yd.m, .int .i64 yd.l, .int .i64 yd.a] 25) = v5 at *
        clear hV
        have hrise : at' + z ≤ 1000000 → 0 ≤ bd.r * (at' + z - f) ∧ bd.r * (at' + z - f) ≤ 1000000000 := fun c => ⟨Int.mul_nonneg r0 (by omega), by
          have e1 : bd.r * (at' + z - f) ≤ 1000 * (at' + z - f) := Int.mul_le_mul_of_nonneg_right r1 (by omega)
          omega⟩
        have hle : at' + z ≤ 1000000 → (if told = true then s + k else s) ≤ st + bd.r * (at' + z - f) := fun c => by
          have e1 := HYT.out c
          have ys := HYS.out
          rw [e1] at ys
          omega
        generalize hgx : w5.heap.size = g16 at *
        clear hgx HYT
        have hv0 : ¬ yd.l < 0 := by omega
        have hv1 : ¬ yd.m < yd.l := by omega
        cases told
        · skip
          replace hle : at' + z ≤ 1000000 → s ≤ st + bd.r * (at' + z - f) := fun c => by have := hle c; simpa using this
          replace HYS : Hid (s + yd.l ≤ st + bd.r * (yd.a - f)) := by have := HYS.out; show _ ≤ _; simpa using this
          by_cases hc : at' + z ≤ 1000000
          · skip
            obtain ⟨q0, q1⟩ := hrise hc
            have q2 := hle hc
            have q3 : ¬ st + bd.r * (at' + z - f) < s := by omega
            clear hrise hle
            have x0 := B3.out.row.cell (j := 0) rfl
            have x1 := B3.out.row.cell (j := 1) rfl
            have x2 := B3.out.row.cell (j := 2) rfl
            have x3 := B3.out.row.cell (j := 3) rfl
            have xl := B3.out.row.lt
            have y0 := B16.out.row.cell (j := 0) rfl
            have y1 := B16.out.row.cell (j := 1) rfl
            have y2 := B16.out.row.cell (j := 2) rfl
            have y3 := B16.out.row.cell (j := 3) rfl
            have yl := B16.out.row.lt
            have x9 := fun j => RowIs.frozen B3.out.row j
            go_wp2_with fail
            have hrow : RowIs ((((v5.setCell ⟨g3, 0, none⟩ (.int .i64 yd.r)).setCell ⟨g3, 1, none⟩ (.int .i64 yd.m)).setCell ⟨g3, 2, none⟩ (.int .i64 yd.l)).setCell ⟨g3, 3, none⟩ (.int .i64 yd.a)) g3 25 [.int .i64 yd.r, .int .i64 yd.m, .int .i64 yd.l, .int .i64 yd.a] := (((B3.out.row.set 0 _).set 1 _).set 2 _).set 3 _
            have hbel := (((HBW.out.setCell (p := ⟨g3, 0, none⟩) hg3 (.int .i64 yd.r)).setCell (p := ⟨g3, 1, none⟩) hg3 (.int .i64 yd.m)).setCell (p := ⟨g3, 2, none⟩) hg3 (.int .i64 yd.l)).setCell (p := ⟨g3, 3, none⟩) hg3 (.int .i64 yd.a)
            go_roundw
            case rel =>
              have e := HYS.out
              rw [← HYR.out] at e
              exact ⟨m + 1, yd, s, at' + z, rfl, rfl, by go_num, by omega, by omega, by omega, by omega, by omega, HYOK, HYA, hide (by have := HYB.out; have := HF.out; omega), hide e, hide ⟨hrow⟩, hide hbel⟩
            case measure => simp [intOf]; omega
          · skip
            clear hrise hle
            have x0 := B3.out.row.cell (j := 0) rfl
            have x1 := B3.out.row.cell (j := 1) rfl
            have x2 := B3.out.row.cell (j := 2) rfl
            have x3 := B3.out.row.cell (j := 3) rfl
            have xl := B3.out.row.lt
            have y0 := B16.out.row.cell (j := 0) rfl
            have y1 := B16.out.row.cell (j := 1) rfl
            have y2 := B16.out.row.cell (j := 2) rfl
            have y3 := B16.out.row.cell (j := 3) rfl
            have yl := B16.out.row.lt
            have x9 := fun j => RowIs.frozen B3.out.row j
            go_wp2_with fail
            have hrow : RowIs ((((v5.setCell ⟨g3, 0, none⟩ (.int .i64 yd.r)).setCell ⟨g3, 1, none⟩ (.int .i64 yd.m)).setCell ⟨g3, 2, none⟩ (.int .i64 yd.l)).setCell ⟨g3, 3, none⟩ (.int .i64 yd.a)) g3 25 [.int .i64 yd.r, .int .i64 yd.m, .int .i64 yd.l, .int .i64 yd.a] := (((B3.out.row.set 0 _).set 1 _).set 2 _).set 3 _
            have hbel := (((HBW.out.setCell (p := ⟨g3, 0, none⟩) hg3 (.int .i64 yd.r)).setCell (p := ⟨g3, 1, none⟩) hg3 (.int .i64 yd.m)).setCell (p := ⟨g3, 2, none⟩) hg3 (.int .i64 yd.l)).setCell (p := ⟨g3, 3, none⟩) hg3 (.int .i64 yd.a)
            go_roundw
            case rel =>
              have e := HYS.out
              rw [← HYR.out] at e
              exact ⟨m + 1, yd, s, at' + z, rfl, rfl, by go_num, by omega, by omega, by omega, by omega, by omega, HYOK, HYA, hide (by have := HYB.out; have := HF.out; omega), hide e, hide ⟨hrow⟩, hide hbel⟩
            case measure => simp [intOf]; omega
        · skip
          replace hle : at' + z ≤ 1000000 → (s + k) ≤ st + bd.r * (at' + z - f) := fun c => by have := hle c; simpa using this
          replace HYS : Hid ((s + k) + yd.l ≤ st + bd.r * (yd.a - f)) := by have := HYS.out; show _ ≤ _; simpa using this
          by_cases hc : at' + z ≤ 1000000
          · skip
            obtain ⟨q0, q1⟩ := hrise hc
            have q2 := hle hc
            have q3 : ¬ st + bd.r * (at' + z - f) < (s + k) := by omega
            clear hrise hle
            have x0 := B3.out.row.cell (j := 0) rfl
            have x1 := B3.out.row.cell (j := 1) rfl
            have x2 := B3.out.row.cell (j := 2) rfl
            have x3 := B3.out.row.cell (j := 3) rfl
            have xl := B3.out.row.lt
            have y0 := B16.out.row.cell (j := 0) rfl
            have y1 := B16.out.row.cell (j := 1) rfl
            have y2 := B16.out.row.cell (j := 2) rfl
            have y3 := B16.out.row.cell (j := 3) rfl
            have yl := B16.out.row.lt
            have x9 := fun j => RowIs.frozen B3.out.row j
            go_wp2_with fail
            have hrow : RowIs ((((v5.setCell ⟨g3, 0, none⟩ (.int .i64 yd.r)).setCell ⟨g3, 1, none⟩ (.int .i64 yd.m)).setCell ⟨g3, 2, none⟩ (.int .i64 yd.l)).setCell ⟨g3, 3, none⟩ (.int .i64 yd.a)) g3 25 [.int .i64 yd.r, .int .i64 yd.m, .int .i64 yd.l, .int .i64 yd.a] := (((B3.out.row.set 0 _).set 1 _).set 2 _).set 3 _
            have hbel := (((HBW.out.setCell (p := ⟨g3, 0, none⟩) hg3 (.int .i64 yd.r)).setCell (p := ⟨g3, 1, none⟩) hg3 (.int .i64 yd.m)).setCell (p := ⟨g3, 2, none⟩) hg3 (.int .i64 yd.l)).setCell (p := ⟨g3, 3, none⟩) hg3 (.int .i64 yd.a)
            go_roundw
            case rel =>
              have e := HYS.out
              rw [← HYR.out] at e
              exact ⟨m + 1, yd, (s + k), at' + z, rfl, rfl, by go_num, by omega, by omega, by omega, by omega, by omega, HYOK, HYA, hide (by have := HYB.out; have := HF.out; omega), hide e, hide ⟨hrow⟩, hide hbel⟩
            case measure => simp [intOf]; omega
          · skip
            clear hrise hle
            have x0 := B3.out.row.cell (j := 0) rfl
            have x1 := B3.out.row.cell (j := 1) rfl
            have x2 := B3.out.row.cell (j := 2) rfl
            have x3 := B3.out.row.cell (j := 3) rfl
            have xl := B3.out.row.lt
            have y0 := B16.out.row.cell (j := 0) rfl
            have y1 := B16.out.row.cell (j := 1) rfl
            have y2 := B16.out.row.cell (j := 2) rfl
            have y3 := B16.out.row.cell (j := 3) rfl
            have yl := B16.out.row.lt
            have x9 := fun j => RowIs.frozen B3.out.row j
            go_wp2_with fail
            have hrow : RowIs ((((v5.setCell ⟨g3, 0, none⟩ (.int .i64 yd.r)).setCell ⟨g3, 1, none⟩ (.int .i64 yd.m)).setCell ⟨g3, 2, none⟩ (.int .i64 yd.l)).setCell ⟨g3, 3, none⟩ (.int .i64 yd.a)) g3 25 [.int .i64 yd.r, .int .i64 yd.m, .int .i64 yd.l, .int .i64 yd.a] := (((B3.out.row.set 0 _).set 1 _).set 2 _).set 3 _
            have hbel := (((HBW.out.setCell (p := ⟨g3, 0, none⟩) hg3 (.int .i64 yd.r)).setCell (p := ⟨g3, 1, none⟩) hg3 (.int .i64 yd.m)).setCell (p := ⟨g3, 2, none⟩) hg3 (.int .i64 yd.l)).setCell (p := ⟨g3, 3, none⟩) hg3 (.int .i64 yd.a)
            go_roundw
            case rel =>
              have e := HYS.out
              rw [← HYR.out] at e
              exact ⟨m + 1, yd, (s + k), at' + z, rfl, rfl, by go_num, by omega, by omega, by omega, by omega, by omega, HYOK, HYA, hide (by have := HYB.out; have := HF.out; omega), hide e, hide ⟨hrow⟩, hide hbel⟩
            case measure => simp [intOf]; omega
      · skip
        have hm2 : (m : Int) = 12 := by omega
        have hmi : ¬ (m : Int) < 12 := by omega
        clear hm2
        go_wp2_with fail
        go_ret
        exact ⟨rfl, HBW.out⟩

open Go.ChangeShapes Go.WideShapes Go.ChangeAt Go.Joins
open Go.ChangeMaps (open_string shut_string)


theorem own : ownKnob Try.prog.godebug = none := by kernel_rfl
theorem laidOut : laidOutB Try.prog = true := by kernel_rfl

set_option maxRecDepth 100000 in
theorem lifted (os : Os) (started : os.Started) (H : Type) (enc : TypeId × Value → H) :
    ReturnsInHanded {} Try.checked os 4 .any (Rows.fnPoursSpec.pre6 enc Try.prog Try.f4 Rows.fnPoursRow.domain false) (Rows.fnPoursSpec.post enc Try.prog Try.f4 false true false false) := by
  refine returnsInHanded_of_change (C := Try.checked) own started (by kernel_rfl) Try.func4
    (ChangeSpec.witness6 (enc := enc) (C := Try.checked) false ⟨#[], #[.slice none 0 0], []⟩ 8 (by kernel_rfl) (by kernel_rfl) (by kernel_rfl) (by kernel_rfl)) ?_
  intro W base args ds gs before hval0 hW hcnd _
  have hval : ∀ (j : Nat) t v, Try.f4.params[j]? = some t → args[j]? = some v → Value.okWide Try.prog W .any base t v := hval0
  have hW' := hW
  obtain ⟨p, q, hA0, hV, rfl, hfz, hnd⟩ := hW
  have hA : DataW.TrodAll enc Try.prog W 0 (fun _ => true) true Try.f4.params.toList args.toList ds p := hA0
  rw [Try.params4] at hA hval
  obtain ⟨v0, vs0, d0, ds0, p0, q0, hargs, rfl, rfl, h0, r0⟩ := trodAll_cons hA
  obtain ⟨rfl, rfl, rfl⟩ := trodAll_nil r0
  obtain rfl : args = #[v0] := by cases args; simp_all
  obtain ⟨rfl, rfl⟩ := trodVars_none hV
  have k0 := h0
  have lt0 : ∀ x ∈ p0, x.block < W.heap.size := by obtain ⟨m, hm⟩ := k0; exact DataW.trod_lt m _ _ _ hm
  obtain ⟨a0, len0, cap0, rfl⟩ := okWide_slice Try.underlying22 (hval 0 22 v0 rfl rfl); obtain ⟨hl0, hc0⟩ := open_code h0
  clear hA0 hval0
  refine (walk a0 len0 cap0 W hl0 hc0).mono fun e W' ⟨he, bel⟩ => ?_
  subst he
  exact ⟨_, rfl, _, _, _, [], _, [], hW', trodAll_mk1 (shut_bool Try.underlying4 _), (trodAll_cons_mk (Below.trod laidOut (by kernel_rfl) (of_decide_eq_true (by kernel_rfl)) k0 bel lt0) trodAll_mk0), rfl, bel.frame _, fun h => by cases h⟩

theorem over : Rows.fnPoursRow.holds Try.pinned (OpenSpec.ofChange Rows.fnPoursSpec) :=
  OpenClaim.holds_of_wide 4 Try.f4 rfl rfl rfl rfl rfl rfl rfl ⟨rfl, rfl, rfl, rfl, rfl⟩ rfl rfl rfl rfl rfl (by kernel_rfl) Try.func4 (by kernel_rfl)
    (of_decide_eq_true (by kernel_rfl)) (by unfold Func.isWrapper; first | (rw [if_pos (by decide +kernel)]; kernel_rfl) | (rw [if_neg (by decide +kernel)]; exact ⟨rfl, rfl⟩))
    (fun os started H enc _ => lifted os started H enc)

end lawPours

theorem lawPours_proved : Rows.FnPoursSaid := lawPours.over
#print axioms lawPours_proved
end Go.Proofs.Ythoiefhcaplmiaa
