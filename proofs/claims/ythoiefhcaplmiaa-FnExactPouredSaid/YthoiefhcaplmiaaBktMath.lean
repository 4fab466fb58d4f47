/- Buckets in plain words: when one is right, what filling and pouring make of it, when it has so much. -/
import Derived.Test.YthoiefhcaplmiaaBase
import Derived.Test.YthoiefhcaplmiaaInB
namespace Go.Proofs.Ythoiefhcaplmiaa
open Go.RowKit
set_option maxRecDepth 100000
set_option linter.unusedSimpArgs false
set_option linter.unusedVariables false

structure Bk where
  r : Int
  m : Int
  l : Int
  a : Int
def zBk : Bk := ⟨0, 0, 0, 0⟩
abbrev bcs (b : Bk) : List Value := [.int .i64 b.r, .int .i64 b.m, .int .i64 b.l, .int .i64 b.a]
abbrev bv (b : Bk) : Value := .agg #[.int .i64 b.r, .int .i64 b.m, .int .i64 b.l, .int .i64 b.a]
def okBk (b : Bk) : Bool := inB b.r 0 1000 && inB b.m 1 10000 && inB b.l 0 b.m && inB b.a 0 1000000
theorem okBk_true {b : Bk} (h : okBk b = true) : (0 ≤ b.r ∧ b.r ≤ 1000) ∧ (1 ≤ b.m ∧ b.m ≤ 10000) ∧ (0 ≤ b.l ∧ b.l ≤ b.m) ∧ 0 ≤ b.a ∧ b.a ≤ 1000000 := by
  unfold okBk at h
  simp only [Bool.and_eq_true] at h
  obtain ⟨⟨⟨h1, h2⟩, h3⟩, h4⟩ := h
  exact ⟨inB_true h1, inB_true h2, inB_true h3, inB_true h4⟩
theorem okBk_of {b : Bk} (h1 : 0 ≤ b.r ∧ b.r ≤ 1000) (h2 : 1 ≤ b.m ∧ b.m ≤ 10000) (h3 : 0 ≤ b.l ∧ b.l ≤ b.m) (h4 : 0 ≤ b.a ∧ b.a ≤ 1000000) : okBk b = true := by
  unfold okBk inB
  simp [h1, h2, h3, h4]
/-- What a right bucket has at a time that is right. -/
def lvV (b : Bk) (now : Int) : Int := if b.m < b.l + b.r * (now - b.a) then b.m else b.l + b.r * (now - b.a)
def fil (b : Bk) (now : Int) : Bk := ⟨b.r, b.m, lvV b now, now⟩
def filV (b : Bk) (now : Int) : Bk := if okBk b = false then zBk else if inB now b.a 1000000 = false then b else fil b now
def pouV (b : Bk) (now n : Int) : Bk × Bool := if okBk b = false then (zBk, false) else if inB now b.a 1000000 = false then (b, false) else if n < 0 ∨ lvV b now < n then (fil b now, false) else (⟨b.r, b.m, lvV b now - n, now⟩, true)
def fullT (b : Bk) (n : Int) : Int := b.a + (n - b.l + b.r - 1) / b.r
def whV (b : Bk) (n : Int) : Int := if okBk b = false ∨ inB n 0 b.m = false then -1 else if n ≤ b.l then b.a else if b.r = 0 then -1 else if 1000000 < fullT b n then -1 else fullT b n
theorem rise_bd {b : Bk} {now : Int} (h : okBk b = true) (h0 : b.a ≤ now) (h1 : now ≤ 1000000) : 0 ≤ b.r * (now - b.a) ∧ b.r * (now - b.a) ≤ 1000000000 := by
  obtain ⟨⟨r0, r1⟩, ⟨m0, m1⟩, ⟨l0, l1⟩, a0, a1⟩ := okBk_true h
  constructor
  · exact Int.mul_nonneg r0 (by omega)
  · calc b.r * (now - b.a) ≤ 1000 * (now - b.a) := Int.mul_le_mul_of_nonneg_right r1 (by omega)
      _ ≤ 1000000000 := by omega
theorem lv_bd {b : Bk} {now : Int} (h : okBk b = true) (h0 : b.a ≤ now) (h1 : now ≤ 1000000) : b.l ≤ lvV b now ∧ lvV b now ≤ b.m := by
  have := rise_bd h h0 h1
  obtain ⟨⟨r0, r1⟩, ⟨m0, m1⟩, ⟨l0, l1⟩, a0, a1⟩ := okBk_true h
  unfold lvV
  split <;> omega
theorem fil_ok {b : Bk} {now : Int} (h : okBk b = true) (h0 : b.a ≤ now) (h1 : now ≤ 1000000) : okBk (fil b now) = true := by
  have := lv_bd h h0 h1
  obtain ⟨⟨r0, r1⟩, ⟨m0, m1⟩, ⟨l0, l1⟩, a0, a1⟩ := okBk_true h
  exact okBk_of ⟨r0, r1⟩ ⟨m0, m1⟩ ⟨by show 0 ≤ lvV b now; omega, by show lvV b now ≤ b.m; omega⟩ ⟨by show 0 ≤ now; omega, h1⟩
/-- By turns as at once. -/
theorem fil_fil {b : Bk} {mid now : Int} (h : okBk b = true) (h0 : b.a ≤ mid) (h1 : mid ≤ now) (h2 : now ≤ 1000000) : lvV (fil b mid) now = lvV b now := by
  obtain ⟨p0, p1⟩ := rise_bd h h0 (by omega)
  obtain ⟨q0, q1⟩ := rise_bd h (show b.a ≤ now by omega) h2
  obtain ⟨s0, s1⟩ := rise_bd (fil_ok h h0 (by omega)) (show (fil b mid).a ≤ now from h1) h2
  have he : b.r * (now - b.a) = b.r * (mid - b.a) + b.r * (now - mid) := by rw [← Int.mul_add]; congr 1; omega
  show (if b.m < lvV b mid + b.r * (now - mid) then b.m else lvV b mid + b.r * (now - mid)) = lvV b now
  change 0 ≤ b.r * (now - mid) at s0
  unfold lvV
  rw [he]
  generalize b.r * (mid - b.a) = x at *
  generalize b.r * (now - mid) = y at *
  repeat' split
  all_goals omega
theorem filV_filV {b : Bk} {mid now : Int} (h : okBk b = true) (h0 : b.a ≤ mid) (h1 : mid ≤ now) (h2 : now ≤ 1000000) : filV (filV b mid) now = filV b now := by
  have e1 : filV b mid = fil b mid := by unfold filV; rw [if_neg (by rw [h]; decide), if_neg (by rw [inB_of h0 (by omega)]; decide)]
  have e2 : filV b now = fil b now := by unfold filV; rw [if_neg (by rw [h]; decide), if_neg (by rw [inB_of (by omega) h2]; decide)]
  rw [e1, e2]
  unfold filV
  rw [if_neg (by rw [fil_ok h h0 (by omega)]; decide), if_neg (by rw [inB_of (show (fil b mid).a ≤ now from h1) h2]; decide)]
  show (⟨b.r, b.m, lvV (fil b mid) now, now⟩ : Bk) = ⟨b.r, b.m, lvV b now, now⟩
  rw [fil_fil h h0 h1 h2]
/-- When it has so much is told: then it has, and a tick before it has not. -/
theorem full_has {b : Bk} {n : Int} (h : okBk b = true) (hn : b.l < n) (hm : n ≤ b.m) (hr : b.r ≠ 0) (ht : fullT b n ≤ 1000000) : b.a < fullT b n ∧ n ≤ lvV b (fullT b n) ∧ lvV b (fullT b n - 1) < n := by
  obtain ⟨⟨r0, r1⟩, ⟨m0, m1⟩, ⟨l0, l1⟩, a0, a1⟩ := okBk_true h
  have hr1 : 1 ≤ b.r := by omega
  unfold fullT at ht ⊢
  obtain ⟨q, hq⟩ : ∃ q, (n - b.l + b.r - 1) / b.r = q := ⟨_, rfl⟩
  have e1 := Int.mul_ediv_add_emod (n - b.l + b.r - 1) b.r
  have e2 := Int.emod_nonneg (n - b.l + b.r - 1) hr
  have e3 := Int.emod_lt_of_pos (n - b.l + b.r - 1) (show 0 < b.r by omega)
  rw [hq] at ht e1 ⊢
  have q1 : 1 ≤ q := by
    rw [← hq]
    refine Int.le_ediv_of_mul_le (by omega) (by omega)
  have t1 : b.a + q - b.a = q := by omega
  have t2 : b.a + q - 1 - b.a = q - 1 := by omega
  have e4 : b.r * (q - 1) = b.r * q - b.r := by rw [Int.mul_sub, Int.mul_one]
  unfold lvV
  rw [t1, t2, e4]
  generalize b.r * q = x at *
  refine ⟨by omega, ?_, ?_⟩ <;> split <;> omega
end Go.Proofs.Ythoiefhcaplmiaa
