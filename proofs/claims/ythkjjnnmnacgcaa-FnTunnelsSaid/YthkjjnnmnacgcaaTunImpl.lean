/- Chapter 16's program: lanes that embed a way up and a way down; in, out, back. -/
import Derived.Test.YthkjjnnmnacgcaaTunMath
import Derived.Test.YthkjjnnmnacgcaaRowIs
import Derived.Test.YthkjjnnmnacgcaaLater
import Derived.Test.YthkjjnnmnacgcaaPipe4
import Derived.OpenShut
import Derived.ChangeOld
import Derived.Deep.RegionHeld3
import Derived.Deep.Cut
import Derived.Deep.DeepCutAuto
import Derived.Deep.QuietTactic

namespace Go.Proofs.Ythkjjnnmnacgcaa
open Go.RowKit
set_option maxRecDepth 100000
set_option linter.unusedSimpArgs false
set_option linter.unusedVariables false
abbrev lncs (t : TuD) : List Value := [.int .i64 t.up.r, .string t.up.b, .bool t.up.e, .bool t.up.k, .int .i64 t.went, .int .i64 t.dn.r, .string t.dn.b, .bool t.dn.e, .bool t.dn.k, .int .i64 t.came]
abbrev lnv (t : TuD) : Value := .agg #[.int .i64 t.up.r, .string t.up.b, .bool t.up.e, .bool t.up.k, .int .i64 t.went, .int .i64 t.dn.r, .string t.dn.b, .bool t.dn.e, .bool t.dn.k, .int .i64 t.came]
theorem inTu_size (t : TuD) (s : ByteArray) (fin : Bool) (h : okTu t = true) (hs : s.size ≤ 1048576) : (inTu t s fin).1.up.b.size ≤ 2000000 ∧ (inTu t s fin).1.dn.b.size ≤ 2000000 := by
  obtain ⟨hu, hd, _, _⟩ := okTu_true h
  have h1 := okPp_true hu
  have h2 := okPp_true hd
  unfold inTu
  rw [if_neg (by rw [h]; decide)]
  split
  · exact ⟨by show t.up.b.size ≤ _; omega, by show t.dn.b.size ≤ _; omega⟩
  · refine ⟨?_, by show t.dn.b.size ≤ _; omega⟩
    show (t.up.b ++ s).size ≤ _
    rw [ByteArray.size_append]; omega
theorem outTu_size (t : TuD) (n : Int) (h : okTu t = true) : (outTu t n).1.up.b.size ≤ 2000000 ∧ (outTu t n).1.dn.b.size ≤ 2000000 := by
  obtain ⟨hu, hd, _, _⟩ := okTu_true h
  have h1 := okPp_true hu
  have h2 := okPp_true hd
  unfold outTu
  rw [if_neg (by rw [h]; decide)]
  refine ⟨?_, by show t.dn.b.size ≤ _; omega⟩
  show (t.up.b.extract _ _).size ≤ _
  rw [ByteArray.size_extract]; omega
theorem bckTu_size (t : TuD) (s : ByteArray) (fin : Bool) (h : okTu t = true) (hs : s.size ≤ 1048576) : (bckTu t s fin).1.up.b.size ≤ 2000000 ∧ (bckTu t s fin).1.dn.b.size ≤ 2000000 := by
  obtain ⟨hu, hd, _, _⟩ := okTu_true h
  have h1 := okPp_true hu
  have h2 := okPp_true hd
  unfold bckTu
  rw [if_neg (by rw [h]; decide)]
  refine ⟨by show t.up.b.size ≤ _; omega, ?_⟩
  show (t.dn.b ++ s.extract 0 _).size ≤ _
  rw [ByteArray.size_append, ByteArray.size_extract]; omega
set_option maxHeartbeats 1000000 in
theorem lanes16 (t : TuD) (w : World) : Calls Try.prog 31 #[tuv t] w fun x w' => x = .returned (lnv t) ∧ Below w.heap.size w w' := by
  obtain ⟨⟨r, b, e, k⟩, ⟨r2, b2, e2, k2⟩, wt, cm⟩ := t
  dsimp only [tuv, lnv] at *
  obtain ⟨W, hW⟩ : ∃ W, ((w.alloc (.cells #[.int .i64 r, .string b, .bool e, .bool k, .int .i64 r2, .string b2, .bool e2, .bool k2, .int .i64 wt, .int .i64 cm] 27)).alloc (.cells #[.int .i64 0, .string ⟨#[]⟩, .bool false, .bool false, .int .i64 0, .int .i64 0, .string ⟨#[]⟩, .bool false, .bool false, .int .i64 0] 58)) = W := ⟨_, rfl⟩
  have RX : RowIs W w.heap.size 27 [.int .i64 r, .string b, .bool e, .bool k, .int .i64 r2, .string b2, .bool e2, .bool k2, .int .i64 wt, .int .i64 cm] := by rw [← hW]; exact (rowIs_new w 27 [.int .i64 r, .string b, .bool e, .bool k, .int .i64 r2, .string b2, .bool e2, .bool k2, .int .i64 wt, .int .i64 cm]).alloc _
  have RY : RowIs W (w.heap.size + 1) 58 [.int .i64 0, .string ⟨#[]⟩, .bool false, .bool false, .int .i64 0, .int .i64 0, .string ⟨#[]⟩, .bool false, .bool false, .int .i64 0] := by have := rowIs_new (w.alloc (.cells #[.int .i64 r, .string b, .bool e, .bool k, .int .i64 r2, .string b2, .bool e2, .bool k2, .int .i64 wt, .int .i64 cm] 27)) 58 [.int .i64 0, .string ⟨#[]⟩, .bool false, .bool false, .int .i64 0, .int .i64 0, .string ⟨#[]⟩, .bool false, .bool false, .int .i64 0]; rw [hW] at this; simpa using this
  have HB : Below w.heap.size w W := by rw [← hW]; exact (((Below.refl _ _).alloc (Nat.le_refl _) _).alloc (by simp) _)
  go_enter Try.func31, Try.ntmps31
  have x0 := RowIs.cell (j := 0) RX rfl
  have x1 := RowIs.cell (j := 1) RX rfl
  have x2 := RowIs.cell (j := 2) RX rfl
  have x3 := RowIs.cell (j := 3) RX rfl
  have x4 := RowIs.cell (j := 4) RX rfl
  have x5 := RowIs.cell (j := 5) RX rfl
  have x6 := RowIs.cell (j := 6) RX rfl
  have x7 := RowIs.cell (j := 7) RX rfl
  have x8 := RowIs.cell (j := 8) RX rfl
  have x9 := RowIs.cell (j := 9) RX rfl
  have xf := fun j => RowIs.frozen RX j
  have xl := RX.lt
  go_wp2_with (refine wpList_store_row (by rfl) 58 _ _ (by rfl) (w.heap.size + 1) [.int .i64 r, .string b, .bool e, .bool k, .int .i64 wt, .int .i64 r2, .string b2, .bool e2, .bool k2, .int .i64 cm] (by rfl) (by rfl) 58 [.int .i64 0, .string ⟨#[]⟩, .bool false, .bool false, .int .i64 0, .int .i64 0, .string ⟨#[]⟩, .bool false, .bool false, .int .i64 0] RY (by kernel_rfl) rfl (by intro u hu; simp at hu; rcases hu with rfl | rfl | rfl | rfl | rfl | rfl | rfl | rfl | rfl | rfl <;> rfl) ?_)
  clear x0 x1 x2 x3 x4 x5 x6 x7 x8 x9 xf xl
  clear hW
  have NRX := RX.kept (setRow_other W (w.heap.size + 1) #[.int .i64 r, .string b, .bool e, .bool k, .int .i64 wt, .int .i64 r2, .string b2, .bool e2, .bool k2, .int .i64 cm] w.heap.size (by omega))
  have NRY : RowIs (W.setRow (w.heap.size + 1) #[.int .i64 r, .string b, .bool e, .bool k, .int .i64 wt, .int .i64 r2, .string b2, .bool e2, .bool k2, .int .i64 cm]) (w.heap.size + 1) 58 [.int .i64 r, .string b, .bool e, .bool k, .int .i64 wt, .int .i64 r2, .string b2, .bool e2, .bool k2, .int .i64 cm] := rowIs_setRow (cs' := [.int .i64 r, .string b, .bool e, .bool k, .int .i64 wt, .int .i64 r2, .string b2, .bool e2, .bool k2, .int .i64 cm]) RY
  have NHB := below_setRow HB (show w.heap.size ≤ (w.heap.size + 1) by omega) #[.int .i64 r, .string b, .bool e, .bool k, .int .i64 wt, .int .i64 r2, .string b2, .bool e2, .bool k2, .int .i64 cm]
  generalize hV : W.setRow (w.heap.size + 1) #[.int .i64 r, .string b, .bool e, .bool k, .int .i64 wt, .int .i64 r2, .string b2, .bool e2, .bool k2, .int .i64 cm] = V1 at *
  clear hV
  clear RX
  have RX := NRX
  clear NRX
  clear RY
  have RY := NRY
  clear NRY
  clear HB
  have HB := NHB
  clear NHB
  have y0 := RowIs.cell (j := 0) RY rfl
  have y1 := RowIs.cell (j := 1) RY rfl
  have y2 := RowIs.cell (j := 2) RY rfl
  have y3 := RowIs.cell (j := 3) RY rfl
  have y4 := RowIs.cell (j := 4) RY rfl
  have y5 := RowIs.cell (j := 5) RY rfl
  have y6 := RowIs.cell (j := 6) RY rfl
  have y7 := RowIs.cell (j := 7) RY rfl
  have y8 := RowIs.cell (j := 8) RY rfl
  have y9 := RowIs.cell (j := 9) RY rfl
  have yf := fun j => RowIs.frozen RY j
  have yl := RY.lt
  refine bodyPost_ret (v := .agg #[.int .i64 r, .string b, .bool e, .bool k, .int .i64 wt, .int .i64 r2, .string b2, .bool e2, .bool k2, .int .i64 cm]) (by simp [results, Try.results31, go_sem, *]) rfl ?_
  exact ⟨rfl, HB⟩
set_option maxHeartbeats 1000000 in
theorem lanesRight16 (t : TuD) (w : World) (h1 : t.up.b.size ≤ maxLen) (h2 : t.dn.b.size ≤ maxLen) : Calls Try.prog 32 #[lnv t] w fun x w' => x = .returned (.bool (okTu t)) ∧ Below w.heap.size w w' := by
  obtain ⟨⟨r, b, e, k⟩, ⟨r2, b2, e2, k2⟩, wt, cm⟩ := t
  unfold okTu
  dsimp only [lnv] at *
  have RX := rowIs_new w 58 [.int .i64 r, .string b, .bool e, .bool k, .int .i64 wt, .int .i64 r2, .string b2, .bool e2, .bool k2, .int .i64 cm]
  have HB : Below w.heap.size w (w.alloc (.cells #[.int .i64 r, .string b, .bool e, .bool k, .int .i64 wt, .int .i64 r2, .string b2, .bool e2, .bool k2, .int .i64 cm] 58)) := (Below.refl _ _).alloc (Nat.le_refl _) _
  cases hu : okPp ⟨r, b, e, k⟩
  · go_enter Try.func32, Try.ntmps32
    go_wp2_with fail
    refine (right r b e k _ h1).mono ?_; rw [show okB r b k = _ from hu]; rintro x w1 ⟨rfl, hb⟩
    replace RX := RX.new hb
    replace HB := bchain HB hb
    clear hb
    have x0 := RowIs.cell (j := 0) RX rfl
    have x1 := RowIs.cell (j := 1) RX rfl
    have x2 := RowIs.cell (j := 2) RX rfl
    have x3 := RowIs.cell (j := 3) RX rfl
    have x4 := RowIs.cell (j := 4) RX rfl
    have x5 := RowIs.cell (j := 5) RX rfl
    have x6 := RowIs.cell (j := 6) RX rfl
    have x7 := RowIs.cell (j := 7) RX rfl
    have x8 := RowIs.cell (j := 8) RX rfl
    have x9 := RowIs.cell (j := 9) RX rfl
    have xf := fun j => RowIs.frozen RX j
    have xl := RX.lt
    go_wp2_with fail
    go_ret
    exact ⟨rfl, HB⟩
  cases hd : okPp ⟨r2, b2, e2, k2⟩
  · go_enter Try.func32, Try.ntmps32
    go_wp2_with fail
    refine (right r b e k _ h1).mono ?_; rw [show okB r b k = _ from hu]; rintro x w1 ⟨rfl, hb⟩
    replace RX := RX.new hb
    replace HB := bchain HB hb
    clear hb
    have x0 := RowIs.cell (j := 0) RX rfl
    have x1 := RowIs.cell (j := 1) RX rfl
    have x2 := RowIs.cell (j := 2) RX rfl
    have x3 := RowIs.cell (j := 3) RX rfl
    have x4 := RowIs.cell (j := 4) RX rfl
    have x5 := RowIs.cell (j := 5) RX rfl
    have x6 := RowIs.cell (j := 6) RX rfl
    have x7 := RowIs.cell (j := 7) RX rfl
    have x8 := RowIs.cell (j := 8) RX rfl
    have x9 := RowIs.cell (j := 9) RX rfl
    have xf := fun j => RowIs.frozen RX j
    have xl := RX.lt
    go_wp2_with fail
    clear x0 x1 x2 x3 x4 x5 x6 x7 x8 x9 xf xl
    refine (right r2 b2 e2 k2 _ h2).mono ?_; rw [show okB r2 b2 k2 = _ from hd]; rintro x w2 ⟨rfl, hb⟩
    replace RX := RX.new hb
    replace HB := bchain HB hb
    clear hb
    have x0 := RowIs.cell (j := 0) RX rfl
    have x1 := RowIs.cell (j := 1) RX rfl
    have x2 := RowIs.cell (j := 2) RX rfl
    have x3 := RowIs.cell (j := 3) RX rfl
    have x4 := RowIs.cell (j := 4) RX rfl
    have x5 := RowIs.cell (j := 5) RX rfl
    have x6 := RowIs.cell (j := 6) RX rfl
    have x7 := RowIs.cell (j := 7) RX rfl
    have x8 := RowIs.cell (j := 8) RX rfl
    have x9 := RowIs.cell (j := 9) RX rfl
    have xf := fun j => RowIs.frozen RX j
    have xl := RX.lt
    go_wp2_with fail
    go_ret
    exact ⟨rfl, HB⟩
  cases hw : inB wt 0 1000000
  · go_enter Try.func32, Try.ntmps32
    go_wp2_with fail
    refine (right r b e k _ h1).mono ?_; rw [show okB r b k = _ from hu]; rintro x w1 ⟨rfl, hb⟩
    replace RX := RX.new hb
    replace HB := bchain HB hb
    clear hb
    have x0 := RowIs.cell (j := 0) RX rfl
    have x1 := RowIs.cell (j := 1) RX rfl
    have x2 := RowIs.cell (j := 2) RX rfl
    have x3 := RowIs.cell (j := 3) RX rfl
    have x4 := RowIs.cell (j := 4) RX rfl
    have x5 := RowIs.cell (j := 5) RX rfl
    have x6 := RowIs.cell (j := 6) RX rfl
    have x7 := RowIs.cell (j := 7) RX rfl
    have x8 := RowIs.cell (j := 8) RX rfl
    have x9 := RowIs.cell (j := 9) RX rfl
    have xf := fun j => RowIs.frozen RX j
    have xl := RX.lt
    go_wp2_with fail
    clear x0 x1 x2 x3 x4 x5 x6 x7 x8 x9 xf xl
    refine (right r2 b2 e2 k2 _ h2).mono ?_; rw [show okB r2 b2 k2 = _ from hd]; rintro x w2 ⟨rfl, hb⟩
    replace RX := RX.new hb
    replace HB := bchain HB hb
    clear hb
    have x0 := RowIs.cell (j := 0) RX rfl
    have x1 := RowIs.cell (j := 1) RX rfl
    have x2 := RowIs.cell (j := 2) RX rfl
    have x3 := RowIs.cell (j := 3) RX rfl
    have x4 := RowIs.cell (j := 4) RX rfl
    have x5 := RowIs.cell (j := 5) RX rfl
    have x6 := RowIs.cell (j := 6) RX rfl
    have x7 := RowIs.cell (j := 7) RX rfl
    have x8 := RowIs.cell (j := 8) RX rfl
    have x9 := RowIs.cell (j := 9) RX rfl
    have xf := fun j => RowIs.frozen RX j
    have xl := RX.lt
    go_wp2_with fail
    refine (implWithin _ _ _ _).mono ?_; rw [hw]; rintro e w7 ⟨rfl, hsame⟩; obtain rfl := hsame.symm; clear hsame
    go_wp2_with fail
    go_ret
    exact ⟨rfl, HB⟩
  cases hm : inB cm 0 1000000
  · go_enter Try.func32, Try.ntmps32
    go_wp2_with fail
    refine (right r b e k _ h1).mono ?_; rw [show okB r b k = _ from hu]; rintro x w1 ⟨rfl, hb⟩
    replace RX := RX.new hb
    replace HB := bchain HB hb
    clear hb
    have x0 := RowIs.cell (j := 0) RX rfl
    have x1 := RowIs.cell (j := 1) RX rfl
    have x2 := RowIs.cell (j := 2) RX rfl
    have x3 := RowIs.cell (j := 3) RX rfl
    have x4 := RowIs.cell (j := 4) RX rfl
    have x5 := RowIs.cell (j := 5) RX rfl
    have x6 := RowIs.cell (j := 6) RX rfl
    have x7 := RowIs.cell (j := 7) RX rfl
    have x8 := RowIs.cell (j := 8) RX rfl
    have x9 := RowIs.cell (j := 9) RX rfl
    have xf := fun j => RowIs.frozen RX j
    have xl := RX.lt
    go_wp2_with fail
    clear x0 x1 x2 x3 x4 x5 x6 x7 x8 x9 xf xl
    refine (right r2 b2 e2 k2 _ h2).mono ?_; rw [show okB r2 b2 k2 = _ from hd]; rintro x w2 ⟨rfl, hb⟩
    replace RX := RX.new hb
    replace HB := bchain HB hb
    clear hb
    have x0 := RowIs.cell (j := 0) RX rfl
    have x1 := RowIs.cell (j := 1) RX rfl
    have x2 := RowIs.cell (j := 2) RX rfl
    have x3 := RowIs.cell (j := 3) RX rfl
    have x4 := RowIs.cell (j := 4) RX rfl
    have x5 := RowIs.cell (j := 5) RX rfl
    have x6 := RowIs.cell (j := 6) RX rfl
    have x7 := RowIs.cell (j := 7) RX rfl
    have x8 := RowIs.cell (j := 8) RX rfl
    have x9 := RowIs.cell (j := 9) RX rfl
    have xf := fun j => RowIs.frozen RX j
    have xl := RX.lt
    go_wp2_with fail
    refine (implWithin _ _ _ _).mono ?_; rw [hw]; rintro e w7 ⟨rfl, hsame⟩; obtain rfl := hsame.symm; clear hsame
    go_wp2_with fail
    refine (implWithin _ _ _ _).mono ?_; rw [hm]; rintro e w8 ⟨rfl, hsame⟩; obtain rfl := hsame.symm; clear hsame
    go_wp2_with fail
    go_ret
    exact ⟨rfl, HB⟩
  go_enter Try.func32, Try.ntmps32
  go_wp2_with fail
  refine (right r b e k _ h1).mono ?_; rw [show okB r b k = _ from hu]; rintro x w1 ⟨rfl, hb⟩
  replace RX := RX.new hb
  replace HB := bchain HB hb
  clear hb
  have x0 := RowIs.cell (j := 0) RX rfl
  have x1 := RowIs.cell (j := 1) RX rfl
  have x2 := RowIs.cell (j := 2) RX rfl
  have x3 := RowIs.cell (j := 3) RX rfl
  have x4 := RowIs.cell (j := 4) RX rfl
  have x5 := RowIs.cell (j := 5) RX rfl
  have x6 := RowIs.cell (j := 6) RX rfl
  have x7 := RowIs.cell (j := 7) RX rfl
  have x8 := RowIs.cell (j := 8) RX rfl
  have x9 := RowIs.cell (j := 9) RX rfl
  have xf := fun j => RowIs.frozen RX j
  have xl := RX.lt
  go_wp2_with fail
  clear x0 x1 x2 x3 x4 x5 x6 x7 x8 x9 xf xl
  refine (right r2 b2 e2 k2 _ h2).mono ?_; rw [show okB r2 b2 k2 = _ from hd]; rintro x w2 ⟨rfl, hb⟩
  replace RX := RX.new hb
  replace HB := bchain HB hb
  clear hb
  have x0 := RowIs.cell (j := 0) RX rfl
  have x1 := RowIs.cell (j := 1) RX rfl
  have x2 := RowIs.cell (j := 2) RX rfl
  have x3 := RowIs.cell (j := 3) RX rfl
  have x4 := RowIs.cell (j := 4) RX rfl
  have x5 := RowIs.cell (j := 5) RX rfl
  have x6 := RowIs.cell (j := 6) RX rfl
  have x7 := RowIs.cell (j := 7) RX rfl
  have x8 := RowIs.cell (j := 8) RX rfl
  have x9 := RowIs.cell (j := 9) RX rfl
  have xf := fun j => RowIs.frozen RX j
  have xl := RX.lt
  go_wp2_with fail
  refine (implWithin _ _ _ _).mono ?_; rw [hw]; rintro e w7 ⟨rfl, hsame⟩; obtain rfl := hsame.symm; clear hsame
  go_wp2_with fail
  refine (implWithin _ _ _ _).mono ?_; rw [hm]; rintro e w8 ⟨rfl, hsame⟩; obtain rfl := hsame.symm; clear hsame
  go_wp2_with fail
  go_ret
  exact ⟨rfl, HB⟩
set_option maxHeartbeats 1000000 in
theorem lanesTunnel16 (t : TuD) (w : World) (h1 : t.up.b.size ≤ 281474976710656) (h2 : t.dn.b.size ≤ 281474976710656) : Calls Try.prog 34 #[lnv t] w fun x w' => x = .returned (tuv t) ∧ Below w.heap.size w w' := by
  obtain ⟨⟨r, b, e, k⟩, ⟨r2, b2, e2, k2⟩, wt, cm⟩ := t
  dsimp only [tuv, lnv] at *
  obtain ⟨W, hW⟩ : ∃ W, ((w.alloc (.cells #[.int .i64 r, .string b, .bool e, .bool k, .int .i64 wt, .int .i64 r2, .string b2, .bool e2, .bool k2, .int .i64 cm] 58)).alloc (.cells #[.int .i64 0, .string ⟨#[]⟩, .bool false, .bool false, .int .i64 0, .string ⟨#[]⟩, .bool false, .bool false, .int .i64 0, .int .i64 0] 27)) = W := ⟨_, rfl⟩
  have RX : RowIs W w.heap.size 58 [.int .i64 r, .string b, .bool e, .bool k, .int .i64 wt, .int .i64 r2, .string b2, .bool e2, .bool k2, .int .i64 cm] := by rw [← hW]; exact (rowIs_new w 58 [.int .i64 r, .string b, .bool e, .bool k, .int .i64 wt, .int .i64 r2, .string b2, .bool e2, .bool k2, .int .i64 cm]).alloc _
  have RY : RowIs W (w.heap.size + 1) 27 [.int .i64 0, .string ⟨#[]⟩, .bool false, .bool false, .int .i64 0, .string ⟨#[]⟩, .bool false, .bool false, .int .i64 0, .int .i64 0] := by have := rowIs_new (w.alloc (.cells #[.int .i64 r, .string b, .bool e, .bool k, .int .i64 wt, .int .i64 r2, .string b2, .bool e2, .bool k2, .int .i64 cm] 58)) 27 [.int .i64 0, .string ⟨#[]⟩, .bool false, .bool false, .int .i64 0, .string ⟨#[]⟩, .bool false, .bool false, .int .i64 0, .int .i64 0]; rw [hW] at this; simpa using this
  have HB : Below w.heap.size w W := by rw [← hW]; exact (((Below.refl _ _).alloc (Nat.le_refl _) _).alloc (by simp) _)
  go_enter Try.func34, Try.ntmps34
  go_upto_region 1 with fail
  try rw [hW]
  clear hW
  refine wp_region_held_drew (S := (fun u => RowIs u w.heap.size 58 [.int .i64 r, .string b, .bool e, .bool k, .int .i64 wt, .int .i64 r2, .string b2, .bool e2, .bool k2, .int .i64 cm])) (by kernel_rfl) (show RowIs (World.drew W) w.heap.size 58 [.int .i64 r, .string b, .bool e, .bool k, .int .i64 wt, .int .i64 r2, .string b2, .bool e2, .bool k2, .int .i64 cm] from RX) (fun hS => ?_)
  replace RY : RowIs (World.drew W) (w.heap.size + 1) 27 [.int .i64 0, .string ⟨#[]⟩, .bool false, .bool false, .int .i64 0, .string ⟨#[]⟩, .bool false, .bool false, .int .i64 0, .int .i64 0] := RY
  replace HB := HB.drew
  clear RX
  generalize World.drew W = u0 at *
  refine wpAnyH_take (i := 0) (v := ?_) rfl (by kernel_rfl) (by kernel_rfl) (by kernel_rfl) (fun _ _ _ h => h) (Or.inl ⟨by kernel_rfl, ?_⟩) hS ?_; rotate_left; focus (intro uu hu; clear hu; go_simp; try with_reducible rfl)
  try simp only [Act.put, List.getElem_toArray, List.getElem_cons_succ, List.getElem_cons_zero, List.setIfInBounds_toArray, List.set_cons_zero, List.set_cons_succ]
  refine wpAnyH_take (i := 1) (v := ?_) rfl (by kernel_rfl) (by kernel_rfl) (by kernel_rfl) (fun _ _ _ h => h) (Or.inl ⟨by kernel_rfl, ?_⟩) hS ?_; rotate_left; focus (intro uu hu; clear hu; go_simp; try with_reducible rfl)
  try simp only [Act.put, List.getElem_toArray, List.getElem_cons_succ, List.getElem_cons_zero, List.setIfInBounds_toArray, List.set_cons_zero, List.set_cons_succ]
  refine wpAnyH_take (i := 2) (v := .agg #[.int .i64 r, .string b, .bool e, .bool k]) rfl (by kernel_rfl) (by kernel_rfl) (by kernel_rfl) (fun _ _ _ h => h) (Or.inl ⟨by kernel_rfl, ?ld⟩) hS ?_; case ld => (intro uu hu; have l0 := RowIs.cell (j := 0) hu rfl; have l1 := RowIs.cell (j := 1) hu rfl; have l2 := RowIs.cell (j := 2) hu rfl; have l3 := RowIs.cell (j := 3) hu rfl; have ll := hu.lt; clear hu; go_simp)
  try simp only [Act.put, List.getElem_toArray, List.getElem_cons_succ, List.getElem_cons_zero, List.setIfInBounds_toArray, List.set_cons_zero, List.set_cons_succ]
  refine wpAnyH_take (i := 4) (v := ?_) rfl (by kernel_rfl) (by kernel_rfl) (by kernel_rfl) (fun _ _ _ h => h) (Or.inl ⟨by kernel_rfl, ?_⟩) hS ?_; rotate_left; focus (intro uu hu; clear hu; go_simp; try with_reducible rfl)
  try simp only [Act.put, List.getElem_toArray, List.getElem_cons_succ, List.getElem_cons_zero, List.setIfInBounds_toArray, List.set_cons_zero, List.set_cons_succ]
  refine wpAnyH_take (i := 5) (v := ?_) rfl (by kernel_rfl) (by kernel_rfl) (by kernel_rfl) (fun _ _ _ h => h) (Or.inl ⟨by kernel_rfl, ?_⟩) hS ?_; rotate_left; focus (intro uu hu; clear hu; go_simp; try with_reducible rfl)
  try simp only [Act.put, List.getElem_toArray, List.getElem_cons_succ, List.getElem_cons_zero, List.setIfInBounds_toArray, List.set_cons_zero, List.set_cons_succ]
  refine wpAnyH_take (i := 6) (v := .agg #[.int .i64 r2, .string b2, .bool e2, .bool k2]) rfl (by kernel_rfl) (by kernel_rfl) (by kernel_rfl) (fun _ _ _ h => h) (Or.inl ⟨by kernel_rfl, ?ld⟩) hS ?_; case ld => (intro uu hu; have l5 := RowIs.cell (j := 5) hu rfl; have l6 := RowIs.cell (j := 6) hu rfl; have l7 := RowIs.cell (j := 7) hu rfl; have l8 := RowIs.cell (j := 8) hu rfl; have ll := hu.lt; clear hu; go_simp)
  try simp only [Act.put, List.getElem_toArray, List.getElem_cons_succ, List.getElem_cons_zero, List.setIfInBounds_toArray, List.set_cons_zero, List.set_cons_succ]
  refine wpAnyH_take (i := 8) (v := ?_) rfl (by kernel_rfl) (by kernel_rfl) (by kernel_rfl) (fun _ _ _ h => h) (Or.inl ⟨by kernel_rfl, ?_⟩) hS ?_; rotate_left; focus (intro uu hu; clear hu; go_simp; try with_reducible rfl)
  try simp only [Act.put, List.getElem_toArray, List.getElem_cons_succ, List.getElem_cons_zero, List.setIfInBounds_toArray, List.set_cons_zero, List.set_cons_succ]
  refine wpAnyH_take (i := 9) (v := ?_) rfl (by kernel_rfl) (by kernel_rfl) (by kernel_rfl) (fun _ _ _ h => h) (Or.inl ⟨by kernel_rfl, ?_⟩) hS ?_; rotate_left; focus (intro uu hu; clear hu; go_simp; try with_reducible rfl)
  try simp only [Act.put, List.getElem_toArray, List.getElem_cons_succ, List.getElem_cons_zero, List.setIfInBounds_toArray, List.set_cons_zero, List.set_cons_succ]
  refine wpAnyH_take (i := 10) (v := .int .i64 wt) rfl (by kernel_rfl) (by kernel_rfl) (by kernel_rfl) (fun _ _ _ h => h) (Or.inl ⟨by kernel_rfl, ?ld⟩) hS ?_; case ld => (intro uu hu; have l4 := RowIs.cell (j := 4) hu rfl; have ll := hu.lt; clear hu; go_simp)
  try simp only [Act.put, List.getElem_toArray, List.getElem_cons_succ, List.getElem_cons_zero, List.setIfInBounds_toArray, List.set_cons_zero, List.set_cons_succ]
  refine wpAnyH_take (i := 11) (v := ?_) rfl (by kernel_rfl) (by kernel_rfl) (by kernel_rfl) (fun _ _ _ h => h) (Or.inl ⟨by kernel_rfl, ?_⟩) hS ?_; rotate_left; focus (intro uu hu; clear hu; go_simp; try with_reducible rfl)
  try simp only [Act.put, List.getElem_toArray, List.getElem_cons_succ, List.getElem_cons_zero, List.setIfInBounds_toArray, List.set_cons_zero, List.set_cons_succ]
  refine wpAnyH_take (i := 12) (v := ?_) rfl (by kernel_rfl) (by kernel_rfl) (by kernel_rfl) (fun _ _ _ h => h) (Or.inl ⟨by kernel_rfl, ?_⟩) hS ?_; rotate_left; focus (intro uu hu; clear hu; go_simp; try with_reducible rfl)
  try simp only [Act.put, List.getElem_toArray, List.getElem_cons_succ, List.getElem_cons_zero, List.setIfInBounds_toArray, List.set_cons_zero, List.set_cons_succ]
  refine wpAnyH_take (i := 13) (v := .int .i64 cm) rfl (by kernel_rfl) (by kernel_rfl) (by kernel_rfl) (fun _ _ _ h => h) (Or.inl ⟨by kernel_rfl, ?ld⟩) hS ?_; case ld => (intro uu hu; have l9 := RowIs.cell (j := 9) hu rfl; have ll := hu.lt; clear hu; go_simp)
  try simp only [Act.put, List.getElem_toArray, List.getElem_cons_succ, List.getElem_cons_zero, List.setIfInBounds_toArray, List.set_cons_zero, List.set_cons_succ]
  refine wpAnyH_ready (rs := [3]) (by kernel_rfl) (by simp) ?_; refine AllReadyH.cons rfl (fun K hK => ?_) AllReadyH.nil; rw [if_pos (by kernel_rfl)]; go_simp
  refine (apart r b e k _ (by omega)).mono ?_; rintro x u1 ⟨rfl, hb⟩
  replace RY := RY.new hb
  replace HB := bchain HB hb
  refine hK.out _ _ (hS.new hb) (fun hS => ?_)
  clear hK K hb
  try simp only [Act.put, List.getElem_toArray, List.getElem_cons_succ, List.getElem_cons_zero, List.setIfInBounds_toArray, List.set_cons_zero, List.set_cons_succ]
  refine wpAnyH_ready (rs := [7]) (by kernel_rfl) (by simp) ?_; refine AllReadyH.cons rfl (fun K hK => ?_) AllReadyH.nil; rw [if_pos (by kernel_rfl)]; go_simp
  refine (apart r2 b2 e2 k2 _ (by omega)).mono ?_; rintro x u2 ⟨rfl, hb⟩
  replace RY := RY.new hb
  replace HB := bchain HB hb
  refine hK.out _ _ (hS.new hb) (fun hS => ?_)
  clear hK K hb
  try simp only [Act.put, List.getElem_toArray, List.getElem_cons_succ, List.getElem_cons_zero, List.setIfInBounds_toArray, List.set_cons_zero, List.set_cons_succ]
  refine wpAnyH_take (i := 14) (v := ?_) rfl (by kernel_rfl) (by kernel_rfl) (by kernel_rfl) (fun _ _ _ h => h) (Or.inl ⟨by kernel_rfl, ?_⟩) hS ?_; rotate_left; focus (intro uu hu; clear hu; go_simp; try with_reducible rfl)
  try simp only [Act.put, List.getElem_toArray, List.getElem_cons_succ, List.getElem_cons_zero, List.setIfInBounds_toArray, List.set_cons_zero, List.set_cons_succ]
  refine wpAnyH_ready (rs := [15]) (by kernel_rfl) (by simp) ?_; refine AllReadyH.cons rfl (fun K hK => ?_) AllReadyH.nil; rw [if_pos (by kernel_rfl)]
  refine wp_store_row 27 (.tmp 2) (.tmp 17) rfl (w.heap.size + 1) #[.int .i64 r, .string b, .bool e, .bool k, .int .i64 r2, .string b2, .bool e2, .bool k2, .int .i64 wt, .int .i64 cm] rfl rfl 27 #[.int .i64 0, .string ⟨#[]⟩, .bool false, .bool false, .int .i64 0, .string ⟨#[]⟩, .bool false, .bool false, .int .i64 0, .int .i64 0] RY (by kernel_rfl) rfl (by simp [Value.oneCell']) ?_
  have NY : RowIs (u2.setRow (w.heap.size + 1) #[.int .i64 r, .string b, .bool e, .bool k, .int .i64 r2, .string b2, .bool e2, .bool k2, .int .i64 wt, .int .i64 cm]) (w.heap.size + 1) 27 [.int .i64 r, .string b, .bool e, .bool k, .int .i64 r2, .string b2, .bool e2, .bool k2, .int .i64 wt, .int .i64 cm] := rowIs_setRow (cs' := [.int .i64 r, .string b, .bool e, .bool k, .int .i64 r2, .string b2, .bool e2, .bool k2, .int .i64 wt, .int .i64 cm]) RY
  replace HB := below_setRow HB (show w.heap.size ≤ w.heap.size + 1 by omega) #[.int .i64 r, .string b, .bool e, .bool k, .int .i64 r2, .string b2, .bool e2, .bool k2, .int .i64 wt, .int .i64 cm]
  have hS2 := hS.kept (setRow_other u2 (w.heap.size + 1) #[.int .i64 r, .string b, .bool e, .bool k, .int .i64 r2, .string b2, .bool e2, .bool k2, .int .i64 wt, .int .i64 cm] w.heap.size (by omega))
  clear RY
  generalize hV : u2.setRow (w.heap.size + 1) #[.int .i64 r, .string b, .bool e, .bool k, .int .i64 r2, .string b2, .bool e2, .bool k2, .int .i64 wt, .int .i64 cm] = V9 at *
  clear hV
  refine hK.out _ _ hS2 (fun hS => ?_)
  clear hK K hS2
  try simp only [Act.put, List.getElem_toArray, List.getElem_cons_succ, List.getElem_cons_zero, List.setIfInBounds_toArray, List.set_cons_zero, List.set_cons_succ]
  refine wpAnyH_done (by kernel_rfl) ?_ _
  clear hS
  have RY := NY
  go_wp2_with fail
  have y0 := RowIs.cell (j := 0) RY rfl
  have y1 := RowIs.cell (j := 1) RY rfl
  have y2 := RowIs.cell (j := 2) RY rfl
  have y3 := RowIs.cell (j := 3) RY rfl
  have y4 := RowIs.cell (j := 4) RY rfl
  have y5 := RowIs.cell (j := 5) RY rfl
  have y6 := RowIs.cell (j := 6) RY rfl
  have y7 := RowIs.cell (j := 7) RY rfl
  have y8 := RowIs.cell (j := 8) RY rfl
  have y9 := RowIs.cell (j := 9) RY rfl
  have yf := fun j => RowIs.frozen RY j
  have yl := RY.lt
  refine bodyPost_ret (v := .agg #[.int .i64 r, .string b, .bool e, .bool k, .int .i64 r2, .string b2, .bool e2, .bool k2, .int .i64 wt, .int .i64 cm]) (by simp [results, Try.results34, go_sem, *]) rfl ?_
  exact ⟨rfl, HB⟩
set_option maxHeartbeats 1000000 in
theorem takeIn16_shut (r : Int) (b : ByteArray) (e k : Bool) (r2 : Int) (b2 : ByteArray) (e2 k2 : Bool) (wt cm : Int) (s : ByteArray) (fin : Bool) (g : Nat) (w : World) (R : RowIs w g 58 [.int .i64 r, .string b, .bool e, .bool k, .int .i64 wt, .int .i64 r2, .string b2, .bool e2, .bool k2, .int .i64 cm]) (hek : (e || k) = true) :
    Calls Try.prog 33 #[.pointer (some ⟨g, 0, none⟩), .string s, .bool fin] w fun x w' => x = .returned (.bool false) ∧ RowIs w' g 58 [.int .i64 r, .string b, .bool e, .bool k, .int .i64 wt, .int .i64 r2, .string b2, .bool e2, .bool k2, .int .i64 cm] ∧ Turn g (g + 1) w w' := by
  have HB : Turn g (g + 1) w w := Turn.refl _ _ _
  have x0 := RowIs.cell (j := 0) R rfl
  have x1 := RowIs.cell (j := 1) R rfl
  have x2 := RowIs.cell (j := 2) R rfl
  have x3 := RowIs.cell (j := 3) R rfl
  have xl := R.lt
  go_enter Try.func33, Try.ntmps33
  go_upto_region 1 with fail
  have y0 : ∀ y : Later w, y.w.cell? ⟨g, 0, none⟩ = some (.int .i64 r) := fun y => (y.b.cell (p := ⟨g, 0, none⟩) xl).trans x0
  have y1 : ∀ y : Later w, y.w.cell? ⟨g, 1, none⟩ = some (.string b) := fun y => (y.b.cell (p := ⟨g, 1, none⟩) xl).trans x1
  have y2 : ∀ y : Later w, y.w.cell? ⟨g, 2, none⟩ = some (.bool e) := fun y => (y.b.cell (p := ⟨g, 2, none⟩) xl).trans x2
  have y3 : ∀ y : Later w, y.w.cell? ⟨g, 3, none⟩ = some (.bool k) := fun y => (y.b.cell (p := ⟨g, 3, none⟩) xl).trans x3
  clear x0 x1 x2 x3
  have hsh := fun (u : World) => shut r b e k u
  rw [hek] at hsh
  have hne : Nonempty (Later w) := ⟨⟨w, Below.refl _ _⟩⟩; refine region_later (by kernel_rfl) (by kernel_rfl) ?_
  iterate 4 (go_big_quiet_step (fail))
  go_big_quiet_want; go_big_quiet_op; refine ⟨(.bool true), fun y => later_calls (x := y) (hsh y.w), ?_⟩; go_big_quiet_on
  repeat (go_big_quiet_step (fail))
  refine wpQuiet_nil ?_; intro _ hw'; obtain ⟨y, hw''⟩ := hw'; subst hw''; have hby := y.b
  generalize hV : y.w = V1 at *
  clear hV
  replace R := R.new hby
  replace HB := HB.trans (turn_new hby _ _)
  clear hby y0 y1 y2 y3 xl hne
  go_wp2_with fail
  go_ret
  exact ⟨rfl, R, HB⟩
set_option maxHeartbeats 1000000 in
theorem takeIn16_room (r : Int) (b : ByteArray) (r2 : Int) (b2 : ByteArray) (e2 k2 : Bool) (wt cm : Int) (s : ByteArray) (fin : Bool) (g : Nat) (w : World) (R : RowIs w g 58 [.int .i64 r, .string b, .bool false, .bool false, .int .i64 wt, .int .i64 r2, .string b2, .bool e2, .bool k2, .int .i64 cm]) (hb1 : b.size ≤ 2000) (hr1 : r ≤ 2000) (hr0 : 1 ≤ r) (hs : s.size ≤ maxLen) (hno : r - b.size < s.size) :
    Calls Try.prog 33 #[.pointer (some ⟨g, 0, none⟩), .string s, .bool fin] w fun x w' => x = .returned (.bool false) ∧ RowIs w' g 58 [.int .i64 r, .string b, .bool false, .bool false, .int .i64 wt, .int .i64 r2, .string b2, .bool e2, .bool k2, .int .i64 cm] ∧ Turn g (g + 1) w w' := by
  have HB : Turn g (g + 1) w w := Turn.refl _ _ _
  unfold maxLen at hs
  have e1 : IntKind.i64.wrap (r - (b.size : Int)) = r - b.size := by rw [IntKind.wrap_i64]; omega
  have hgt : (s.size : Int) > r - b.size := by omega
  have x0 := RowIs.cell (j := 0) R rfl
  have x1 := RowIs.cell (j := 1) R rfl
  have x2 := RowIs.cell (j := 2) R rfl
  have x3 := RowIs.cell (j := 3) R rfl
  have xl := R.lt
  go_enter Try.func33, Try.ntmps33
  go_upto_region 1 with fail
  have y0 : ∀ y : Later w, y.w.cell? ⟨g, 0, none⟩ = some (.int .i64 r) := fun y => (y.b.cell (p := ⟨g, 0, none⟩) xl).trans x0
  have y1 : ∀ y : Later w, y.w.cell? ⟨g, 1, none⟩ = some (.string b) := fun y => (y.b.cell (p := ⟨g, 1, none⟩) xl).trans x1
  have y2 : ∀ y : Later w, y.w.cell? ⟨g, 2, none⟩ = some (.bool false) := fun y => (y.b.cell (p := ⟨g, 2, none⟩) xl).trans x2
  have y3 : ∀ y : Later w, y.w.cell? ⟨g, 3, none⟩ = some (.bool false) := fun y => (y.b.cell (p := ⟨g, 3, none⟩) xl).trans x3
  clear x0 x1 x2 x3
  have hsh := fun (u : World) => shut r b false false u
  rw [show (false || false) = false from rfl] at hsh
  have hne : Nonempty (Later w) := ⟨⟨w, Below.refl _ _⟩⟩; refine region_later (by kernel_rfl) (by kernel_rfl) ?_
  iterate 4 (go_big_quiet_step (fail))
  go_big_quiet_want; go_big_quiet_op; refine ⟨(.bool false), fun y => later_calls (x := y) (hsh y.w), ?_⟩; go_big_quiet_on
  repeat (go_big_quiet_step (fail))
  refine wpQuiet_nil ?_; intro _ hw'; obtain ⟨y, hw''⟩ := hw'; subst hw''; have hby := y.b
  generalize hV : y.w = V1 at *
  clear hV
  replace R := R.new hby
  replace HB := HB.trans (turn_new hby _ _)
  clear hby y0 y1 y2 y3 xl hne
  go_wp2_with fail
  go_ret
  exact ⟨rfl, R, HB⟩
set_option maxHeartbeats 1000000 in
theorem takeIn16_yes (r : Int) (b : ByteArray) (r2 : Int) (b2 : ByteArray) (e2 k2 : Bool) (wt cm : Int) (s : ByteArray) (g : Nat) (w : World) (R : RowIs w g 58 [.int .i64 r, .string b, .bool false, .bool false, .int .i64 wt, .int .i64 r2, .string b2, .bool e2, .bool k2, .int .i64 cm]) (hr0 : 1 ≤ r) (hr1 : r ≤ 2000) (hb1 : (b.size : Int) ≤ r) (hs : s.size ≤ 1048576) (hyes : (s.size : Int) ≤ r - b.size) :
    Calls Try.prog 33 #[.pointer (some ⟨g, 0, none⟩), .string s, .bool false] w fun x w' => x = .returned (.bool true) ∧ RowIs w' g 58 [.int .i64 r, .string (b ++ s), .bool false, .bool false, .int .i64 wt, .int .i64 r2, .string b2, .bool e2, .bool k2, .int .i64 cm] ∧ Turn g (g + 1) w w' := by
  have HB : Turn g (g + 1) w w := Turn.refl _ _ _
  have e1 : IntKind.i64.wrap (r - (b.size : Int)) = r - b.size := by rw [IntKind.wrap_i64]; omega
  have hgt : ¬ (s.size : Int) > r - b.size := by omega
  have x0 := RowIs.cell (j := 0) R rfl
  have x1 := RowIs.cell (j := 1) R rfl
  have x2 := RowIs.cell (j := 2) R rfl
  have x3 := RowIs.cell (j := 3) R rfl
  have xl := R.lt
  go_enter Try.func33, Try.ntmps33
  go_upto_region 1 with fail
  have y0 : ∀ y : Later w, y.w.cell? ⟨g, 0, none⟩ = some (.int .i64 r) := fun y => (y.b.cell (p := ⟨g, 0, none⟩) xl).trans x0
  have y1 : ∀ y : Later w, y.w.cell? ⟨g, 1, none⟩ = some (.string b) := fun y => (y.b.cell (p := ⟨g, 1, none⟩) xl).trans x1
  have y2 : ∀ y : Later w, y.w.cell? ⟨g, 2, none⟩ = some (.bool false) := fun y => (y.b.cell (p := ⟨g, 2, none⟩) xl).trans x2
  have y3 : ∀ y : Later w, y.w.cell? ⟨g, 3, none⟩ = some (.bool false) := fun y => (y.b.cell (p := ⟨g, 3, none⟩) xl).trans x3
  clear x0 x1 x2 x3
  have hsh := fun (u : World) => shut r b false false u
  rw [show (false || false) = false from rfl] at hsh
  have hne : Nonempty (Later w) := ⟨⟨w, Below.refl _ _⟩⟩; refine region_later (by kernel_rfl) (by kernel_rfl) ?_
  iterate 4 (go_big_quiet_step (fail))
  go_big_quiet_want; go_big_quiet_op; refine ⟨(.bool false), fun y => later_calls (x := y) (hsh y.w), ?_⟩; go_big_quiet_on
  repeat (go_big_quiet_step (fail))
  refine wpQuiet_nil ?_; intro _ hw'; obtain ⟨y, hw''⟩ := hw'; subst hw''; have hby := y.b
  generalize hV : y.w = V1 at *
  clear hV
  replace R := R.new hby
  replace HB := HB.trans (turn_new hby _ _)
  clear hby y0 y1 y2 y3 xl hne
  have hsx : s.extract 0 s.size = s := by simp
  have hcm : comes r b s = s.size := by unfold comes; omega
  have hokb : okB r b false = true := by rw [okB_rest ⟨hr0, hr1, hb1⟩]; rfl
  have hpu := fun (u : World) => push r b s false false u hokb hs
  simp only [pushedV_open r b s false false rfl, hcm, hsx] at hpu
  have z0 := RowIs.cell (j := 0) R rfl
  have z1 := RowIs.cell (j := 1) R rfl
  have z2 := RowIs.cell (j := 2) R rfl
  have z3 := RowIs.cell (j := 3) R rfl
  have zf := fun j => RowIs.frozen R j
  have zl := R.lt
  go_wp2_with fail
  clear z0 z1 z2 z3 zf zl
  refine (hpu _).mono ?_; rintro x w1 ⟨rfl, hb⟩
  replace R := R.new hb
  replace HB := HB.trans (turn_new hb _ _)
  clear hb
  clear hpu
  have z0 := RowIs.cell (j := 0) R rfl
  have z1 := RowIs.cell (j := 1) R rfl
  have z2 := RowIs.cell (j := 2) R rfl
  have z3 := RowIs.cell (j := 3) R rfl
  have zf := fun j => RowIs.frozen R j
  have zl := R.lt
  go_upto_region 4 with fail
  clear z0 z1 z2 z3 zf zl
  have NR : RowIs ((((w1.setCell ⟨g, 0, none⟩ (.int .i64 r)).setCell ⟨g, 1, none⟩ (.string (b ++ s))).setCell ⟨g, 2, none⟩ (.bool false)).setCell ⟨g, 3, none⟩ (.bool false)) g 58 [.int .i64 r, .string (b ++ s), .bool false, .bool false, .int .i64 wt, .int .i64 r2, .string b2, .bool e2, .bool k2, .int .i64 cm] := ((((R.set 0 (.int .i64 r)).set 1 (.string (b ++ s))).set 2 (.bool false)).set 3 (.bool false))
  have NHB : Turn g (g + 1) w ((((w1.setCell ⟨g, 0, none⟩ (.int .i64 r)).setCell ⟨g, 1, none⟩ (.string (b ++ s))).setCell ⟨g, 2, none⟩ (.bool false)).setCell ⟨g, 3, none⟩ (.bool false)) := (Turn.setCell (Turn.setCell (Turn.setCell (Turn.setCell HB (p := ⟨g, 0, none⟩) (.int .i64 r) (.inl ⟨Nat.le_refl _, Nat.lt_succ_self _⟩)) (p := ⟨g, 1, none⟩) (.string (b ++ s)) (.inl ⟨Nat.le_refl _, Nat.lt_succ_self _⟩)) (p := ⟨g, 2, none⟩) (.bool false) (.inl ⟨Nat.le_refl _, Nat.lt_succ_self _⟩)) (p := ⟨g, 3, none⟩) (.bool false) (.inl ⟨Nat.le_refl _, Nat.lt_succ_self _⟩))
  generalize hV : ((((w1.setCell ⟨g, 0, none⟩ (.int .i64 r)).setCell ⟨g, 1, none⟩ (.string (b ++ s))).setCell ⟨g, 2, none⟩ (.bool false)).setCell ⟨g, 3, none⟩ (.bool false)) = V2 at *
  clear hV
  clear R
  have R := NR
  clear NR
  clear HB
  have HB := NHB
  clear NHB
  go_wp2_with fail
  go_ret
  exact ⟨rfl, R, HB⟩
set_option maxHeartbeats 1000000 in
theorem takeIn16_yesfin (r : Int) (b : ByteArray) (r2 : Int) (b2 : ByteArray) (e2 k2 : Bool) (wt cm : Int) (s : ByteArray) (g : Nat) (w : World) (R : RowIs w g 58 [.int .i64 r, .string b, .bool false, .bool false, .int .i64 wt, .int .i64 r2, .string b2, .bool e2, .bool k2, .int .i64 cm]) (hr0 : 1 ≤ r) (hr1 : r ≤ 2000) (hb1 : (b.size : Int) ≤ r) (hs : s.size ≤ 1048576) (hyes : (s.size : Int) ≤ r - b.size) :
    Calls Try.prog 33 #[.pointer (some ⟨g, 0, none⟩), .string s, .bool true] w fun x w' => x = .returned (.bool true) ∧ RowIs w' g 58 [.int .i64 r, .string (b ++ s), .bool true, .bool false, .int .i64 wt, .int .i64 r2, .string b2, .bool e2, .bool k2, .int .i64 cm] ∧ Turn g (g + 1) w w' := by
  have HB : Turn g (g + 1) w w := Turn.refl _ _ _
  have e1 : IntKind.i64.wrap (r - (b.size : Int)) = r - b.size := by rw [IntKind.wrap_i64]; omega
  have hgt : ¬ (s.size : Int) > r - b.size := by omega
  have x0 := RowIs.cell (j := 0) R rfl
  have x1 := RowIs.cell (j := 1) R rfl
  have x2 := RowIs.cell (j := 2) R rfl
  have x3 := RowIs.cell (j := 3) R rfl
  have xl := R.lt
  go_enter Try.func33, Try.ntmps33
  go_upto_region 1 with fail
  have y0 : ∀ y : Later w, y.w.cell? ⟨g, 0, none⟩ = some (.int .i64 r) := fun y => (y.b.cell (p := ⟨g, 0, none⟩) xl).trans x0
  have y1 : ∀ y : Later w, y.w.cell? ⟨g, 1, none⟩ = some (.string b) := fun y => (y.b.cell (p := ⟨g, 1, none⟩) xl).trans x1
  have y2 : ∀ y : Later w, y.w.cell? ⟨g, 2, none⟩ = some (.bool false) := fun y => (y.b.cell (p := ⟨g, 2, none⟩) xl).trans x2
  have y3 : ∀ y : Later w, y.w.cell? ⟨g, 3, none⟩ = some (.bool false) := fun y => (y.b.cell (p := ⟨g, 3, none⟩) xl).trans x3
  clear x0 x1 x2 x3
  have hsh := fun (u : World) => shut r b false false u
  rw [show (false || false) = false from rfl] at hsh
  have hne : Nonempty (Later w) := ⟨⟨w, Below.refl _ _⟩⟩; refine region_later (by kernel_rfl) (by kernel_rfl) ?_
  iterate 4 (go_big_quiet_step (fail))
  go_big_quiet_want; go_big_quiet_op; refine ⟨(.bool false), fun y => later_calls (x := y) (hsh y.w), ?_⟩; go_big_quiet_on
  repeat (go_big_quiet_step (fail))
  refine wpQuiet_nil ?_; intro _ hw'; obtain ⟨y, hw''⟩ := hw'; subst hw''; have hby := y.b
  generalize hV : y.w = V1 at *
  clear hV
  replace R := R.new hby
  replace HB := HB.trans (turn_new hby _ _)
  clear hby y0 y1 y2 y3 xl hne
  have hsx : s.extract 0 s.size = s := by simp
  have hcm : comes r b s = s.size := by unfold comes; omega
  have hokb : okB r b false = true := by rw [okB_rest ⟨hr0, hr1, hb1⟩]; rfl
  have hpu := fun (u : World) => push r b s false false u hokb hs
  simp only [pushedV_open r b s false false rfl, hcm, hsx] at hpu
  have z0 := RowIs.cell (j := 0) R rfl
  have z1 := RowIs.cell (j := 1) R rfl
  have z2 := RowIs.cell (j := 2) R rfl
  have z3 := RowIs.cell (j := 3) R rfl
  have zf := fun j => RowIs.frozen R j
  have zl := R.lt
  go_wp2_with fail
  clear z0 z1 z2 z3 zf zl
  refine (hpu _).mono ?_; rintro x w1 ⟨rfl, hb⟩
  replace R := R.new hb
  replace HB := HB.trans (turn_new hb _ _)
  clear hb
  clear hpu
  have z0 := RowIs.cell (j := 0) R rfl
  have z1 := RowIs.cell (j := 1) R rfl
  have z2 := RowIs.cell (j := 2) R rfl
  have z3 := RowIs.cell (j := 3) R rfl
  have zf := fun j => RowIs.frozen R j
  have zl := R.lt
  go_upto_region 4 with fail
  clear z0 z1 z2 z3 zf zl
  have NR : RowIs ((((w1.setCell ⟨g, 0, none⟩ (.int .i64 r)).setCell ⟨g, 1, none⟩ (.string (b ++ s))).setCell ⟨g, 2, none⟩ (.bool false)).setCell ⟨g, 3, none⟩ (.bool false)) g 58 [.int .i64 r, .string (b ++ s), .bool false, .bool false, .int .i64 wt, .int .i64 r2, .string b2, .bool e2, .bool k2, .int .i64 cm] := ((((R.set 0 (.int .i64 r)).set 1 (.string (b ++ s))).set 2 (.bool false)).set 3 (.bool false))
  have NHB : Turn g (g + 1) w ((((w1.setCell ⟨g, 0, none⟩ (.int .i64 r)).setCell ⟨g, 1, none⟩ (.string (b ++ s))).setCell ⟨g, 2, none⟩ (.bool false)).setCell ⟨g, 3, none⟩ (.bool false)) := (Turn.setCell (Turn.setCell (Turn.setCell (Turn.setCell HB (p := ⟨g, 0, none⟩) (.int .i64 r) (.inl ⟨Nat.le_refl _, Nat.lt_succ_self _⟩)) (p := ⟨g, 1, none⟩) (.string (b ++ s)) (.inl ⟨Nat.le_refl _, Nat.lt_succ_self _⟩)) (p := ⟨g, 2, none⟩) (.bool false) (.inl ⟨Nat.le_refl _, Nat.lt_succ_self _⟩)) (p := ⟨g, 3, none⟩) (.bool false) (.inl ⟨Nat.le_refl _, Nat.lt_succ_self _⟩))
  generalize hV : ((((w1.setCell ⟨g, 0, none⟩ (.int .i64 r)).setCell ⟨g, 1, none⟩ (.string (b ++ s))).setCell ⟨g, 2, none⟩ (.bool false)).setCell ⟨g, 3, none⟩ (.bool false)) = V2 at *
  clear hV
  clear R
  have R := NR
  clear NR
  clear HB
  have HB := NHB
  clear NHB
  have z0 := RowIs.cell (j := 0) R rfl
  have z1 := RowIs.cell (j := 1) R rfl
  have z2 := RowIs.cell (j := 2) R rfl
  have z3 := RowIs.cell (j := 3) R rfl
  have zf := fun j => RowIs.frozen R j
  have zl := R.lt
  go_wp2_with fail
  clear z0 z1 z2 z3 zf zl
  have hsz : (b ++ s).size ≤ 281474976710656 := by rw [ByteArray.size_append]; omega
  refine (endP r (b ++ s) false false _ hsz).mono ?_; rintro x w3 ⟨rfl, hb⟩
  replace R := R.new hb
  replace HB := HB.trans (turn_new hb _ _)
  clear hb
  have z0 := RowIs.cell (j := 0) R rfl
  have z1 := RowIs.cell (j := 1) R rfl
  have z2 := RowIs.cell (j := 2) R rfl
  have z3 := RowIs.cell (j := 3) R rfl
  have zf := fun j => RowIs.frozen R j
  have zl := R.lt
  go_upto_region 6 with fail
  clear z0 z1 z2 z3 zf zl
  have NR : RowIs ((((w3.setCell ⟨g, 0, none⟩ (.int .i64 r)).setCell ⟨g, 1, none⟩ (.string (b ++ s))).setCell ⟨g, 2, none⟩ (.bool true)).setCell ⟨g, 3, none⟩ (.bool false)) g 58 [.int .i64 r, .string (b ++ s), .bool true, .bool false, .int .i64 wt, .int .i64 r2, .string b2, .bool e2, .bool k2, .int .i64 cm] := ((((R.set 0 (.int .i64 r)).set 1 (.string (b ++ s))).set 2 (.bool true)).set 3 (.bool false))
  have NHB : Turn g (g + 1) w ((((w3.setCell ⟨g, 0, none⟩ (.int .i64 r)).setCell ⟨g, 1, none⟩ (.string (b ++ s))).setCell ⟨g, 2, none⟩ (.bool true)).setCell ⟨g, 3, none⟩ (.bool false)) := (Turn.setCell (Turn.setCell (Turn.setCell (Turn.setCell HB (p := ⟨g, 0, none⟩) (.int .i64 r) (.inl ⟨Nat.le_refl _, Nat.lt_succ_self _⟩)) (p := ⟨g, 1, none⟩) (.string (b ++ s)) (.inl ⟨Nat.le_refl _, Nat.lt_succ_self _⟩)) (p := ⟨g, 2, none⟩) (.bool true) (.inl ⟨Nat.le_refl _, Nat.lt_succ_self _⟩)) (p := ⟨g, 3, none⟩) (.bool false) (.inl ⟨Nat.le_refl _, Nat.lt_succ_self _⟩))
  generalize hV : ((((w3.setCell ⟨g, 0, none⟩ (.int .i64 r)).setCell ⟨g, 1, none⟩ (.string (b ++ s))).setCell ⟨g, 2, none⟩ (.bool true)).setCell ⟨g, 3, none⟩ (.bool false)) = V4 at *
  clear hV
  clear R
  have R := NR
  clear NR
  clear HB
  have HB := NHB
  clear NHB
  go_wp2_with fail
  go_ret
  exact ⟨rfl, R, HB⟩
theorem takeIn16 (t : TuD) (s : ByteArray) (fin : Bool) (g : Nat) (w : World) (ho : okTu t = true) (hs : s.size ≤ 1048576) (R : RowIs w g 58 (lncs t)) :
    Calls Try.prog 33 #[.pointer (some ⟨g, 0, none⟩), .string s, .bool fin] w fun x w' => x = .returned (.bool (inTu t s fin).2) ∧ RowIs w' g 58 (lncs (inTu t s fin).1) ∧ Turn g (g + 1) w w' := by
  obtain ⟨hu, hd, hw, hm⟩ := okTu_true ho
  obtain ⟨q1, q2, q3, q4⟩ := okPp_true hu
  have hv : inTu t s fin = if t.up.e = true ∨ t.up.k = true ∨ t.up.r - t.up.b.size < s.size then (t, false) else (⟨⟨t.up.r, t.up.b ++ s, fin, t.up.k⟩, t.dn, t.went, t.came⟩, true) := by
    unfold inTu; rw [if_neg (by rw [ho]; decide)]
  rw [hv]
  clear hv ho hu hd hw hm
  obtain ⟨⟨r, b, e, k⟩, ⟨r2, b2, e2, k2⟩, wt, cm⟩ := t
  dsimp only [lncs] at *
  have hsm : s.size ≤ maxLen := by unfold maxLen; omega
  cases hek : (e || k)
  · obtain ⟨rfl, rfl⟩ : e = false ∧ k = false := by revert hek; cases e <;> cases k <;> simp
    by_cases hr : r - b.size < s.size
    · rw [if_pos (by simp [hr])]
      exact takeIn16_room r b r2 b2 e2 k2 wt cm s fin g w R (by omega) q2 q1 hsm hr
    · rw [if_neg (by simp; omega)]
      cases fin
      · exact takeIn16_yes r b r2 b2 e2 k2 wt cm s g w R q1 q2 q3 hs (by omega)
      · exact takeIn16_yesfin r b r2 b2 e2 k2 wt cm s g w R q1 q2 q3 hs (by omega)
  · rw [if_pos (by revert hek; cases e <;> cases k <;> simp)]
    exact takeIn16_shut r b e k r2 b2 e2 k2 wt cm s fin g w R hek
set_option maxHeartbeats 1000000 in
theorem letOut16_ (r : Int) (b : ByteArray) (e k : Bool) (r2 : Int) (b2 : ByteArray) (e2 k2 : Bool) (wt cm : Int) (n : Int) (g : Nat) (w : World) (R : RowIs w g 58 [.int .i64 r, .string b, .bool e, .bool k, .int .i64 wt, .int .i64 r2, .string b2, .bool e2, .bool k2, .int .i64 cm]) (hb : b.size ≤ 2000) (h0 : 0 ≤ wt) (h1 : wt ≤ 1000000) :
    Calls Try.prog 36 #[.pointer (some ⟨g, 0, none⟩), .int .i64 n] w fun x w' => x = .returned (.string (b.extract 0 (max 0 (min (min n (1000000 - wt)) (b.size : Int))).toNat)) ∧ RowIs w' g 58 [.int .i64 r, .string (b.extract (max 0 (min (min n (1000000 - wt)) (b.size : Int))).toNat b.size), .bool e, .bool k, .int .i64 (wt + ((max 0 (min (min n (1000000 - wt)) (b.size : Int))).toNat : Nat)), .int .i64 r2, .string b2, .bool e2, .bool k2, .int .i64 cm] ∧ Turn g (g + 1) w w' := by
  obtain ⟨m, hm⟩ : ∃ m : Nat, (max 0 (min (min n (1000000 - wt)) (b.size : Int))).toNat = m := ⟨_, rfl⟩
  have hm1 : (m : Int) ≤ b.size := by omega
  have hm2 : (m : Int) ≤ 1000000 := by omega
  have e1 : IntKind.i64.wrap (1000000 - wt) = 1000000 - wt := by rw [IntKind.wrap_i64]; omega
  have hpl := fun (u : World) => pull r b e k (min n (1000000 - wt)) u hb
  rw [hm]
  simp only [hm] at hpl
  have hsz : (b.extract 0 m).size = m := by rw [ByteArray.size_extract]; omega
  obtain ⟨q, hq⟩ : ∃ q, b.extract 0 m = q := ⟨_, rfl⟩
  obtain ⟨z, hz⟩ : ∃ z, b.extract m b.size = z := ⟨_, rfl⟩
  rw [hq] at hsz
  simp only [hq, hz] at hpl ⊢
  have hszI : (q.size : Int) = m := by omega
  have he2 : IntKind.i64.wrap (wt + (m : Int)) = wt + m := by rw [IntKind.wrap_i64]; omega
  clear hm hq hz
  have HB : Turn g (g + 1) w w := Turn.refl _ _ _
  go_enter Try.func36, Try.ntmps36
  go_upto_region 2 with fail
  have R0 : Hid (RowIs (World.drew w) g 58 [.int .i64 r, .string b, .bool e, .bool k, .int .i64 wt, .int .i64 r2, .string b2, .bool e2, .bool k2, .int .i64 cm]) := hide R
  have HB0 : Hid (Turn g (g + 1) w (World.drew w)) := hide HB.drew
  clear R HB
  refine wp_region_any (by kernel_rfl) ?_
  change wpAny _ _ _ _ _ _ _ (World.drew w)
  generalize World.drew w = V at *
  refine wpAny_take (i := 0) (v := ?_) rfl (by kernel_rfl) (by kernel_rfl) (by kernel_rfl) (fun _ _ _ h => h) (Or.inl ⟨by rfl, ?_⟩) ?_; rotate_left; focus (intro uu; go_simp; try with_reducible rfl)
  try simp only [Act.put, List.getElem_toArray, List.getElem_cons_succ, List.getElem_cons_zero, List.setIfInBounds_toArray, List.set_cons_zero, List.set_cons_succ]
  refine wpAny_take (i := 1) (v := ?_) rfl (by kernel_rfl) (by kernel_rfl) (by kernel_rfl) (fun _ _ _ h => h) (Or.inl ⟨by rfl, ?_⟩) ?_; rotate_left; focus (intro uu; go_simp; try with_reducible rfl)
  try simp only [Act.put, List.getElem_toArray, List.getElem_cons_succ, List.getElem_cons_zero, List.setIfInBounds_toArray, List.set_cons_zero, List.set_cons_succ]
  refine wpAny_take (i := 2) (v := ?_) rfl (by kernel_rfl) (by kernel_rfl) (by kernel_rfl) (fun _ _ _ h => h) (Or.inl ⟨by rfl, ?_⟩) ?_; rotate_left; focus (intro uu; go_simp; try with_reducible rfl)
  try simp only [Act.put, List.getElem_toArray, List.getElem_cons_succ, List.getElem_cons_zero, List.setIfInBounds_toArray, List.set_cons_zero, List.set_cons_succ]
  refine wpAny_take (i := 3) (v := ?_) rfl (by kernel_rfl) (by kernel_rfl) (by kernel_rfl) (fun _ _ _ h => h) (Or.inl ⟨by rfl, ?_⟩) ?_; rotate_left; focus (intro uu; go_simp; try with_reducible rfl)
  try simp only [Act.put, List.getElem_toArray, List.getElem_cons_succ, List.getElem_cons_zero, List.setIfInBounds_toArray, List.set_cons_zero, List.set_cons_succ]
  refine wpAny_take (i := 5) (v := ?_) rfl (by kernel_rfl) (by kernel_rfl) (by kernel_rfl) (fun _ _ _ h => h) (Or.inl ⟨by rfl, ?_⟩) ?_; rotate_left; focus (intro uu; go_simp; try with_reducible rfl)
  try simp only [Act.put, List.getElem_toArray, List.getElem_cons_succ, List.getElem_cons_zero, List.setIfInBounds_toArray, List.set_cons_zero, List.set_cons_succ]
  refine wpAny_take (i := 6) (v := ?_) rfl (by kernel_rfl) (by kernel_rfl) (by kernel_rfl) (fun _ _ _ h => h) (Or.inl ⟨by rfl, ?_⟩) ?_; rotate_left; focus (intro uu; go_simp; try with_reducible rfl)
  try simp only [Act.put, List.getElem_toArray, List.getElem_cons_succ, List.getElem_cons_zero, List.setIfInBounds_toArray, List.set_cons_zero, List.set_cons_succ]
  refine wpAny_take (i := 7) (v := ?_) rfl (by kernel_rfl) (by kernel_rfl) (by kernel_rfl) (fun _ _ _ h => h) (Or.inl ⟨by rfl, ?_⟩) ?_; rotate_left; focus (intro uu; go_simp; try with_reducible rfl)
  try simp only [Act.put, List.getElem_toArray, List.getElem_cons_succ, List.getElem_cons_zero, List.setIfInBounds_toArray, List.set_cons_zero, List.set_cons_succ]
  refine wpAny_take (i := 8) (v := ?_) rfl (by kernel_rfl) (by kernel_rfl) (by kernel_rfl) (fun _ _ _ h => h) (Or.inl ⟨by rfl, ?_⟩) ?_; rotate_left; focus (intro uu; go_simp; try with_reducible rfl)
  try simp only [Act.put, List.getElem_toArray, List.getElem_cons_succ, List.getElem_cons_zero, List.setIfInBounds_toArray, List.set_cons_zero, List.set_cons_succ]
  refine wpAny_ready (rs := [4, 9]) (by kernel_rfl) (by simp) ?_
  refine (AllReady.cons rfl (fun K hK => ?_) (AllReady.cons rfl (fun K hK => ?_) AllReady.nil))
  · skip
    try rw [if_pos (by kernel_rfl)]
    have l0 := RowIs.cell (j := 0) R0.out rfl
    have l1 := RowIs.cell (j := 1) R0.out rfl
    have l2 := RowIs.cell (j := 2) R0.out rfl
    have l3 := RowIs.cell (j := 3) R0.out rfl
    have ll := R0.out.lt
    go_simp
    refine hK _ _ ?_; clear hK K
    clear l0 l1 l2 l3 ll
    try simp only [Act.put, List.getElem_toArray, List.getElem_cons_succ, List.getElem_cons_zero, List.setIfInBounds_toArray, List.set_cons_zero, List.set_cons_succ]
    refine wpAny_ready (rs := [9]) (by kernel_rfl) (by simp) ?_
    refine (AllReady.cons rfl (fun K hK => ?_) AllReady.nil)
    try rw [if_pos (by kernel_rfl)]
    have l4 := RowIs.cell (j := 4) R0.out rfl
    have ll := R0.out.lt
    go_simp
    refine hK _ _ ?_; clear hK K
    clear l4 ll
    try simp only [Act.put, List.getElem_toArray, List.getElem_cons_succ, List.getElem_cons_zero, List.setIfInBounds_toArray, List.set_cons_zero, List.set_cons_succ]
    refine wpAny_take (i := 10) (v := ?_) rfl (by kernel_rfl) (by kernel_rfl) (by kernel_rfl) (fun _ _ _ h => h) (Or.inl ⟨by rfl, ?_⟩) ?_; rotate_left; focus (intro uu; go_simp; try with_reducible rfl)
    try simp only [Act.put, List.getElem_toArray, List.getElem_cons_succ, List.getElem_cons_zero, List.setIfInBounds_toArray, List.set_cons_zero, List.set_cons_succ]
    refine wpAny_take (i := 11) (v := ?_) rfl (by kernel_rfl) (by kernel_rfl) (by kernel_rfl) (fun _ _ _ h => h) (Or.inl ⟨by rfl, ?_⟩) ?_; rotate_left; focus (intro uu; go_simp; try with_reducible rfl)
    try simp only [Act.put, List.getElem_toArray, List.getElem_cons_succ, List.getElem_cons_zero, List.setIfInBounds_toArray, List.set_cons_zero, List.set_cons_succ]
    refine wpAny_ready (rs := [12]) (by kernel_rfl) (by simp) ?_
    refine (AllReady.cons rfl (fun K hK => ?_) AllReady.nil)
    try rw [if_pos (by kernel_rfl)]
    go_simp
    refine (hpl _).mono ?_; rintro x u3 ⟨rfl, hb9⟩
    replace R0 := hide (R0.out.new hb9)
    replace HB0 := hide (HB0.out.trans (turn_new hb9 _ _))
    refine hK _ _ ?_; clear hK K hb9
    try simp only [Act.put, List.getElem_toArray, List.getElem_cons_succ, List.getElem_cons_zero, List.setIfInBounds_toArray, List.set_cons_zero, List.set_cons_succ]
    refine wpAny_take (i := 13) (v := ?_) rfl (by kernel_rfl) (by kernel_rfl) (by kernel_rfl) (fun _ _ _ h => h) (Or.inl ⟨by rfl, ?_⟩) ?_; rotate_left; focus (intro uu; go_simp; try with_reducible rfl)
    try simp only [Act.put, List.getElem_toArray, List.getElem_cons_succ, List.getElem_cons_zero, List.setIfInBounds_toArray, List.set_cons_zero, List.set_cons_succ]
    refine wpAny_take (i := 14) (v := ?_) rfl (by kernel_rfl) (by kernel_rfl) (by kernel_rfl) (fun _ _ _ h => h) (Or.inl ⟨by rfl, ?_⟩) ?_; rotate_left; focus (intro uu; go_simp; try with_reducible rfl)
    try simp only [Act.put, List.getElem_toArray, List.getElem_cons_succ, List.getElem_cons_zero, List.setIfInBounds_toArray, List.set_cons_zero, List.set_cons_succ]
    refine wpAny_take (i := 15) (v := ?_) rfl (by kernel_rfl) (by kernel_rfl) (by kernel_rfl) (fun _ _ _ h => h) (Or.inl ⟨by rfl, ?_⟩) ?_; rotate_left; focus (intro uu; go_simp; try with_reducible rfl)
    try simp only [Act.put, List.getElem_toArray, List.getElem_cons_succ, List.getElem_cons_zero, List.setIfInBounds_toArray, List.set_cons_zero, List.set_cons_succ]
    refine wpAny_take (i := 16) (v := ?_) rfl (by kernel_rfl) (by kernel_rfl) (by kernel_rfl) (fun _ _ _ h => h) (Or.inl ⟨by rfl, ?_⟩) ?_; rotate_left; focus (intro uu; go_simp; try with_reducible rfl)
    try simp only [Act.put, List.getElem_toArray, List.getElem_cons_succ, List.getElem_cons_zero, List.setIfInBounds_toArray, List.set_cons_zero, List.set_cons_succ]
    refine wpAny_take (i := 17) (v := ?_) rfl (by kernel_rfl) (by kernel_rfl) (by kernel_rfl) (fun _ _ _ h => h) (Or.inl ⟨by rfl, ?_⟩) ?_; rotate_left; focus (intro uu; go_simp; try with_reducible rfl)
    try simp only [Act.put, List.getElem_toArray, List.getElem_cons_succ, List.getElem_cons_zero, List.setIfInBounds_toArray, List.set_cons_zero, List.set_cons_succ]
    refine wpAny_ready (rs := [18]) (by kernel_rfl) (by simp) ?_
    refine (AllReady.cons rfl (fun K hK => ?_) AllReady.nil)
    try rw [if_pos (by kernel_rfl)]
    have l0 := RowIs.cell (j := 0) R0.out rfl
    have l1 := RowIs.cell (j := 1) R0.out rfl
    have l2 := RowIs.cell (j := 2) R0.out rfl
    have l3 := RowIs.cell (j := 3) R0.out rfl
    have lf := fun j => RowIs.frozen R0.out j
    have ll := R0.out.lt
    go_simp
    have NR : Hid (RowIs ((((u3.setCell ⟨g, 0, none⟩ (.int .i64 r)).setCell ⟨g, 1, none⟩ (.string z)).setCell ⟨g, 2, none⟩ (.bool e)).setCell ⟨g, 3, none⟩ (.bool k)) g 58 [.int .i64 r, .string z, .bool e, .bool k, .int .i64 wt, .int .i64 r2, .string b2, .bool e2, .bool k2, .int .i64 cm]) := hide ((((R0.out.set 0 (.int .i64 r)).set 1 (.string z)).set 2 (.bool e)).set 3 (.bool k))
    have NB : Hid (Turn g (g + 1) w ((((u3.setCell ⟨g, 0, none⟩ (.int .i64 r)).setCell ⟨g, 1, none⟩ (.string z)).setCell ⟨g, 2, none⟩ (.bool e)).setCell ⟨g, 3, none⟩ (.bool k))) := hide (Turn.setCell (Turn.setCell (Turn.setCell (Turn.setCell HB0.out (p := ⟨g, 0, none⟩) (.int .i64 r) (.inl ⟨Nat.le_refl _, Nat.lt_succ_self _⟩)) (p := ⟨g, 1, none⟩) (.string z) (.inl ⟨Nat.le_refl _, Nat.lt_succ_self _⟩)) (p := ⟨g, 2, none⟩) (.bool e) (.inl ⟨Nat.le_refl _, Nat.lt_succ_self _⟩)) (p := ⟨g, 3, none⟩) (.bool k) (.inl ⟨Nat.le_refl _, Nat.lt_succ_self _⟩))
    generalize hV : ((((u3.setCell ⟨g, 0, none⟩ (.int .i64 r)).setCell ⟨g, 1, none⟩ (.string z)).setCell ⟨g, 2, none⟩ (.bool e)).setCell ⟨g, 3, none⟩ (.bool k)) = u4 at *
    clear hV R0 HB0 l0 l1 l2 l3 lf ll
    have R0 := NR
    have HB0 := NB
    clear NR NB
    refine hK _ _ ?_; clear hK K
    try simp only [Act.put, List.getElem_toArray, List.getElem_cons_succ, List.getElem_cons_zero, List.setIfInBounds_toArray, List.set_cons_zero, List.set_cons_succ]
    refine wpAny_take (i := 19) (v := ?_) rfl (by kernel_rfl) (by kernel_rfl) (by kernel_rfl) (fun _ _ _ h => h) (Or.inl ⟨by rfl, ?_⟩) ?_; rotate_left; focus (intro uu; go_simp; try with_reducible rfl)
    try simp only [Act.put, List.getElem_toArray, List.getElem_cons_succ, List.getElem_cons_zero, List.setIfInBounds_toArray, List.set_cons_zero, List.set_cons_succ]
    refine wpAny_done (by kernel_rfl) ?_ _
    have R := R0.out
    have HB := HB0.out
    clear R0 HB0
    have y4 := RowIs.cell (j := 4) R rfl
    have yf := fun j => RowIs.frozen R j
    have yl := R.lt
    go_upto_region 4 with fail
    clear y4 yf yl
    have NR : RowIs (u4.setCell ⟨g, 4, none⟩ (.int .i64 (wt + (m : Int)))) g 58 [.int .i64 r, .string z, .bool e, .bool k, .int .i64 (wt + (m : Int)), .int .i64 r2, .string b2, .bool e2, .bool k2, .int .i64 cm] := (R.set 4 (.int .i64 (wt + (m : Int))))
    have NHB : Turn g (g + 1) w (u4.setCell ⟨g, 4, none⟩ (.int .i64 (wt + (m : Int)))) := (Turn.setCell HB (p := ⟨g, 4, none⟩) (.int .i64 (wt + (m : Int))) (.inl ⟨Nat.le_refl _, Nat.lt_succ_self _⟩))
    generalize hV : (u4.setCell ⟨g, 4, none⟩ (.int .i64 (wt + (m : Int)))) = V1 at *
    clear hV
    clear R
    have R := NR
    clear NR
    clear HB
    have HB := NHB
    clear NHB
    go_wp2_with fail
    go_ret
    exact ⟨rfl, R, HB⟩
  · skip
    try rw [if_pos (by kernel_rfl)]
    have l4 := RowIs.cell (j := 4) R0.out rfl
    have ll := R0.out.lt
    go_simp
    refine hK _ _ ?_; clear hK K
    clear l4 ll
    try simp only [Act.put, List.getElem_toArray, List.getElem_cons_succ, List.getElem_cons_zero, List.setIfInBounds_toArray, List.set_cons_zero, List.set_cons_succ]
    refine wpAny_take (i := 10) (v := ?_) rfl (by kernel_rfl) (by kernel_rfl) (by kernel_rfl) (fun _ _ _ h => h) (Or.inl ⟨by rfl, ?_⟩) ?_; rotate_left; focus (intro uu; go_simp; try with_reducible rfl)
    try simp only [Act.put, List.getElem_toArray, List.getElem_cons_succ, List.getElem_cons_zero, List.setIfInBounds_toArray, List.set_cons_zero, List.set_cons_succ]
    refine wpAny_take (i := 11) (v := ?_) rfl (by kernel_rfl) (by kernel_rfl) (by kernel_rfl) (fun _ _ _ h => h) (Or.inl ⟨by rfl, ?_⟩) ?_; rotate_left; focus (intro uu; go_simp; try with_reducible rfl)
    try simp only [Act.put, List.getElem_toArray, List.getElem_cons_succ, List.getElem_cons_zero, List.setIfInBounds_toArray, List.set_cons_zero, List.set_cons_succ]
    refine wpAny_ready (rs := [4]) (by kernel_rfl) (by simp) ?_
    refine (AllReady.cons rfl (fun K hK => ?_) AllReady.nil)
    try rw [if_pos (by kernel_rfl)]
    have l0 := RowIs.cell (j := 0) R0.out rfl
    have l1 := RowIs.cell (j := 1) R0.out rfl
    have l2 := RowIs.cell (j := 2) R0.out rfl
    have l3 := RowIs.cell (j := 3) R0.out rfl
    have ll := R0.out.lt
    go_simp
    refine hK _ _ ?_; clear hK K
    clear l0 l1 l2 l3 ll
    try simp only [Act.put, List.getElem_toArray, List.getElem_cons_succ, List.getElem_cons_zero, List.setIfInBounds_toArray, List.set_cons_zero, List.set_cons_succ]
    refine wpAny_ready (rs := [12]) (by kernel_rfl) (by simp) ?_
    refine (AllReady.cons rfl (fun K hK => ?_) AllReady.nil)
    try rw [if_pos (by kernel_rfl)]
    go_simp
    refine (hpl _).mono ?_; rintro x u7 ⟨rfl, hb9⟩
    replace R0 := hide (R0.out.new hb9)
    replace HB0 := hide (HB0.out.trans (turn_new hb9 _ _))
    refine hK _ _ ?_; clear hK K hb9
    try simp only [Act.put, List.getElem_toArray, List.getElem_cons_succ, List.getElem_cons_zero, List.setIfInBounds_toArray, List.set_cons_zero, List.set_cons_succ]
    refine wpAny_take (i := 13) (v := ?_) rfl (by kernel_rfl) (by kernel_rfl) (by kernel_rfl) (fun _ _ _ h => h) (Or.inl ⟨by rfl, ?_⟩) ?_; rotate_left; focus (intro uu; go_simp; try with_reducible rfl)
    try simp only [Act.put, List.getElem_toArray, List.getElem_cons_succ, List.getElem_cons_zero, List.setIfInBounds_toArray, List.set_cons_zero, List.set_cons_succ]
    refine wpAny_take (i := 14) (v := ?_) rfl (by kernel_rfl) (by kernel_rfl) (by kernel_rfl) (fun _ _ _ h => h) (Or.inl ⟨by rfl, ?_⟩) ?_; rotate_left; focus (intro uu; go_simp; try with_reducible rfl)
    try simp only [Act.put, List.getElem_toArray, List.getElem_cons_succ, List.getElem_cons_zero, List.setIfInBounds_toArray, List.set_cons_zero, List.set_cons_succ]
    refine wpAny_take (i := 15) (v := ?_) rfl (by kernel_rfl) (by kernel_rfl) (by kernel_rfl) (fun _ _ _ h => h) (Or.inl ⟨by rfl, ?_⟩) ?_; rotate_left; focus (intro uu; go_simp; try with_reducible rfl)
    try simp only [Act.put, List.getElem_toArray, List.getElem_cons_succ, List.getElem_cons_zero, List.setIfInBounds_toArray, List.set_cons_zero, List.set_cons_succ]
    refine wpAny_take (i := 16) (v := ?_) rfl (by kernel_rfl) (by kernel_rfl) (by kernel_rfl) (fun _ _ _ h => h) (Or.inl ⟨by rfl, ?_⟩) ?_; rotate_left; focus (intro uu; go_simp; try with_reducible rfl)
    try simp only [Act.put, List.getElem_toArray, List.getElem_cons_succ, List.getElem_cons_zero, List.setIfInBounds_toArray, List.set_cons_zero, List.set_cons_succ]
    refine wpAny_take (i := 17) (v := ?_) rfl (by kernel_rfl) (by kernel_rfl) (by kernel_rfl) (fun _ _ _ h => h) (Or.inl ⟨by rfl, ?_⟩) ?_; rotate_left; focus (intro uu; go_simp; try with_reducible rfl)
    try simp only [Act.put, List.getElem_toArray, List.getElem_cons_succ, List.getElem_cons_zero, List.setIfInBounds_toArray, List.set_cons_zero, List.set_cons_succ]
    refine wpAny_ready (rs := [18]) (by kernel_rfl) (by simp) ?_
    refine (AllReady.cons rfl (fun K hK => ?_) AllReady.nil)
    try rw [if_pos (by kernel_rfl)]
    have l0 := RowIs.cell (j := 0) R0.out rfl
    have l1 := RowIs.cell (j := 1) R0.out rfl
    have l2 := RowIs.cell (j := 2) R0.out rfl
    have l3 := RowIs.cell (j := 3) R0.out rfl
    have lf := fun j => RowIs.frozen R0.out j
    have ll := R0.out.lt
    go_simp
    have NR : Hid (RowIs ((((u7.setCell ⟨g, 0, none⟩ (.int .i64 r)).setCell ⟨g, 1, none⟩ (.string z)).setCell ⟨g, 2, none⟩ (.bool e)).setCell ⟨g, 3, none⟩ (.bool k)) g 58 [.int .i64 r, .string z, .bool e, .bool k, .int .i64 wt, .int .i64 r2, .string b2, .bool e2, .bool k2, .int .i64 cm]) := hide ((((R0.out.set 0 (.int .i64 r)).set 1 (.string z)).set 2 (.bool e)).set 3 (.bool k))
    have NB : Hid (Turn g (g + 1) w ((((u7.setCell ⟨g, 0, none⟩ (.int .i64 r)).setCell ⟨g, 1, none⟩ (.string z)).setCell ⟨g, 2, none⟩ (.bool e)).setCell ⟨g, 3, none⟩ (.bool k))) := hide (Turn.setCell (Turn.setCell (Turn.setCell (Turn.setCell HB0.out (p := ⟨g, 0, none⟩) (.int .i64 r) (.inl ⟨Nat.le_refl _, Nat.lt_succ_self _⟩)) (p := ⟨g, 1, none⟩) (.string z) (.inl ⟨Nat.le_refl _, Nat.lt_succ_self _⟩)) (p := ⟨g, 2, none⟩) (.bool e) (.inl ⟨Nat.le_refl _, Nat.lt_succ_self _⟩)) (p := ⟨g, 3, none⟩) (.bool k) (.inl ⟨Nat.le_refl _, Nat.lt_succ_self _⟩))
    generalize hV : ((((u7.setCell ⟨g, 0, none⟩ (.int .i64 r)).setCell ⟨g, 1, none⟩ (.string z)).setCell ⟨g, 2, none⟩ (.bool e)).setCell ⟨g, 3, none⟩ (.bool k)) = u8 at *
    clear hV R0 HB0 l0 l1 l2 l3 lf ll
    have R0 := NR
    have HB0 := NB
    clear NR NB
    refine hK _ _ ?_; clear hK K
    try simp only [Act.put, List.getElem_toArray, List.getElem_cons_succ, List.getElem_cons_zero, List.setIfInBounds_toArray, List.set_cons_zero, List.set_cons_succ]
    refine wpAny_take (i := 19) (v := ?_) rfl (by kernel_rfl) (by kernel_rfl) (by kernel_rfl) (fun _ _ _ h => h) (Or.inl ⟨by rfl, ?_⟩) ?_; rotate_left; focus (intro uu; go_simp; try with_reducible rfl)
    try simp only [Act.put, List.getElem_toArray, List.getElem_cons_succ, List.getElem_cons_zero, List.setIfInBounds_toArray, List.set_cons_zero, List.set_cons_succ]
    refine wpAny_done (by kernel_rfl) ?_ _
    have R := R0.out
    have HB := HB0.out
    clear R0 HB0
    have y4 := RowIs.cell (j := 4) R rfl
    have yf := fun j => RowIs.frozen R j
    have yl := R.lt
    go_upto_region 4 with fail
    clear y4 yf yl
    have NR : RowIs (u8.setCell ⟨g, 4, none⟩ (.int .i64 (wt + (m : Int)))) g 58 [.int .i64 r, .string z, .bool e, .bool k, .int .i64 (wt + (m : Int)), .int .i64 r2, .string b2, .bool e2, .bool k2, .int .i64 cm] := (R.set 4 (.int .i64 (wt + (m : Int))))
    have NHB : Turn g (g + 1) w (u8.setCell ⟨g, 4, none⟩ (.int .i64 (wt + (m : Int)))) := (Turn.setCell HB (p := ⟨g, 4, none⟩) (.int .i64 (wt + (m : Int))) (.inl ⟨Nat.le_refl _, Nat.lt_succ_self _⟩))
    generalize hV : (u8.setCell ⟨g, 4, none⟩ (.int .i64 (wt + (m : Int)))) = V1 at *
    clear hV
    clear R
    have R := NR
    clear NR
    clear HB
    have HB := NHB
    clear NHB
    go_wp2_with fail
    go_ret
    exact ⟨rfl, R, HB⟩
theorem letOut16 (t : TuD) (n : Int) (g : Nat) (w : World) (ho : okTu t = true) (R : RowIs w g 58 (lncs t)) :
    Calls Try.prog 36 #[.pointer (some ⟨g, 0, none⟩), .int .i64 n] w fun x w' => x = .returned (.string (outTu t n).2) ∧ RowIs w' g 58 (lncs (outTu t n).1) ∧ Turn g (g + 1) w w' := by
  obtain ⟨hu, hd, hw, hm⟩ := okTu_true ho
  obtain ⟨q1, q2, q3, q4⟩ := okPp_true hu
  have hv : outTu t n = (⟨⟨t.up.r, t.up.b.extract (outN t n) t.up.b.size, t.up.e, t.up.k⟩, t.dn, t.went + outN t n, t.came⟩, t.up.b.extract 0 (outN t n)) := by
    unfold outTu; rw [if_neg (by rw [ho]; decide)]
  rw [hv]
  clear hv ho hu hd hm
  obtain ⟨⟨r, b, e, k⟩, ⟨r2, b2, e2, k2⟩, wt, cm⟩ := t
  dsimp only [lncs] at *
  exact letOut16_ r b e k r2 b2 e2 k2 wt cm n g w R (by omega) hw.1 hw.2
set_option maxHeartbeats 1000000 in
theorem takeBack16_open (r : Int) (b : ByteArray) (e k : Bool) (r2 : Int) (b2 : ByteArray) (wt cm : Int) (s : ByteArray) (fin : Bool) (g : Nat) (w : World) (R : RowIs w g 58 [.int .i64 r, .string b, .bool e, .bool k, .int .i64 wt, .int .i64 r2, .string b2, .bool false, .bool false, .int .i64 cm]) (hok : okB r2 b2 false = true) (hs : s.size ≤ 1048576) (hno : fin = true → comes r2 b2 s ≠ s.size) :
    Calls Try.prog 37 #[.pointer (some ⟨g, 5, none⟩), .string s, .bool fin] w fun x w' => x = .returned (.int .i64 (comes r2 b2 s : Int)) ∧ RowIs w' g 58 [.int .i64 r, .string b, .bool e, .bool k, .int .i64 wt, .int .i64 r2, .string (b2 ++ s.extract 0 (comes r2 b2 s)), .bool false, .bool false, .int .i64 cm] ∧ Turn g (g + 1) w w' := by
  have HB : Turn g (g + 1) w w := Turn.refl _ _ _
  have hpu := fun (u : World) => push r2 b2 s false false u hok hs
  simp only [pushedV_open r2 b2 s false false rfl] at hpu
  obtain ⟨n, hn⟩ : ∃ n, comes r2 b2 s = n := ⟨_, rfl⟩
  rw [hn] at hpu ⊢
  obtain ⟨nb, hnb⟩ : ∃ nb, b2 ++ s.extract 0 n = nb := ⟨_, rfl⟩
  rw [hnb] at hpu ⊢
  have hnbs : nb.size ≤ 281474976710656 := by rw [← hnb, ByteArray.size_append, ByteArray.size_extract]; obtain ⟨_, _, _⟩ := okB_parts hok; omega
  rw [hn] at hno
  clear hn hnb
  cases fin
  · skip
    go_enter Try.func37, Try.ntmps37
    have z5 := RowIs.cell (j := 5) R rfl
    have z6 := RowIs.cell (j := 6) R rfl
    have z7 := RowIs.cell (j := 7) R rfl
    have z8 := RowIs.cell (j := 8) R rfl
    have zf := fun j => RowIs.frozen R j
    have zl := R.lt
    go_wp2_with fail
    clear z5 z6 z7 z8 zf zl
    refine (hpu _).mono ?_; rintro x w1 ⟨rfl, hb⟩
    replace R := R.new hb
    replace HB := HB.trans (turn_new hb _ _)
    clear hb
    clear hpu
    have z5 := RowIs.cell (j := 5) R rfl
    have z6 := RowIs.cell (j := 6) R rfl
    have z7 := RowIs.cell (j := 7) R rfl
    have z8 := RowIs.cell (j := 8) R rfl
    have zf := fun j => RowIs.frozen R j
    have zl := R.lt
    go_upto_region 3 with fail
    clear z5 z6 z7 z8 zf zl
    have NR : RowIs ((((w1.setCell ⟨g, 5, none⟩ (.int .i64 r2)).setCell ⟨g, 6, none⟩ (.string nb)).setCell ⟨g, 7, none⟩ (.bool false)).setCell ⟨g, 8, none⟩ (.bool false)) g 58 [.int .i64 r, .string b, .bool e, .bool k, .int .i64 wt, .int .i64 r2, .string nb, .bool false, .bool false, .int .i64 cm] := ((((R.set 5 (.int .i64 r2)).set 6 (.string nb)).set 7 (.bool false)).set 8 (.bool false))
    have NHB : Turn g (g + 1) w ((((w1.setCell ⟨g, 5, none⟩ (.int .i64 r2)).setCell ⟨g, 6, none⟩ (.string nb)).setCell ⟨g, 7, none⟩ (.bool false)).setCell ⟨g, 8, none⟩ (.bool false)) := (Turn.setCell (Turn.setCell (Turn.setCell (Turn.setCell HB (p := ⟨g, 5, none⟩) (.int .i64 r2) (.inl ⟨Nat.le_refl _, Nat.lt_succ_self _⟩)) (p := ⟨g, 6, none⟩) (.string nb) (.inl ⟨Nat.le_refl _, Nat.lt_succ_self _⟩)) (p := ⟨g, 7, none⟩) (.bool false) (.inl ⟨Nat.le_refl _, Nat.lt_succ_self _⟩)) (p := ⟨g, 8, none⟩) (.bool false) (.inl ⟨Nat.le_refl _, Nat.lt_succ_self _⟩))
    generalize hV : ((((w1.setCell ⟨g, 5, none⟩ (.int .i64 r2)).setCell ⟨g, 6, none⟩ (.string nb)).setCell ⟨g, 7, none⟩ (.bool false)).setCell ⟨g, 8, none⟩ (.bool false)) = V2 at *
    clear hV
    clear R
    have R := NR
    clear NR
    clear HB
    have HB := NHB
    clear NHB
    have z5 := RowIs.cell (j := 5) R rfl
    have z6 := RowIs.cell (j := 6) R rfl
    have z7 := RowIs.cell (j := 7) R rfl
    have z8 := RowIs.cell (j := 8) R rfl
    have zf := fun j => RowIs.frozen R j
    have zl := R.lt
    go_wp2_with fail
    go_ret
    exact ⟨rfl, R, HB⟩
  have hne : ¬ ((n : Int) = (s.size : Int)) := fun h => hno rfl (by exact_mod_cast h)
  go_enter Try.func37, Try.ntmps37
  have z5 := RowIs.cell (j := 5) R rfl
  have z6 := RowIs.cell (j := 6) R rfl
  have z7 := RowIs.cell (j := 7) R rfl
  have z8 := RowIs.cell (j := 8) R rfl
  have zf := fun j => RowIs.frozen R j
  have zl := R.lt
  go_wp2_with fail
  clear z5 z6 z7 z8 zf zl
  refine (hpu _).mono ?_; rintro x w1 ⟨rfl, hb⟩
  replace R := R.new hb
  replace HB := HB.trans (turn_new hb _ _)
  clear hb
  clear hpu
  have z5 := RowIs.cell (j := 5) R rfl
  have z6 := RowIs.cell (j := 6) R rfl
  have z7 := RowIs.cell (j := 7) R rfl
  have z8 := RowIs.cell (j := 8) R rfl
  have zf := fun j => RowIs.frozen R j
  have zl := R.lt
  go_upto_region 3 with fail
  clear z5 z6 z7 z8 zf zl
  have NR : RowIs ((((w1.setCell ⟨g, 5, none⟩ (.int .i64 r2)).setCell ⟨g, 6, none⟩ (.string nb)).setCell ⟨g, 7, none⟩ (.bool false)).setCell ⟨g, 8, none⟩ (.bool false)) g 58 [.int .i64 r, .string b, .bool e, .bool k, .int .i64 wt, .int .i64 r2, .string nb, .bool false, .bool false, .int .i64 cm] := ((((R.set 5 (.int .i64 r2)).set 6 (.string nb)).set 7 (.bool false)).set 8 (.bool false))
  have NHB : Turn g (g + 1) w ((((w1.setCell ⟨g, 5, none⟩ (.int .i64 r2)).setCell ⟨g, 6, none⟩ (.string nb)).setCell ⟨g, 7, none⟩ (.bool false)).setCell ⟨g, 8, none⟩ (.bool false)) := (Turn.setCell (Turn.setCell (Turn.setCell (Turn.setCell HB (p := ⟨g, 5, none⟩) (.int .i64 r2) (.inl ⟨Nat.le_refl _, Nat.lt_succ_self _⟩)) (p := ⟨g, 6, none⟩) (.string nb) (.inl ⟨Nat.le_refl _, Nat.lt_succ_self _⟩)) (p := ⟨g, 7, none⟩) (.bool false) (.inl ⟨Nat.le_refl _, Nat.lt_succ_self _⟩)) (p := ⟨g, 8, none⟩) (.bool false) (.inl ⟨Nat.le_refl _, Nat.lt_succ_self _⟩))
  generalize hV : ((((w1.setCell ⟨g, 5, none⟩ (.int .i64 r2)).setCell ⟨g, 6, none⟩ (.string nb)).setCell ⟨g, 7, none⟩ (.bool false)).setCell ⟨g, 8, none⟩ (.bool false)) = V2 at *
  clear hV
  clear R
  have R := NR
  clear NR
  clear HB
  have HB := NHB
  clear NHB
  have z5 := RowIs.cell (j := 5) R rfl
  have z6 := RowIs.cell (j := 6) R rfl
  have z7 := RowIs.cell (j := 7) R rfl
  have z8 := RowIs.cell (j := 8) R rfl
  have zf := fun j => RowIs.frozen R j
  have zl := R.lt
  go_wp2_with fail
  go_ret
  exact ⟨rfl, R, HB⟩
set_option maxHeartbeats 1000000 in
theorem takeBack16_openfin (r : Int) (b : ByteArray) (e k : Bool) (r2 : Int) (b2 : ByteArray) (wt cm : Int) (s : ByteArray) (g : Nat) (w : World) (R : RowIs w g 58 [.int .i64 r, .string b, .bool e, .bool k, .int .i64 wt, .int .i64 r2, .string b2, .bool false, .bool false, .int .i64 cm]) (hok : okB r2 b2 false = true) (hs : s.size ≤ 1048576) (hyes : comes r2 b2 s = s.size) :
    Calls Try.prog 37 #[.pointer (some ⟨g, 5, none⟩), .string s, .bool true] w fun x w' => x = .returned (.int .i64 (comes r2 b2 s : Int)) ∧ RowIs w' g 58 [.int .i64 r, .string b, .bool e, .bool k, .int .i64 wt, .int .i64 r2, .string (b2 ++ s.extract 0 (comes r2 b2 s)), .bool true, .bool false, .int .i64 cm] ∧ Turn g (g + 1) w w' := by
  have HB : Turn g (g + 1) w w := Turn.refl _ _ _
  have hpu := fun (u : World) => push r2 b2 s false false u hok hs
  simp only [pushedV_open r2 b2 s false false rfl] at hpu
  obtain ⟨n, hn⟩ : ∃ n, comes r2 b2 s = n := ⟨_, rfl⟩
  rw [hn] at hpu ⊢
  obtain ⟨nb, hnb⟩ : ∃ nb, b2 ++ s.extract 0 n = nb := ⟨_, rfl⟩
  rw [hnb] at hpu ⊢
  have hnbs : nb.size ≤ 281474976710656 := by rw [← hnb, ByteArray.size_append, ByteArray.size_extract]; obtain ⟨_, _, _⟩ := okB_parts hok; omega
  rw [hn] at hyes
  clear hn hnb
  go_enter Try.func37, Try.ntmps37
  have z5 := RowIs.cell (j := 5) R rfl
  have z6 := RowIs.cell (j := 6) R rfl
  have z7 := RowIs.cell (j := 7) R rfl
  have z8 := RowIs.cell (j := 8) R rfl
  have zf := fun j => RowIs.frozen R j
  have zl := R.lt
  go_wp2_with fail
  clear z5 z6 z7 z8 zf zl
  refine (hpu _).mono ?_; rintro x w1 ⟨rfl, hb⟩
  replace R := R.new hb
  replace HB := HB.trans (turn_new hb _ _)
  clear hb
  clear hpu
  have z5 := RowIs.cell (j := 5) R rfl
  have z6 := RowIs.cell (j := 6) R rfl
  have z7 := RowIs.cell (j := 7) R rfl
  have z8 := RowIs.cell (j := 8) R rfl
  have zf := fun j => RowIs.frozen R j
  have zl := R.lt
  go_upto_region 3 with fail
  clear z5 z6 z7 z8 zf zl
  have NR : RowIs ((((w1.setCell ⟨g, 5, none⟩ (.int .i64 r2)).setCell ⟨g, 6, none⟩ (.string nb)).setCell ⟨g, 7, none⟩ (.bool false)).setCell ⟨g, 8, none⟩ (.bool false)) g 58 [.int .i64 r, .string b, .bool e, .bool k, .int .i64 wt, .int .i64 r2, .string nb, .bool false, .bool false, .int .i64 cm] := ((((R.set 5 (.int .i64 r2)).set 6 (.string nb)).set 7 (.bool false)).set 8 (.bool false))
  have NHB : Turn g (g + 1) w ((((w1.setCell ⟨g, 5, none⟩ (.int .i64 r2)).setCell ⟨g, 6, none⟩ (.string nb)).setCell ⟨g, 7, none⟩ (.bool false)).setCell ⟨g, 8, none⟩ (.bool false)) := (Turn.setCell (Turn.setCell (Turn.setCell (Turn.setCell HB (p := ⟨g, 5, none⟩) (.int .i64 r2) (.inl ⟨Nat.le_refl _, Nat.lt_succ_self _⟩)) (p := ⟨g, 6, none⟩) (.string nb) (.inl ⟨Nat.le_refl _, Nat.lt_succ_self _⟩)) (p := ⟨g, 7, none⟩) (.bool false) (.inl ⟨Nat.le_refl _, Nat.lt_succ_self _⟩)) (p := ⟨g, 8, none⟩) (.bool false) (.inl ⟨Nat.le_refl _, Nat.lt_succ_self _⟩))
  generalize hV : ((((w1.setCell ⟨g, 5, none⟩ (.int .i64 r2)).setCell ⟨g, 6, none⟩ (.string nb)).setCell ⟨g, 7, none⟩ (.bool false)).setCell ⟨g, 8, none⟩ (.bool false)) = V2 at *
  clear hV
  clear R
  have R := NR
  clear NR
  clear HB
  have HB := NHB
  clear NHB
  have z5 := RowIs.cell (j := 5) R rfl
  have z6 := RowIs.cell (j := 6) R rfl
  have z7 := RowIs.cell (j := 7) R rfl
  have z8 := RowIs.cell (j := 8) R rfl
  have zf := fun j => RowIs.frozen R j
  have zl := R.lt
  go_wp2_with fail
  clear z5 z6 z7 z8 zf zl
  refine (endP r2 nb false false _ hnbs).mono ?_; rintro x w3 ⟨rfl, hb⟩
  replace R := R.new hb
  replace HB := HB.trans (turn_new hb _ _)
  clear hb
  have z5 := RowIs.cell (j := 5) R rfl
  have z6 := RowIs.cell (j := 6) R rfl
  have z7 := RowIs.cell (j := 7) R rfl
  have z8 := RowIs.cell (j := 8) R rfl
  have zf := fun j => RowIs.frozen R j
  have zl := R.lt
  go_upto_region 5 with fail
  clear z5 z6 z7 z8 zf zl
  have NR : RowIs ((((w3.setCell ⟨g, 5, none⟩ (.int .i64 r2)).setCell ⟨g, 6, none⟩ (.string nb)).setCell ⟨g, 7, none⟩ (.bool true)).setCell ⟨g, 8, none⟩ (.bool false)) g 58 [.int .i64 r, .string b, .bool e, .bool k, .int .i64 wt, .int .i64 r2, .string nb, .bool true, .bool false, .int .i64 cm] := ((((R.set 5 (.int .i64 r2)).set 6 (.string nb)).set 7 (.bool true)).set 8 (.bool false))
  have NHB : Turn g (g + 1) w ((((w3.setCell ⟨g, 5, none⟩ (.int .i64 r2)).setCell ⟨g, 6, none⟩ (.string nb)).setCell ⟨g, 7, none⟩ (.bool true)).setCell ⟨g, 8, none⟩ (.bool false)) := (Turn.setCell (Turn.setCell (Turn.setCell (Turn.setCell HB (p := ⟨g, 5, none⟩) (.int .i64 r2) (.inl ⟨Nat.le_refl _, Nat.lt_succ_self _⟩)) (p := ⟨g, 6, none⟩) (.string nb) (.inl ⟨Nat.le_refl _, Nat.lt_succ_self _⟩)) (p := ⟨g, 7, none⟩) (.bool true) (.inl ⟨Nat.le_refl _, Nat.lt_succ_self _⟩)) (p := ⟨g, 8, none⟩) (.bool false) (.inl ⟨Nat.le_refl _, Nat.lt_succ_self _⟩))
  generalize hV : ((((w3.setCell ⟨g, 5, none⟩ (.int .i64 r2)).setCell ⟨g, 6, none⟩ (.string nb)).setCell ⟨g, 7, none⟩ (.bool true)).setCell ⟨g, 8, none⟩ (.bool false)) = V4 at *
  clear hV
  clear R
  have R := NR
  clear NR
  clear HB
  have HB := NHB
  clear NHB
  go_wp2_with fail
  go_ret
  exact ⟨by rw [hyes]; rfl, R, HB⟩
set_option maxHeartbeats 1000000 in
theorem takeBack16_shut (r : Int) (b : ByteArray) (e k : Bool) (r2 : Int) (b2 : ByteArray) (e2 k2 : Bool) (wt cm : Int) (s : ByteArray) (fin : Bool) (g : Nat) (w : World) (R : RowIs w g 58 [.int .i64 r, .string b, .bool e, .bool k, .int .i64 wt, .int .i64 r2, .string b2, .bool e2, .bool k2, .int .i64 cm]) (hok : okB r2 b2 k2 = true) (hs : s.size ≤ 1048576) (hek : (e2 || k2) = true) (hno : fin = true → s.size ≠ 0 ∨ k2 = true) :
    Calls Try.prog 37 #[.pointer (some ⟨g, 5, none⟩), .string s, .bool fin] w fun x w' => x = .returned (.int .i64 0) ∧ RowIs w' g 58 [.int .i64 r, .string b, .bool e, .bool k, .int .i64 wt, .int .i64 r2, .string b2, .bool e2, .bool k2, .int .i64 cm] ∧ Turn g (g + 1) w w' := by
  have HB : Turn g (g + 1) w w := Turn.refl _ _ _
  have hpu := fun (u : World) => push r2 b2 s e2 k2 u hok hs
  simp only [pushedV_shut r2 b2 s e2 k2 hek] at hpu
  cases fin
  · skip
    go_enter Try.func37, Try.ntmps37
    have z5 := RowIs.cell (j := 5) R rfl
    have z6 := RowIs.cell (j := 6) R rfl
    have z7 := RowIs.cell (j := 7) R rfl
    have z8 := RowIs.cell (j := 8) R rfl
    have zf := fun j => RowIs.frozen R j
    have zl := R.lt
    go_wp2_with fail
    clear z5 z6 z7 z8 zf zl
    refine (hpu _).mono ?_; rintro x w1 ⟨rfl, hb⟩
    replace R := R.new hb
    replace HB := HB.trans (turn_new hb _ _)
    clear hb
    clear hpu
    have z5 := RowIs.cell (j := 5) R rfl
    have z6 := RowIs.cell (j := 6) R rfl
    have z7 := RowIs.cell (j := 7) R rfl
    have z8 := RowIs.cell (j := 8) R rfl
    have zf := fun j => RowIs.frozen R j
    have zl := R.lt
    go_upto_region 3 with fail
    clear z5 z6 z7 z8 zf zl
    have NR : RowIs ((((w1.setCell ⟨g, 5, none⟩ (.int .i64 r2)).setCell ⟨g, 6, none⟩ (.string b2)).setCell ⟨g, 7, none⟩ (.bool e2)).setCell ⟨g, 8, none⟩ (.bool k2)) g 58 [.int .i64 r, .string b, .bool e, .bool k, .int .i64 wt, .int .i64 r2, .string b2, .bool e2, .bool k2, .int .i64 cm] := ((((R.set 5 (.int .i64 r2)).set 6 (.string b2)).set 7 (.bool e2)).set 8 (.bool k2))
    have NHB : Turn g (g + 1) w ((((w1.setCell ⟨g, 5, none⟩ (.int .i64 r2)).setCell ⟨g, 6, none⟩ (.string b2)).setCell ⟨g, 7, none⟩ (.bool e2)).setCell ⟨g, 8, none⟩ (.bool k2)) := (Turn.setCell (Turn.setCell (Turn.setCell (Turn.setCell HB (p := ⟨g, 5, none⟩) (.int .i64 r2) (.inl ⟨Nat.le_refl _, Nat.lt_succ_self _⟩)) (p := ⟨g, 6, none⟩) (.string b2) (.inl ⟨Nat.le_refl _, Nat.lt_succ_self _⟩)) (p := ⟨g, 7, none⟩) (.bool e2) (.inl ⟨Nat.le_refl _, Nat.lt_succ_self _⟩)) (p := ⟨g, 8, none⟩) (.bool k2) (.inl ⟨Nat.le_refl _, Nat.lt_succ_self _⟩))
    generalize hV : ((((w1.setCell ⟨g, 5, none⟩ (.int .i64 r2)).setCell ⟨g, 6, none⟩ (.string b2)).setCell ⟨g, 7, none⟩ (.bool e2)).setCell ⟨g, 8, none⟩ (.bool k2)) = V2 at *
    clear hV
    clear R
    have R := NR
    clear NR
    clear HB
    have HB := NHB
    clear NHB
    have z5 := RowIs.cell (j := 5) R rfl
    have z6 := RowIs.cell (j := 6) R rfl
    have z7 := RowIs.cell (j := 7) R rfl
    have z8 := RowIs.cell (j := 8) R rfl
    have zf := fun j => RowIs.frozen R j
    have zl := R.lt
    go_wp2_with fail
    go_ret
    exact ⟨rfl, R, HB⟩
  by_cases hz : s.size = 0
  · obtain rfl : k2 = true := by rcases hno rfl with h | h; exact absurd hz h; exact h
    have hzI : (s.size : Int) = 0 := by omega
    go_enter Try.func37, Try.ntmps37
    have z5 := RowIs.cell (j := 5) R rfl
    have z6 := RowIs.cell (j := 6) R rfl
    have z7 := RowIs.cell (j := 7) R rfl
    have z8 := RowIs.cell (j := 8) R rfl
    have zf := fun j => RowIs.frozen R j
    have zl := R.lt
    go_wp2_with fail
    clear z5 z6 z7 z8 zf zl
    refine (hpu _).mono ?_; rintro x w1 ⟨rfl, hb⟩
    replace R := R.new hb
    replace HB := HB.trans (turn_new hb _ _)
    clear hb
    clear hpu
    have z5 := RowIs.cell (j := 5) R rfl
    have z6 := RowIs.cell (j := 6) R rfl
    have z7 := RowIs.cell (j := 7) R rfl
    have z8 := RowIs.cell (j := 8) R rfl
    have zf := fun j => RowIs.frozen R j
    have zl := R.lt
    go_upto_region 3 with fail
    clear z5 z6 z7 z8 zf zl
    have NR : RowIs ((((w1.setCell ⟨g, 5, none⟩ (.int .i64 r2)).setCell ⟨g, 6, none⟩ (.string b2)).setCell ⟨g, 7, none⟩ (.bool e2)).setCell ⟨g, 8, none⟩ (.bool true)) g 58 [.int .i64 r, .string b, .bool e, .bool k, .int .i64 wt, .int .i64 r2, .string b2, .bool e2, .bool true, .int .i64 cm] := ((((R.set 5 (.int .i64 r2)).set 6 (.string b2)).set 7 (.bool e2)).set 8 (.bool true))
    have NHB : Turn g (g + 1) w ((((w1.setCell ⟨g, 5, none⟩ (.int .i64 r2)).setCell ⟨g, 6, none⟩ (.string b2)).setCell ⟨g, 7, none⟩ (.bool e2)).setCell ⟨g, 8, none⟩ (.bool true)) := (Turn.setCell (Turn.setCell (Turn.setCell (Turn.setCell HB (p := ⟨g, 5, none⟩) (.int .i64 r2) (.inl ⟨Nat.le_refl _, Nat.lt_succ_self _⟩)) (p := ⟨g, 6, none⟩) (.string b2) (.inl ⟨Nat.le_refl _, Nat.lt_succ_self _⟩)) (p := ⟨g, 7, none⟩) (.bool e2) (.inl ⟨Nat.le_refl _, Nat.lt_succ_self _⟩)) (p := ⟨g, 8, none⟩) (.bool true) (.inl ⟨Nat.le_refl _, Nat.lt_succ_self _⟩))
    generalize hV : ((((w1.setCell ⟨g, 5, none⟩ (.int .i64 r2)).setCell ⟨g, 6, none⟩ (.string b2)).setCell ⟨g, 7, none⟩ (.bool e2)).setCell ⟨g, 8, none⟩ (.bool true)) = V2 at *
    clear hV
    clear R
    have R := NR
    clear NR
    clear HB
    have HB := NHB
    clear NHB
    have z5 := RowIs.cell (j := 5) R rfl
    have z6 := RowIs.cell (j := 6) R rfl
    have z7 := RowIs.cell (j := 7) R rfl
    have z8 := RowIs.cell (j := 8) R rfl
    have zf := fun j => RowIs.frozen R j
    have zl := R.lt
    go_wp2_with fail
    go_ret
    exact ⟨rfl, R, HB⟩
  have hzI : ¬ ((0 : Int) = (s.size : Int)) := by omega
  go_enter Try.func37, Try.ntmps37
  have z5 := RowIs.cell (j := 5) R rfl
  have z6 := RowIs.cell (j := 6) R rfl
  have z7 := RowIs.cell (j := 7) R rfl
  have z8 := RowIs.cell (j := 8) R rfl
  have zf := fun j => RowIs.frozen R j
  have zl := R.lt
  go_wp2_with fail
  clear z5 z6 z7 z8 zf zl
  refine (hpu _).mono ?_; rintro x w1 ⟨rfl, hb⟩
  replace R := R.new hb
  replace HB := HB.trans (turn_new hb _ _)
  clear hb
  clear hpu
  have z5 := RowIs.cell (j := 5) R rfl
  have z6 := RowIs.cell (j := 6) R rfl
  have z7 := RowIs.cell (j := 7) R rfl
  have z8 := RowIs.cell (j := 8) R rfl
  have zf := fun j => RowIs.frozen R j
  have zl := R.lt
  go_upto_region 3 with fail
  clear z5 z6 z7 z8 zf zl
  have NR : RowIs ((((w1.setCell ⟨g, 5, none⟩ (.int .i64 r2)).setCell ⟨g, 6, none⟩ (.string b2)).setCell ⟨g, 7, none⟩ (.bool e2)).setCell ⟨g, 8, none⟩ (.bool k2)) g 58 [.int .i64 r, .string b, .bool e, .bool k, .int .i64 wt, .int .i64 r2, .string b2, .bool e2, .bool k2, .int .i64 cm] := ((((R.set 5 (.int .i64 r2)).set 6 (.string b2)).set 7 (.bool e2)).set 8 (.bool k2))
  have NHB : Turn g (g + 1) w ((((w1.setCell ⟨g, 5, none⟩ (.int .i64 r2)).setCell ⟨g, 6, none⟩ (.string b2)).setCell ⟨g, 7, none⟩ (.bool e2)).setCell ⟨g, 8, none⟩ (.bool k2)) := (Turn.setCell (Turn.setCell (Turn.setCell (Turn.setCell HB (p := ⟨g, 5, none⟩) (.int .i64 r2) (.inl ⟨Nat.le_refl _, Nat.lt_succ_self _⟩)) (p := ⟨g, 6, none⟩) (.string b2) (.inl ⟨Nat.le_refl _, Nat.lt_succ_self _⟩)) (p := ⟨g, 7, none⟩) (.bool e2) (.inl ⟨Nat.le_refl _, Nat.lt_succ_self _⟩)) (p := ⟨g, 8, none⟩) (.bool k2) (.inl ⟨Nat.le_refl _, Nat.lt_succ_self _⟩))
  generalize hV : ((((w1.setCell ⟨g, 5, none⟩ (.int .i64 r2)).setCell ⟨g, 6, none⟩ (.string b2)).setCell ⟨g, 7, none⟩ (.bool e2)).setCell ⟨g, 8, none⟩ (.bool k2)) = V2 at *
  clear hV
  clear R
  have R := NR
  clear NR
  clear HB
  have HB := NHB
  clear NHB
  have z5 := RowIs.cell (j := 5) R rfl
  have z6 := RowIs.cell (j := 6) R rfl
  have z7 := RowIs.cell (j := 7) R rfl
  have z8 := RowIs.cell (j := 8) R rfl
  have zf := fun j => RowIs.frozen R j
  have zl := R.lt
  go_wp2_with fail
  go_ret
  exact ⟨rfl, R, HB⟩
set_option maxHeartbeats 1000000 in
theorem takeBack16_shutfin (r : Int) (b : ByteArray) (e k : Bool) (r2 : Int) (b2 : ByteArray) (e2 : Bool) (wt cm : Int) (s : ByteArray) (g : Nat) (w : World) (R : RowIs w g 58 [.int .i64 r, .string b, .bool e, .bool k, .int .i64 wt, .int .i64 r2, .string b2, .bool e2, .bool false, .int .i64 cm]) (hok : okB r2 b2 false = true) (hs : s.size ≤ 1048576) (hek : (e2 || false) = true) (hyes : s.size = 0) :
    Calls Try.prog 37 #[.pointer (some ⟨g, 5, none⟩), .string s, .bool true] w fun x w' => x = .returned (.int .i64 0) ∧ RowIs w' g 58 [.int .i64 r, .string b, .bool e, .bool k, .int .i64 wt, .int .i64 r2, .string b2, .bool true, .bool false, .int .i64 cm] ∧ Turn g (g + 1) w w' := by
  have HB : Turn g (g + 1) w w := Turn.refl _ _ _
  have hpu := fun (u : World) => push r2 b2 s e2 false u hok hs
  simp only [pushedV_shut r2 b2 s e2 false hek] at hpu
  have hnbs : b2.size ≤ 281474976710656 := by obtain ⟨_, _, _⟩ := okB_parts hok; omega
  have hzI : (s.size : Int) = 0 := by omega
  go_enter Try.func37, Try.ntmps37
  have z5 := RowIs.cell (j := 5) R rfl
  have z6 := RowIs.cell (j := 6) R rfl
  have z7 := RowIs.cell (j := 7) R rfl
  have z8 := RowIs.cell (j := 8) R rfl
  have zf := fun j => RowIs.frozen R j
  have zl := R.lt
  go_wp2_with fail
  clear z5 z6 z7 z8 zf zl
  refine (hpu _).mono ?_; rintro x w1 ⟨rfl, hb⟩
  replace R := R.new hb
  replace HB := HB.trans (turn_new hb _ _)
  clear hb
  clear hpu
  have z5 := RowIs.cell (j := 5) R rfl
  have z6 := RowIs.cell (j := 6) R rfl
  have z7 := RowIs.cell (j := 7) R rfl
  have z8 := RowIs.cell (j := 8) R rfl
  have zf := fun j => RowIs.frozen R j
  have zl := R.lt
  go_upto_region 3 with fail
  clear z5 z6 z7 z8 zf zl
  have NR : RowIs ((((w1.setCell ⟨g, 5, none⟩ (.int .i64 r2)).setCell ⟨g, 6, none⟩ (.string b2)).setCell ⟨g, 7, none⟩ (.bool e2)).setCell ⟨g, 8, none⟩ (.bool false)) g 58 [.int .i64 r, .string b, .bool e, .bool k, .int .i64 wt, .int .i64 r2, .string b2, .bool e2, .bool false, .int .i64 cm] := ((((R.set 5 (.int .i64 r2)).set 6 (.string b2)).set 7 (.bool e2)).set 8 (.bool false))
  have NHB : Turn g (g + 1) w ((((w1.setCell ⟨g, 5, none⟩ (.int .i64 r2)).setCell ⟨g, 6, none⟩ (.string b2)).setCell ⟨g, 7, none⟩ (.bool e2)).setCell ⟨g, 8, none⟩ (.bool false)) := (Turn.setCell (Turn.setCell (Turn.setCell (Turn.setCell HB (p := ⟨g, 5, none⟩) (.int .i64 r2) (.inl ⟨Nat.le_refl _, Nat.lt_succ_self _⟩)) (p := ⟨g, 6, none⟩) (.string b2) (.inl ⟨Nat.le_refl _, Nat.lt_succ_self _⟩)) (p := ⟨g, 7, none⟩) (.bool e2) (.inl ⟨Nat.le_refl _, Nat.lt_succ_self _⟩)) (p := ⟨g, 8, none⟩) (.bool false) (.inl ⟨Nat.le_refl _, Nat.lt_succ_self _⟩))
  generalize hV : ((((w1.setCell ⟨g, 5, none⟩ (.int .i64 r2)).setCell ⟨g, 6, none⟩ (.string b2)).setCell ⟨g, 7, none⟩ (.bool e2)).setCell ⟨g, 8, none⟩ (.bool false)) = V2 at *
  clear hV
  clear R
  have R := NR
  clear NR
  clear HB
  have HB := NHB
  clear NHB
  have z5 := RowIs.cell (j := 5) R rfl
  have z6 := RowIs.cell (j := 6) R rfl
  have z7 := RowIs.cell (j := 7) R rfl
  have z8 := RowIs.cell (j := 8) R rfl
  have zf := fun j => RowIs.frozen R j
  have zl := R.lt
  go_wp2_with fail
  clear z5 z6 z7 z8 zf zl
  refine (endP r2 b2 e2 false _ hnbs).mono ?_; rintro x w3 ⟨rfl, hb⟩
  replace R := R.new hb
  replace HB := HB.trans (turn_new hb _ _)
  clear hb
  have z5 := RowIs.cell (j := 5) R rfl
  have z6 := RowIs.cell (j := 6) R rfl
  have z7 := RowIs.cell (j := 7) R rfl
  have z8 := RowIs.cell (j := 8) R rfl
  have zf := fun j => RowIs.frozen R j
  have zl := R.lt
  go_upto_region 5 with fail
  clear z5 z6 z7 z8 zf zl
  have NR : RowIs ((((w3.setCell ⟨g, 5, none⟩ (.int .i64 r2)).setCell ⟨g, 6, none⟩ (.string b2)).setCell ⟨g, 7, none⟩ (.bool true)).setCell ⟨g, 8, none⟩ (.bool false)) g 58 [.int .i64 r, .string b, .bool e, .bool k, .int .i64 wt, .int .i64 r2, .string b2, .bool true, .bool false, .int .i64 cm] := ((((R.set 5 (.int .i64 r2)).set 6 (.string b2)).set 7 (.bool true)).set 8 (.bool false))
  have NHB : Turn g (g + 1) w ((((w3.setCell ⟨g, 5, none⟩ (.int .i64 r2)).setCell ⟨g, 6, none⟩ (.string b2)).setCell ⟨g, 7, none⟩ (.bool true)).setCell ⟨g, 8, none⟩ (.bool false)) := (Turn.setCell (Turn.setCell (Turn.setCell (Turn.setCell HB (p := ⟨g, 5, none⟩) (.int .i64 r2) (.inl ⟨Nat.le_refl _, Nat.lt_succ_self _⟩)) (p := ⟨g, 6, none⟩) (.string b2) (.inl ⟨Nat.le_refl _, Nat.lt_succ_self _⟩)) (p := ⟨g, 7, none⟩) (.bool true) (.inl ⟨Nat.le_refl _, Nat.lt_succ_self _⟩)) (p := ⟨g, 8, none⟩) (.bool false) (.inl ⟨Nat.le_refl _, Nat.lt_succ_self _⟩))
  generalize hV : ((((w3.setCell ⟨g, 5, none⟩ (.int .i64 r2)).setCell ⟨g, 6, none⟩ (.string b2)).setCell ⟨g, 7, none⟩ (.bool true)).setCell ⟨g, 8, none⟩ (.bool false)) = V4 at *
  clear hV
  clear R
  have R := NR
  clear NR
  clear HB
  have HB := NHB
  clear NHB
  go_wp2_with fail
  go_ret
  exact ⟨rfl, R, HB⟩
theorem takeBack16 (t : TuD) (s : ByteArray) (fin : Bool) (g : Nat) (w : World) (ho : okTu t = true) (hs : s.size ≤ 1048576) (R : RowIs w g 58 (lncs t)) :
    Calls Try.prog 37 #[.pointer (some ⟨g, 5, none⟩), .string s, .bool fin] w fun x w' => x = .returned (.int .i64 (bckTu t s fin).2) ∧ RowIs w' g 58 (lncs (bckTu t s fin).1) ∧ Turn g (g + 1) w w' := by
  obtain ⟨hu, hd, hw, hm⟩ := okTu_true ho
  have hv : bckTu t s fin = (⟨t.up, ⟨t.dn.r, t.dn.b ++ s.extract 0 (bckN t s), t.dn.e || (fin && decide (bckN t s = s.size) && !t.dn.k), t.dn.k⟩, t.went, t.came⟩, (bckN t s : Int)) := by
    unfold bckTu; rw [if_neg (by rw [ho]; decide)]
  rw [hv]
  clear hv ho hu hw hm
  obtain ⟨⟨r, b, e, k⟩, ⟨r2, b2, e2, k2⟩, wt, cm⟩ := t
  dsimp only [lncs] at *
  have hok : okB r2 b2 k2 = true := hd
  cases hek : (e2 || k2)
  · obtain ⟨rfl, rfl⟩ : e2 = false ∧ k2 = false := by revert hek; cases e2 <;> cases k2 <;> simp
    have hbn : bckN ⟨⟨r, b, e, k⟩, ⟨r2, b2, false, false⟩, wt, cm⟩ s = comes r2 b2 s := by unfold bckN; rw [if_neg (by simp)]
    rw [hbn]
    by_cases hall : fin = true ∧ comes r2 b2 s = s.size
    · obtain ⟨rfl, ha⟩ := hall
      have h := takeBack16_openfin r b e k r2 b2 wt cm s g w R hok hs ha
      simpa [ha] using h
    · have hz : (false || (fin && decide (comes r2 b2 s = s.size) && !false)) = false := by
        cases fin
        · rfl
        · have : comes r2 b2 s ≠ s.size := fun h => hall ⟨rfl, h⟩
          simp [this]
      rw [hz]
      exact takeBack16_open r b e k r2 b2 wt cm s fin g w R hok hs (fun h1 h2 => hall ⟨h1, h2⟩)
  · have hor : e2 = true ∨ k2 = true := by revert hek; cases e2 <;> cases k2 <;> simp
    have hbn : bckN ⟨⟨r, b, e, k⟩, ⟨r2, b2, e2, k2⟩, wt, cm⟩ s = 0 := by unfold bckN; rw [if_pos hor]
    rw [hbn]
    have hex : b2 ++ s.extract 0 0 = b2 := by simp
    rw [hex]
    by_cases hall : fin = true ∧ s.size = 0 ∧ k2 = false
    · obtain ⟨rfl, ha, rfl⟩ := hall
      have h := takeBack16_shutfin r b e k r2 b2 e2 wt cm s g w R hok hs hek ha
      simpa [ha] using h
    · have hz : (e2 || (fin && decide (0 = s.size) && !k2)) = e2 := by
        cases fin
        · simp
        · cases k2
          · have : ¬ (0 = s.size) := fun h => hall ⟨rfl, h.symm, rfl⟩
            simp [this]
          · simp
      rw [hz]
      exact takeBack16_shut r b e k r2 b2 e2 k2 wt cm s fin g w R hok hs hek (fun h1 => by
        cases k2
        · left; intro h2; exact hall ⟨h1, h2, rfl⟩
        · exact .inr rfl)
set_option maxHeartbeats 1000000 in
theorem implTunnelOk (t : TuD) (w : World) (h1 : t.up.b.size ≤ maxLen) (h2 : t.dn.b.size ≤ maxLen) : Calls Try.prog 16 #[tuv t] w fun x w' => x = .returned (.bool (okTu t)) ∧ Below w.heap.size w w' := by
  obtain ⟨⟨r, b, e, k⟩, ⟨r2, b2, e2, k2⟩, wt, cm⟩ := t
  dsimp only [tuv] at *
  obtain ⟨W, hW⟩ : ∃ W, (w.alloc (.cells #[.int .i64 r, .string b, .bool e, .bool k, .int .i64 r2, .string b2, .bool e2, .bool k2, .int .i64 wt, .int .i64 cm] 27)) = W := ⟨_, rfl⟩
  have RX : RowIs W w.heap.size 27 [.int .i64 r, .string b, .bool e, .bool k, .int .i64 r2, .string b2, .bool e2, .bool k2, .int .i64 wt, .int .i64 cm] := by rw [← hW]; exact rowIs_new w 27 [.int .i64 r, .string b, .bool e, .bool k, .int .i64 r2, .string b2, .bool e2, .bool k2, .int .i64 wt, .int .i64 cm]
  have HB : Below w.heap.size w W := by rw [← hW]; exact (Below.refl _ _).alloc (Nat.le_refl _) _
  have hri := fun (u : World) => lanesRight16 ⟨⟨r, b, e, k⟩, ⟨r2, b2, e2, k2⟩, wt, cm⟩ u h1 h2
  go_enter Try.func16, Try.ntmps16
  go_wp2_with (refine wpList_load_row (by rfl) 27 _ (by rfl) w.heap.size (by rfl) [.int .i64 r, .string b, .bool e, .bool k, .int .i64 r2, .string b2, .bool e2, .bool k2, .int .i64 wt, .int .i64 cm] _ 27 RX Try.underlying27 rfl (by kernel_rfl) ?_)
  clear hW
  refine (lanes16 ⟨⟨r, b, e, k⟩, ⟨r2, b2, e2, k2⟩, wt, cm⟩ _).mono ?_; rintro x w1 ⟨rfl, hb⟩
  replace RX := RX.new hb
  replace HB := bchain HB hb
  clear hb
  go_wp2_with fail
  refine (hri _).mono ?_; rintro x w2 ⟨rfl, hb⟩
  replace RX := RX.new hb
  replace HB := bchain HB hb
  clear hb
  go_wp2_with fail
  go_ret
  exact ⟨rfl, HB⟩
set_option maxHeartbeats 2000000 in
theorem implIn16 (t : TuD) (s : ByteArray) (fin : Bool) (w : World) (h1 : t.up.b.size ≤ maxLen) (h2 : t.dn.b.size ≤ maxLen) (hs : s.size ≤ 1048576) : Calls Try.prog 7 #[tuv t, .string s, .bool fin] w fun x w' => x = .returned (.tuple #[tuv (inTu t s fin).1, .bool (inTu t s fin).2]) ∧ Below w.heap.size w w' := by
  obtain ⟨⟨r, b, e, k⟩, ⟨r2, b2, e2, k2⟩, wt, cm⟩ := t
  dsimp only [tuv] at *
  have hri := fun (u : World) => lanesRight16 ⟨⟨r, b, e, k⟩, ⟨r2, b2, e2, k2⟩, wt, cm⟩ u h1 h2
  cases hk : okTu ⟨⟨r, b, e, k⟩, ⟨r2, b2, e2, k2⟩, wt, cm⟩
  · have hv : inTu ⟨⟨r, b, e, k⟩, ⟨r2, b2, e2, k2⟩, wt, cm⟩ s fin = (zTu, false) := by unfold inTu; rw [if_pos hk]
    rw [hv]
    rw [hk] at hri
    dsimp only [zTu, zPp]
    obtain ⟨W, hW⟩ : ∃ W, ((w.alloc (.cells #[.int .i64 r, .string b, .bool e, .bool k, .int .i64 r2, .string b2, .bool e2, .bool k2, .int .i64 wt, .int .i64 cm] 27)).alloc (.cells #[.int .i64 0, .string ⟨#[]⟩, .bool false, .bool false, .int .i64 0, .string ⟨#[]⟩, .bool false, .bool false, .int .i64 0, .int .i64 0] 27)) = W := ⟨_, rfl⟩
    have RX : RowIs W w.heap.size 27 [.int .i64 r, .string b, .bool e, .bool k, .int .i64 r2, .string b2, .bool e2, .bool k2, .int .i64 wt, .int .i64 cm] := by rw [← hW]; exact (rowIs_new w 27 [.int .i64 r, .string b, .bool e, .bool k, .int .i64 r2, .string b2, .bool e2, .bool k2, .int .i64 wt, .int .i64 cm]).alloc _
    have RY : RowIs W (w.heap.size + 1) 27 [.int .i64 0, .string ⟨#[]⟩, .bool false, .bool false, .int .i64 0, .string ⟨#[]⟩, .bool false, .bool false, .int .i64 0, .int .i64 0] := by have := rowIs_new (w.alloc (.cells #[.int .i64 r, .string b, .bool e, .bool k, .int .i64 r2, .string b2, .bool e2, .bool k2, .int .i64 wt, .int .i64 cm] 27)) 27 [.int .i64 0, .string ⟨#[]⟩, .bool false, .bool false, .int .i64 0, .string ⟨#[]⟩, .bool false, .bool false, .int .i64 0, .int .i64 0]; rw [hW] at this; simpa using this
    have HB : Below w.heap.size w W := by rw [← hW]; exact (((Below.refl _ _).alloc (Nat.le_refl _) _).alloc (by simp) _)
    go_enter Try.func7, Try.ntmps7
    go_wp2_with (refine wpList_load_row (by rfl) 27 _ (by rfl) w.heap.size (by rfl) [.int .i64 r, .string b, .bool e, .bool k, .int .i64 r2, .string b2, .bool e2, .bool k2, .int .i64 wt, .int .i64 cm] _ 27 RX Try.underlying27 rfl (by kernel_rfl) ?_)
    clear hW
    refine (lanes16 ⟨⟨r, b, e, k⟩, ⟨r2, b2, e2, k2⟩, wt, cm⟩ _).mono ?_; rintro x w1 ⟨rfl, hb⟩
    replace RX := RX.new hb
    replace RY := RY.new hb
    replace HB := bchain HB hb
    clear hb
    dsimp only [lnv]
    go_upto_region 2 with (refine wpList_store_row (by rfl) 58 _ _ (by rfl) w1.heap.size [.int .i64 r, .string b, .bool e, .bool k, .int .i64 wt, .int .i64 r2, .string b2, .bool e2, .bool k2, .int .i64 cm] (by rfl) (by rfl) 58 [.int .i64 0, .string ⟨#[]⟩, .bool false, .bool false, .int .i64 0, .int .i64 0, .string ⟨#[]⟩, .bool false, .bool false, .int .i64 0] (rowIs_new w1 58 [.int .i64 0, .string ⟨#[]⟩, .bool false, .bool false, .int .i64 0, .int .i64 0, .string ⟨#[]⟩, .bool false, .bool false, .int .i64 0]) (by kernel_rfl) rfl (by intro u hu; simp at hu; rcases hu with rfl | rfl | rfl | rfl | rfl | rfl | rfl | rfl | rfl | rfl <;> rfl) ?_)
    have RL : RowIs ((w1.alloc (.cells #[.int .i64 0, .string ⟨#[]⟩, .bool false, .bool false, .int .i64 0, .int .i64 0, .string ⟨#[]⟩, .bool false, .bool false, .int .i64 0] 58)).setRow w1.heap.size #[.int .i64 r, .string b, .bool e, .bool k, .int .i64 wt, .int .i64 r2, .string b2, .bool e2, .bool k2, .int .i64 cm]) w1.heap.size 58 [.int .i64 r, .string b, .bool e, .bool k, .int .i64 wt, .int .i64 r2, .string b2, .bool e2, .bool k2, .int .i64 cm] := rowIs_setRow (cs' := [.int .i64 r, .string b, .bool e, .bool k, .int .i64 wt, .int .i64 r2, .string b2, .bool e2, .bool k2, .int .i64 cm]) (rowIs_new w1 58 [.int .i64 0, .string ⟨#[]⟩, .bool false, .bool false, .int .i64 0, .int .i64 0, .string ⟨#[]⟩, .bool false, .bool false, .int .i64 0])
    have hbV : Below w1.heap.size w1 ((w1.alloc (.cells #[.int .i64 0, .string ⟨#[]⟩, .bool false, .bool false, .int .i64 0, .int .i64 0, .string ⟨#[]⟩, .bool false, .bool false, .int .i64 0] 58)).setRow w1.heap.size #[.int .i64 r, .string b, .bool e, .bool k, .int .i64 wt, .int .i64 r2, .string b2, .bool e2, .bool k2, .int .i64 cm]) := below_setRow ((Below.refl _ _).alloc (Nat.le_refl _) _) (Nat.le_refl _) #[.int .i64 r, .string b, .bool e, .bool k, .int .i64 wt, .int .i64 r2, .string b2, .bool e2, .bool k2, .int .i64 cm]
    have hgl : w.heap.size + 1 < w1.heap.size := RY.lt
    replace RX := RX.new hbV
    replace RY := RY.new hbV
    replace HB := bchain HB hbV
    clear hbV
    generalize hV : (w1.alloc (.cells #[.int .i64 0, .string ⟨#[]⟩, .bool false, .bool false, .int .i64 0, .int .i64 0, .string ⟨#[]⟩, .bool false, .bool false, .int .i64 0] 58)).setRow w1.heap.size #[.int .i64 r, .string b, .bool e, .bool k, .int .i64 wt, .int .i64 r2, .string b2, .bool e2, .bool k2, .int .i64 cm] = V0 at *
    clear hV
    generalize w1.heap.size = gL at *
    go_wp2_with (refine wpList_load_row (by rfl) 58 _ (by rfl) gL (by rfl) [.int .i64 r, .string b, .bool e, .bool k, .int .i64 wt, .int .i64 r2, .string b2, .bool e2, .bool k2, .int .i64 cm] _ 58 RL Try.underlying58 rfl (by kernel_rfl) ?_)
    refine (hri _).mono ?_; rintro x w2 ⟨rfl, hb⟩
    replace RX := RX.new hb
    replace RY := RY.new hb
    replace RL := RL.new hb
    replace HB := bchain HB hb
    clear hb
    go_wp2_with (refine wpList_store_row (by rfl) 27 _ _ (by rfl) (w.heap.size + 1) [.int .i64 0, .string ⟨#[]⟩, .bool false, .bool false, .int .i64 0, .string ⟨#[]⟩, .bool false, .bool false, .int .i64 0, .int .i64 0] (by rfl) (by rfl) 27 [.int .i64 0, .string ⟨#[]⟩, .bool false, .bool false, .int .i64 0, .string ⟨#[]⟩, .bool false, .bool false, .int .i64 0, .int .i64 0] RY (by kernel_rfl) rfl (by intro u hu; simp at hu; rcases hu with rfl | rfl | rfl | rfl | rfl | rfl | rfl | rfl | rfl | rfl <;> rfl) ?_)
    have NRX := RX.kept (setRow_other w2 (w.heap.size + 1) #[.int .i64 0, .string ⟨#[]⟩, .bool false, .bool false, .int .i64 0, .string ⟨#[]⟩, .bool false, .bool false, .int .i64 0, .int .i64 0] w.heap.size (by omega))
    have NRY : RowIs (w2.setRow (w.heap.size + 1) #[.int .i64 0, .string ⟨#[]⟩, .bool false, .bool false, .int .i64 0, .string ⟨#[]⟩, .bool false, .bool false, .int .i64 0, .int .i64 0]) (w.heap.size + 1) 27 [.int .i64 0, .string ⟨#[]⟩, .bool false, .bool false, .int .i64 0, .string ⟨#[]⟩, .bool false, .bool false, .int .i64 0, .int .i64 0] := rowIs_setRow (cs' := [.int .i64 0, .string ⟨#[]⟩, .bool false, .bool false, .int .i64 0, .string ⟨#[]⟩, .bool false, .bool false, .int .i64 0, .int .i64 0]) RY
    have NRL := RL.kept (setRow_other w2 (w.heap.size + 1) #[.int .i64 0, .string ⟨#[]⟩, .bool false, .bool false, .int .i64 0, .string ⟨#[]⟩, .bool false, .bool false, .int .i64 0, .int .i64 0] gL (by omega))
    have NHB := below_setRow HB (show w.heap.size ≤ (w.heap.size + 1) by omega) #[.int .i64 0, .string ⟨#[]⟩, .bool false, .bool false, .int .i64 0, .string ⟨#[]⟩, .bool false, .bool false, .int .i64 0, .int .i64 0]
    generalize hV : w2.setRow (w.heap.size + 1) #[.int .i64 0, .string ⟨#[]⟩, .bool false, .bool false, .int .i64 0, .string ⟨#[]⟩, .bool false, .bool false, .int .i64 0, .int .i64 0] = V3 at *
    clear hV
    clear RX
    have RX := NRX
    clear NRX
    clear RY
    have RY := NRY
    clear NRY
    clear RL
    have RL := NRL
    clear NRL
    clear HB
    have HB := NHB
    clear NHB
    have y0 := RowIs.cell (j := 0) RY rfl
    have y1 := RowIs.cell (j := 1) RY rfl
    have y2 := RowIs.cell (j := 2) RY rfl
    have y3 := RowIs.cell (j := 3) RY rfl
    have y4 := RowIs.cell (j := 4) RY rfl
    have y5 := RowIs.cell (j := 5) RY rfl
    have y6 := RowIs.cell (j := 6) RY rfl
    have y7 := RowIs.cell (j := 7) RY rfl
    have y8 := RowIs.cell (j := 8) RY rfl
    have y9 := RowIs.cell (j := 9) RY rfl
    have yf := fun j => RowIs.frozen RY j
    have yl := RY.lt
    refine bodyPost_ret (v := .tuple #[.agg #[.int .i64 0, .string ⟨#[]⟩, .bool false, .bool false, .int .i64 0, .string ⟨#[]⟩, .bool false, .bool false, .int .i64 0, .int .i64 0], .bool false]) (by simp [results, Try.results7, go_sem, *]) rfl ?_
    exact ⟨rfl, HB⟩
  rw [hk] at hri
  obtain ⟨W, hW⟩ : ∃ W, ((w.alloc (.cells #[.int .i64 r, .string b, .bool e, .bool k, .int .i64 r2, .string b2, .bool e2, .bool k2, .int .i64 wt, .int .i64 cm] 27)).alloc (.cells #[.int .i64 0, .string ⟨#[]⟩, .bool false, .bool false, .int .i64 0, .string ⟨#[]⟩, .bool false, .bool false, .int .i64 0, .int .i64 0] 27)) = W := ⟨_, rfl⟩
  have RX : RowIs W w.heap.size 27 [.int .i64 r, .string b, .bool e, .bool k, .int .i64 r2, .string b2, .bool e2, .bool k2, .int .i64 wt, .int .i64 cm] := by rw [← hW]; exact (rowIs_new w 27 [.int .i64 r, .string b, .bool e, .bool k, .int .i64 r2, .string b2, .bool e2, .bool k2, .int .i64 wt, .int .i64 cm]).alloc _
  have RY : RowIs W (w.heap.size + 1) 27 [.int .i64 0, .string ⟨#[]⟩, .bool false, .bool false, .int .i64 0, .string ⟨#[]⟩, .bool false, .bool false, .int .i64 0, .int .i64 0] := by have := rowIs_new (w.alloc (.cells #[.int .i64 r, .string b, .bool e, .bool k, .int .i64 r2, .string b2, .bool e2, .bool k2, .int .i64 wt, .int .i64 cm] 27)) 27 [.int .i64 0, .string ⟨#[]⟩, .bool false, .bool false, .int .i64 0, .string ⟨#[]⟩, .bool false, .bool false, .int .i64 0, .int .i64 0]; rw [hW] at this; simpa using this
  have HB : Below w.heap.size w W := by rw [← hW]; exact (((Below.refl _ _).alloc (Nat.le_refl _) _).alloc (by simp) _)
  obtain ⟨sz1, sz2⟩ := inTu_size ⟨⟨r, b, e, k⟩, ⟨r2, b2, e2, k2⟩, wt, cm⟩ s fin hk hs
  have hpt := fun (g : Nat) (u : World) (R : RowIs u g 58 (lncs ⟨⟨r, b, e, k⟩, ⟨r2, b2, e2, k2⟩, wt, cm⟩)) => takeIn16 ⟨⟨r, b, e, k⟩, ⟨r2, b2, e2, k2⟩, wt, cm⟩ s fin g u hk hs R
  obtain ⟨⟨⟨⟨ar, ab, ae, ak⟩, ⟨ar2, ab2, ae2, ak2⟩, awt, acm⟩, z⟩, hv⟩ : ∃ v, inTu ⟨⟨r, b, e, k⟩, ⟨r2, b2, e2, k2⟩, wt, cm⟩ s fin = v := ⟨_, rfl⟩
  rw [hv] at sz1 sz2 hpt
  rw [hv]
  clear hv
  dsimp only [lncs] at *
  go_enter Try.func7, Try.ntmps7
  go_wp2_with (refine wpList_load_row (by rfl) 27 _ (by rfl) w.heap.size (by rfl) [.int .i64 r, .string b, .bool e, .bool k, .int .i64 r2, .string b2, .bool e2, .bool k2, .int .i64 wt, .int .i64 cm] _ 27 RX Try.underlying27 rfl (by kernel_rfl) ?_)
  clear hW
  refine (lanes16 ⟨⟨r, b, e, k⟩, ⟨r2, b2, e2, k2⟩, wt, cm⟩ _).mono ?_; rintro x w1 ⟨rfl, hb⟩
  replace RX := RX.new hb
  replace RY := RY.new hb
  replace HB := bchain HB hb
  clear hb
  dsimp only [lnv]
  go_upto_region 2 with (refine wpList_store_row (by rfl) 58 _ _ (by rfl) w1.heap.size [.int .i64 r, .string b, .bool e, .bool k, .int .i64 wt, .int .i64 r2, .string b2, .bool e2, .bool k2, .int .i64 cm] (by rfl) (by rfl) 58 [.int .i64 0, .string ⟨#[]⟩, .bool false, .bool false, .int .i64 0, .int .i64 0, .string ⟨#[]⟩, .bool false, .bool false, .int .i64 0] (rowIs_new w1 58 [.int .i64 0, .string ⟨#[]⟩, .bool false, .bool false, .int .i64 0, .int .i64 0, .string ⟨#[]⟩, .bool false, .bool false, .int .i64 0]) (by kernel_rfl) rfl (by intro u hu; simp at hu; rcases hu with rfl | rfl | rfl | rfl | rfl | rfl | rfl | rfl | rfl | rfl <;> rfl) ?_)
  have RL : RowIs ((w1.alloc (.cells #[.int .i64 0, .string ⟨#[]⟩, .bool false, .bool false, .int .i64 0, .int .i64 0, .string ⟨#[]⟩, .bool false, .bool false, .int .i64 0] 58)).setRow w1.heap.size #[.int .i64 r, .string b, .bool e, .bool k, .int .i64 wt, .int .i64 r2, .string b2, .bool e2, .bool k2, .int .i64 cm]) w1.heap.size 58 [.int .i64 r, .string b, .bool e, .bool k, .int .i64 wt, .int .i64 r2, .string b2, .bool e2, .bool k2, .int .i64 cm] := rowIs_setRow (cs' := [.int .i64 r, .string b, .bool e, .bool k, .int .i64 wt, .int .i64 r2, .string b2, .bool e2, .bool k2, .int .i64 cm]) (rowIs_new w1 58 [.int .i64 0, .string ⟨#[]⟩, .bool false, .bool false, .int .i64 0, .int .i64 0, .string ⟨#[]⟩, .bool false, .bool false, .int .i64 0])
  have hbV : Below w1.heap.size w1 ((w1.alloc (.cells #[.int .i64 0, .string ⟨#[]⟩, .bool false, .bool false, .int .i64 0, .int .i64 0, .string ⟨#[]⟩, .bool false, .bool false, .int .i64 0] 58)).setRow w1.heap.size #[.int .i64 r, .string b, .bool e, .bool k, .int .i64 wt, .int .i64 r2, .string b2, .bool e2, .bool k2, .int .i64 cm]) := below_setRow ((Below.refl _ _).alloc (Nat.le_refl _) _) (Nat.le_refl _) #[.int .i64 r, .string b, .bool e, .bool k, .int .i64 wt, .int .i64 r2, .string b2, .bool e2, .bool k2, .int .i64 cm]
  have hgl : w.heap.size + 1 < w1.heap.size := RY.lt
  replace RX := RX.new hbV
  replace RY := RY.new hbV
  replace HB := bchain HB hbV
  clear hbV
  generalize hV : (w1.alloc (.cells #[.int .i64 0, .string ⟨#[]⟩, .bool false, .bool false, .int .i64 0, .int .i64 0, .string ⟨#[]⟩, .bool false, .bool false, .int .i64 0] 58)).setRow w1.heap.size #[.int .i64 r, .string b, .bool e, .bool k, .int .i64 wt, .int .i64 r2, .string b2, .bool e2, .bool k2, .int .i64 cm] = V0 at *
  clear hV
  generalize w1.heap.size = gL at *
  go_wp2_with (refine wpList_load_row (by rfl) 58 _ (by rfl) gL (by rfl) [.int .i64 r, .string b, .bool e, .bool k, .int .i64 wt, .int .i64 r2, .string b2, .bool e2, .bool k2, .int .i64 cm] _ 58 RL Try.underlying58 rfl (by kernel_rfl) ?_)
  refine (hri _).mono ?_; rintro x w2 ⟨rfl, hb⟩
  replace RX := RX.new hb
  replace RY := RY.new hb
  replace RL := RL.new hb
  replace HB := bchain HB hb
  clear hb
  go_wp2_with fail
  refine (hpt _ _ RL).mono ?_; rintro x w7 ⟨rfl, hr, ht⟩
  replace RX := RX.kept (ht.block _ RX.lt (by omega))
  replace RY := RY.kept (ht.block _ RY.lt (by omega))
  replace HB := HB.trans (ht.below (show w.heap.size ≤ gL by omega) HB.size)
  clear RL ht hpt
  have RL := hr
  clear hr
  go_wp2_with (refine wpList_load_row (by rfl) 58 _ (by rfl) gL (by rfl) [.int .i64 ar, .string ab, .bool ae, .bool ak, .int .i64 awt, .int .i64 ar2, .string ab2, .bool ae2, .bool ak2, .int .i64 acm] _ 58 RL Try.underlying58 rfl (by kernel_rfl) ?_)
  refine (lanesTunnel16 ⟨⟨ar, ab, ae, ak⟩, ⟨ar2, ab2, ae2, ak2⟩, awt, acm⟩ _ (by show ab.size ≤ _; omega) (by show ab2.size ≤ _; omega)).mono ?_; rintro x w3 ⟨rfl, hb⟩
  replace RX := RX.new hb
  replace RY := RY.new hb
  replace RL := RL.new hb
  replace HB := bchain HB hb
  clear hb
  dsimp only [tuv]
  go_wp2_with (refine wpList_store_row (by rfl) 27 _ _ (by rfl) (w.heap.size + 1) [.int .i64 ar, .string ab, .bool ae, .bool ak, .int .i64 ar2, .string ab2, .bool ae2, .bool ak2, .int .i64 awt, .int .i64 acm] (by rfl) (by rfl) 27 [.int .i64 0, .string ⟨#[]⟩, .bool false, .bool false, .int .i64 0, .string ⟨#[]⟩, .bool false, .bool false, .int .i64 0, .int .i64 0] RY (by kernel_rfl) rfl (by intro u hu; simp at hu; rcases hu with rfl | rfl | rfl | rfl | rfl | rfl | rfl | rfl | rfl | rfl <;> rfl) ?_)
  have NRX := RX.kept (setRow_other w3 (w.heap.size + 1) #[.int .i64 ar, .string ab, .bool ae, .bool ak, .int .i64 ar2, .string ab2, .bool ae2, .bool ak2, .int .i64 awt, .int .i64 acm] w.heap.size (by omega))
  have NRY : RowIs (w3.setRow (w.heap.size + 1) #[.int .i64 ar, .string ab, .bool ae, .bool ak, .int .i64 ar2, .string ab2, .bool ae2, .bool ak2, .int .i64 awt, .int .i64 acm]) (w.heap.size + 1) 27 [.int .i64 ar, .string ab, .bool ae, .bool ak, .int .i64 ar2, .string ab2, .bool ae2, .bool ak2, .int .i64 awt, .int .i64 acm] := rowIs_setRow (cs' := [.int .i64 ar, .string ab, .bool ae, .bool ak, .int .i64 ar2, .string ab2, .bool ae2, .bool ak2, .int .i64 awt, .int .i64 acm]) RY
  have NRL := RL.kept (setRow_other w3 (w.heap.size + 1) #[.int .i64 ar, .string ab, .bool ae, .bool ak, .int .i64 ar2, .string ab2, .bool ae2, .bool ak2, .int .i64 awt, .int .i64 acm] gL (by omega))
  have NHB := below_setRow HB (show w.heap.size ≤ (w.heap.size + 1) by omega) #[.int .i64 ar, .string ab, .bool ae, .bool ak, .int .i64 ar2, .string ab2, .bool ae2, .bool ak2, .int .i64 awt, .int .i64 acm]
  generalize hV : w3.setRow (w.heap.size + 1) #[.int .i64 ar, .string ab, .bool ae, .bool ak, .int .i64 ar2, .string ab2, .bool ae2, .bool ak2, .int .i64 awt, .int .i64 acm] = V4 at *
  clear hV
  clear RX
  have RX := NRX
  clear NRX
  clear RY
  have RY := NRY
  clear NRY
  clear RL
  have RL := NRL
  clear NRL
  clear HB
  have HB := NHB
  clear NHB
  have y0 := RowIs.cell (j := 0) RY rfl
  have y1 := RowIs.cell (j := 1) RY rfl
  have y2 := RowIs.cell (j := 2) RY rfl
  have y3 := RowIs.cell (j := 3) RY rfl
  have y4 := RowIs.cell (j := 4) RY rfl
  have y5 := RowIs.cell (j := 5) RY rfl
  have y6 := RowIs.cell (j := 6) RY rfl
  have y7 := RowIs.cell (j := 7) RY rfl
  have y8 := RowIs.cell (j := 8) RY rfl
  have y9 := RowIs.cell (j := 9) RY rfl
  have yf := fun j => RowIs.frozen RY j
  have yl := RY.lt
  refine bodyPost_ret (v := .tuple #[.agg #[.int .i64 ar, .string ab, .bool ae, .bool ak, .int .i64 ar2, .string ab2, .bool ae2, .bool ak2, .int .i64 awt, .int .i64 acm], .bool z]) (by simp [results, Try.results7, go_sem, *]) rfl ?_
  exact ⟨rfl, HB⟩
set_option maxHeartbeats 2000000 in
theorem implOut (t : TuD) (n : Int) (w : World) (h1 : t.up.b.size ≤ maxLen) (h2 : t.dn.b.size ≤ maxLen) : Calls Try.prog 9 #[tuv t, .int .i64 n] w fun x w' => x = .returned (.tuple #[tuv (outTu t n).1, .string (outTu t n).2]) ∧ Below w.heap.size w w' := by
  obtain ⟨⟨r, b, e, k⟩, ⟨r2, b2, e2, k2⟩, wt, cm⟩ := t
  dsimp only [tuv] at *
  have hri := fun (u : World) => lanesRight16 ⟨⟨r, b, e, k⟩, ⟨r2, b2, e2, k2⟩, wt, cm⟩ u h1 h2
  cases hk : okTu ⟨⟨r, b, e, k⟩, ⟨r2, b2, e2, k2⟩, wt, cm⟩
  · have hv : outTu ⟨⟨r, b, e, k⟩, ⟨r2, b2, e2, k2⟩, wt, cm⟩ n = (zTu, ⟨#[]⟩) := by unfold outTu; rw [if_pos hk]
    rw [hv]
    rw [hk] at hri
    dsimp only [zTu, zPp]
    obtain ⟨W, hW⟩ : ∃ W, ((w.alloc (.cells #[.int .i64 r, .string b, .bool e, .bool k, .int .i64 r2, .string b2, .bool e2, .bool k2, .int .i64 wt, .int .i64 cm] 27)).alloc (.cells #[.int .i64 0, .string ⟨#[]⟩, .bool false, .bool false, .int .i64 0, .string ⟨#[]⟩, .bool false, .bool false, .int .i64 0, .int .i64 0] 27)) = W := ⟨_, rfl⟩
    have RX : RowIs W w.heap.size 27 [.int .i64 r, .string b, .bool e, .bool k, .int .i64 r2, .string b2, .bool e2, .bool k2, .int .i64 wt, .int .i64 cm] := by rw [← hW]; exact (rowIs_new w 27 [.int .i64 r, .string b, .bool e, .bool k, .int .i64 r2, .string b2, .bool e2, .bool k2, .int .i64 wt, .int .i64 cm]).alloc _
    have RY : RowIs W (w.heap.size + 1) 27 [.int .i64 0, .string ⟨#[]⟩, .bool false, .bool false, .int .i64 0, .string ⟨#[]⟩, .bool false, .bool false, .int .i64 0, .int .i64 0] := by have := rowIs_new (w.alloc (.cells #[.int .i64 r, .string b, .bool e, .bool k, .int .i64 r2, .string b2, .bool e2, .bool k2, .int .i64 wt, .int .i64 cm] 27)) 27 [.int .i64 0, .string ⟨#[]⟩, .bool false, .bool false, .int .i64 0, .string ⟨#[]⟩, .bool false, .bool false, .int .i64 0, .int .i64 0]; rw [hW] at this; simpa using this
    have HB : Below w.heap.size w W := by rw [← hW]; exact (((Below.refl _ _).alloc (Nat.le_refl _) _).alloc (by simp) _)
    go_enter Try.func9, Try.ntmps9
    go_wp2_with (refine wpList_load_row (by rfl) 27 _ (by rfl) w.heap.size (by rfl) [.int .i64 r, .string b, .bool e, .bool k, .int .i64 r2, .string b2, .bool e2, .bool k2, .int .i64 wt, .int .i64 cm] _ 27 RX Try.underlying27 rfl (by kernel_rfl) ?_)
    clear hW
    refine (lanes16 ⟨⟨r, b, e, k⟩, ⟨r2, b2, e2, k2⟩, wt, cm⟩ _).mono ?_; rintro x w1 ⟨rfl, hb⟩
    replace RX := RX.new hb
    replace RY := RY.new hb
    replace HB := bchain HB hb
    clear hb
    dsimp only [lnv]
    go_upto_region 2 with (refine wpList_store_row (by rfl) 58 _ _ (by rfl) w1.heap.size [.int .i64 r, .string b, .bool e, .bool k, .int .i64 wt, .int .i64 r2, .string b2, .bool e2, .bool k2, .int .i64 cm] (by rfl) (by rfl) 58 [.int .i64 0, .string ⟨#[]⟩, .bool false, .bool false, .int .i64 0, .int .i64 0, .string ⟨#[]⟩, .bool false, .bool false, .int .i64 0] (rowIs_new w1 58 [.int .i64 0, .string ⟨#[]⟩, .bool false, .bool false, .int .i64 0, .int .i64 0, .string ⟨#[]⟩, .bool false, .bool false, .int .i64 0]) (by kernel_rfl) rfl (by intro u hu; simp at hu; rcases hu with rfl | rfl | rfl | rfl | rfl | rfl | rfl | rfl | rfl | rfl <;> rfl) ?_)
    have RL : RowIs ((w1.alloc (.cells #[.int .i64 0, .string ⟨#[]⟩, .bool false, .bool false, .int .i64 0, .int .i64 0, .string ⟨#[]⟩, .bool false, .bool false, .int .i64 0] 58)).setRow w1.heap.size #[.int .i64 r, .string b, .bool e, .bool k, .int .i64 wt, .int .i64 r2, .string b2, .bool e2, .bool k2, .int .i64 cm]) w1.heap.size 58 [.int .i64 r, .string b, .bool e, .bool k, .int .i64 wt, .int .i64 r2, .string b2, .bool e2, .bool k2, .int .i64 cm] := rowIs_setRow (cs' := [.int .i64 r, .string b, .bool e, .bool k, .int .i64 wt, .int .i64 r2, .string b2, .bool e2, .bool k2, .int .i64 cm]) (rowIs_new w1 58 [.int .i64 0, .string ⟨#[]⟩, .bool false, .bool false, .int .i64 0, .int .i64 0, .string ⟨#[]⟩, .bool false, .bool false, .int .i64 0])
    have hbV : Below w1.heap.size w1 ((w1.alloc (.cells #[.int .i64 0, .string ⟨#[]⟩, .bool false, .bool false, .int .i64 0, .int .i64 0, .string ⟨#[]⟩, .bool false, .bool false, .int .i64 0] 58)).setRow w1.heap.size #[.int .i64 r, .string b, .bool e, .bool k, .int .i64 wt, .int .i64 r2, .string b2, .bool e2, .bool k2, .int .i64 cm]) := below_setRow ((Below.refl _ _).alloc (Nat.le_refl _) _) (Nat.le_refl _) #[.int .i64 r, .string b, .bool e, .bool k, .int .i64 wt, .int .i64 r2, .string b2, .bool e2, .bool k2, .int .i64 cm]
    have hgl : w.heap.size + 1 < w1.heap.size := RY.lt
    replace RX := RX.new hbV
    replace RY := RY.new hbV
    replace HB := bchain HB hbV
    clear hbV
    generalize hV : (w1.alloc (.cells #[.int .i64 0, .string ⟨#[]⟩, .bool false, .bool false, .int .i64 0, .int .i64 0, .string ⟨#[]⟩, .bool false, .bool false, .int .i64 0] 58)).setRow w1.heap.size #[.int .i64 r, .string b, .bool e, .bool k, .int .i64 wt, .int .i64 r2, .string b2, .bool e2, .bool k2, .int .i64 cm] = V0 at *
    clear hV
    generalize w1.heap.size = gL at *
    go_wp2_with (refine wpList_load_row (by rfl) 58 _ (by rfl) gL (by rfl) [.int .i64 r, .string b, .bool e, .bool k, .int .i64 wt, .int .i64 r2, .string b2, .bool e2, .bool k2, .int .i64 cm] _ 58 RL Try.underlying58 rfl (by kernel_rfl) ?_)
    refine (hri _).mono ?_; rintro x w2 ⟨rfl, hb⟩
    replace RX := RX.new hb
    replace RY := RY.new hb
    replace RL := RL.new hb
    replace HB := bchain HB hb
    clear hb
    go_wp2_with (refine wpList_store_row (by rfl) 27 _ _ (by rfl) (w.heap.size + 1) [.int .i64 0, .string ⟨#[]⟩, .bool false, .bool false, .int .i64 0, .string ⟨#[]⟩, .bool false, .bool false, .int .i64 0, .int .i64 0] (by rfl) (by rfl) 27 [.int .i64 0, .string ⟨#[]⟩, .bool false, .bool false, .int .i64 0, .string ⟨#[]⟩, .bool false, .bool false, .int .i64 0, .int .i64 0] RY (by kernel_rfl) rfl (by intro u hu; simp at hu; rcases hu with rfl | rfl | rfl | rfl | rfl | rfl | rfl | rfl | rfl | rfl <;> rfl) ?_)
    have NRX := RX.kept (setRow_other w2 (w.heap.size + 1) #[.int .i64 0, .string ⟨#[]⟩, .bool false, .bool false, .int .i64 0, .string ⟨#[]⟩, .bool false, .bool false, .int .i64 0, .int .i64 0] w.heap.size (by omega))
    have NRY : RowIs (w2.setRow (w.heap.size + 1) #[.int .i64 0, .string ⟨#[]⟩, .bool false, .bool false, .int .i64 0, .string ⟨#[]⟩, .bool false, .bool false, .int .i64 0, .int .i64 0]) (w.heap.size + 1) 27 [.int .i64 0, .string ⟨#[]⟩, .bool false, .bool false, .int .i64 0, .string ⟨#[]⟩, .bool false, .bool false, .int .i64 0, .int .i64 0] := rowIs_setRow (cs' := [.int .i64 0, .string ⟨#[]⟩, .bool false, .bool false, .int .i64 0, .string ⟨#[]⟩, .bool false, .bool false, .int .i64 0, .int .i64 0]) RY
    have NRL := RL.kept (setRow_other w2 (w.heap.size + 1) #[.int .i64 0, .string ⟨#[]⟩, .bool false, .bool false, .int .i64 0, .string ⟨#[]⟩, .bool false, .bool false, .int .i64 0, .int .i64 0] gL (by omega))
    have NHB := below_setRow HB (show w.heap.size ≤ (w.heap.size + 1) by omega) #[.int .i64 0, .string ⟨#[]⟩, .bool false, .bool false, .int .i64 0, .string ⟨#[]⟩, .bool false, .bool false, .int .i64 0, .int .i64 0]
    generalize hV : w2.setRow (w.heap.size + 1) #[.int .i64 0, .string ⟨#[]⟩, .bool false, .bool false, .int .i64 0, .string ⟨#[]⟩, .bool false, .bool false, .int .i64 0, .int .i64 0] = V3 at *
    clear hV
    clear RX
    have RX := NRX
    clear NRX
    clear RY
    have RY := NRY
    clear NRY
    clear RL
    have RL := NRL
    clear NRL
    clear HB
    have HB := NHB
    clear NHB
    have y0 := RowIs.cell (j := 0) RY rfl
    have y1 := RowIs.cell (j := 1) RY rfl
    have y2 := RowIs.cell (j := 2) RY rfl
    have y3 := RowIs.cell (j := 3) RY rfl
    have y4 := RowIs.cell (j := 4) RY rfl
    have y5 := RowIs.cell (j := 5) RY rfl
    have y6 := RowIs.cell (j := 6) RY rfl
    have y7 := RowIs.cell (j := 7) RY rfl
    have y8 := RowIs.cell (j := 8) RY rfl
    have y9 := RowIs.cell (j := 9) RY rfl
    have yf := fun j => RowIs.frozen RY j
    have yl := RY.lt
    refine bodyPost_ret (v := .tuple #[.agg #[.int .i64 0, .string ⟨#[]⟩, .bool false, .bool false, .int .i64 0, .string ⟨#[]⟩, .bool false, .bool false, .int .i64 0, .int .i64 0], .string ⟨#[]⟩]) (by simp [results, Try.results9, go_sem, *]) rfl ?_
    exact ⟨rfl, HB⟩
  rw [hk] at hri
  obtain ⟨W, hW⟩ : ∃ W, ((w.alloc (.cells #[.int .i64 r, .string b, .bool e, .bool k, .int .i64 r2, .string b2, .bool e2, .bool k2, .int .i64 wt, .int .i64 cm] 27)).alloc (.cells #[.int .i64 0, .string ⟨#[]⟩, .bool false, .bool false, .int .i64 0, .string ⟨#[]⟩, .bool false, .bool false, .int .i64 0, .int .i64 0] 27)) = W := ⟨_, rfl⟩
  have RX : RowIs W w.heap.size 27 [.int .i64 r, .string b, .bool e, .bool k, .int .i64 r2, .string b2, .bool e2, .bool k2, .int .i64 wt, .int .i64 cm] := by rw [← hW]; exact (rowIs_new w 27 [.int .i64 r, .string b, .bool e, .bool k, .int .i64 r2, .string b2, .bool e2, .bool k2, .int .i64 wt, .int .i64 cm]).alloc _
  have RY : RowIs W (w.heap.size + 1) 27 [.int .i64 0, .string ⟨#[]⟩, .bool false, .bool false, .int .i64 0, .string ⟨#[]⟩, .bool false, .bool false, .int .i64 0, .int .i64 0] := by have := rowIs_new (w.alloc (.cells #[.int .i64 r, .string b, .bool e, .bool k, .int .i64 r2, .string b2, .bool e2, .bool k2, .int .i64 wt, .int .i64 cm] 27)) 27 [.int .i64 0, .string ⟨#[]⟩, .bool false, .bool false, .int .i64 0, .string ⟨#[]⟩, .bool false, .bool false, .int .i64 0, .int .i64 0]; rw [hW] at this; simpa using this
  have HB : Below w.heap.size w W := by rw [← hW]; exact (((Below.refl _ _).alloc (Nat.le_refl _) _).alloc (by simp) _)
  obtain ⟨sz1, sz2⟩ := outTu_size ⟨⟨r, b, e, k⟩, ⟨r2, b2, e2, k2⟩, wt, cm⟩ n hk
  have hpt := fun (g : Nat) (u : World) (R : RowIs u g 58 (lncs ⟨⟨r, b, e, k⟩, ⟨r2, b2, e2, k2⟩, wt, cm⟩)) => letOut16 ⟨⟨r, b, e, k⟩, ⟨r2, b2, e2, k2⟩, wt, cm⟩ n g u hk R
  obtain ⟨⟨⟨⟨ar, ab, ae, ak⟩, ⟨ar2, ab2, ae2, ak2⟩, awt, acm⟩, z⟩, hv⟩ : ∃ v, outTu ⟨⟨r, b, e, k⟩, ⟨r2, b2, e2, k2⟩, wt, cm⟩ n = v := ⟨_, rfl⟩
  rw [hv] at sz1 sz2 hpt
  rw [hv]
  clear hv
  dsimp only [lncs] at *
  go_enter Try.func9, Try.ntmps9
  go_wp2_with (refine wpList_load_row (by rfl) 27 _ (by rfl) w.heap.size (by rfl) [.int .i64 r, .string b, .bool e, .bool k, .int .i64 r2, .string b2, .bool e2, .bool k2, .int .i64 wt, .int .i64 cm] _ 27 RX Try.underlying27 rfl (by kernel_rfl) ?_)
  clear hW
  refine (lanes16 ⟨⟨r, b, e, k⟩, ⟨r2, b2, e2, k2⟩, wt, cm⟩ _).mono ?_; rintro x w1 ⟨rfl, hb⟩
  replace RX := RX.new hb
  replace RY := RY.new hb
  replace HB := bchain HB hb
  clear hb
  dsimp only [lnv]
  go_upto_region 2 with (refine wpList_store_row (by rfl) 58 _ _ (by rfl) w1.heap.size [.int .i64 r, .string b, .bool e, .bool k, .int .i64 wt, .int .i64 r2, .string b2, .bool e2, .bool k2, .int .i64 cm] (by rfl) (by rfl) 58 [.int .i64 0, .string ⟨#[]⟩, .bool false, .bool false, .int .i64 0, .int .i64 0, .string ⟨#[]⟩, .bool false, .bool false, .int .i64 0] (rowIs_new w1 58 [.int .i64 0, .string ⟨#[]⟩, .bool false, .bool false, .int .i64 0, .int .i64 0, .string ⟨#[]⟩, .bool false, .bool false, .int .i64 0]) (by kernel_rfl) rfl (by intro u hu; simp at hu; rcases hu with rfl | rfl | rfl | rfl | rfl | rfl | rfl | rfl | rfl | rfl <;> rfl) ?_)
  have RL : RowIs ((w1.alloc (.cells #[.int .i64 0, .string ⟨#[]⟩, .bool false, .bool false, .int .i64 0, .int .i64 0, .string ⟨#[]⟩, .bool false, .bool false, .int .i64 0] 58)).setRow w1.heap.size #[.int .i64 r, .string b, .bool e, .bool k, .int .i64 wt, .int .i64 r2, .string b2, .bool e2, .bool k2, .int .i64 cm]) w1.heap.size 58 [.int .i64 r, .string b, .bool e, .bool k, .int .i64 wt, .int .i64 r2, .string b2, .bool e2, .bool k2, .int .i64 cm] := rowIs_setRow (cs' := [.int .i64 r, .string b, .bool e, .bool k, .int .i64 wt, .int .i64 r2, .string b2, .bool e2, .bool k2, .int .i64 cm]) (rowIs_new w1 58 [.int .i64 0, .string ⟨#[]⟩, .bool false, .bool false, .int .i64 0, .int .i64 0, .string ⟨#[]⟩, .bool false, .bool false, .int .i64 0])
  have hbV : Below w1.heap.size w1 ((w1.alloc (.cells #[.int .i64 0, .string ⟨#[]⟩, .bool false, .bool false, .int .i64 0, .int .i64 0, .string ⟨#[]⟩, .bool false, .bool false, .int .i64 0] 58)).setRow w1.heap.size #[.int .i64 r, .string b, .bool e, .bool k, .int .i64 wt, .int .i64 r2, .string b2, .bool e2, .bool k2, .int .i64 cm]) := below_setRow ((Below.refl _ _).alloc (Nat.le_refl _) _) (Nat.le_refl _) #[.int .i64 r, .string b, .bool e, .bool k, .int .i64 wt, .int .i64 r2, .string b2, .bool e2, .bool k2, .int .i64 cm]
  have hgl : w.heap.size + 1 < w1.heap.size := RY.lt
  replace RX := RX.new hbV
  replace RY := RY.new hbV
  replace HB := bchain HB hbV
  clear hbV
  generalize hV : (w1.alloc (.cells #[.int .i64 0, .string ⟨#[]⟩, .bool false, .bool false, .int .i64 0, .int .i64 0, .string ⟨#[]⟩, .bool false, .bool false, .int .i64 0] 58)).setRow w1.heap.size #[.int .i64 r, .string b, .bool e, .bool k, .int .i64 wt, .int .i64 r2, .string b2, .bool e2, .bool k2, .int .i64 cm] = V0 at *
  clear hV
  generalize w1.heap.size = gL at *
  go_wp2_with (refine wpList_load_row (by rfl) 58 _ (by rfl) gL (by rfl) [.int .i64 r, .string b, .bool e, .bool k, .int .i64 wt, .int .i64 r2, .string b2, .bool e2, .bool k2, .int .i64 cm] _ 58 RL Try.underlying58 rfl (by kernel_rfl) ?_)
  refine (hri _).mono ?_; rintro x w2 ⟨rfl, hb⟩
  replace RX := RX.new hb
  replace RY := RY.new hb
  replace RL := RL.new hb
  replace HB := bchain HB hb
  clear hb
  go_wp2_with fail
  refine (hpt _ _ RL).mono ?_; rintro x w7 ⟨rfl, hr, ht⟩
  replace RX := RX.kept (ht.block _ RX.lt (by omega))
  replace RY := RY.kept (ht.block _ RY.lt (by omega))
  replace HB := HB.trans (ht.below (show w.heap.size ≤ gL by omega) HB.size)
  clear RL ht hpt
  have RL := hr
  clear hr
  go_wp2_with (refine wpList_load_row (by rfl) 58 _ (by rfl) gL (by rfl) [.int .i64 ar, .string ab, .bool ae, .bool ak, .int .i64 awt, .int .i64 ar2, .string ab2, .bool ae2, .bool ak2, .int .i64 acm] _ 58 RL Try.underlying58 rfl (by kernel_rfl) ?_)
  refine (lanesTunnel16 ⟨⟨ar, ab, ae, ak⟩, ⟨ar2, ab2, ae2, ak2⟩, awt, acm⟩ _ (by show ab.size ≤ _; omega) (by show ab2.size ≤ _; omega)).mono ?_; rintro x w3 ⟨rfl, hb⟩
  replace RX := RX.new hb
  replace RY := RY.new hb
  replace RL := RL.new hb
  replace HB := bchain HB hb
  clear hb
  dsimp only [tuv]
  go_wp2_with (refine wpList_store_row (by rfl) 27 _ _ (by rfl) (w.heap.size + 1) [.int .i64 ar, .string ab, .bool ae, .bool ak, .int .i64 ar2, .string ab2, .bool ae2, .bool ak2, .int .i64 awt, .int .i64 acm] (by rfl) (by rfl) 27 [.int .i64 0, .string ⟨#[]⟩, .bool false, .bool false, .int .i64 0, .string ⟨#[]⟩, .bool false, .bool false, .int .i64 0, .int .i64 0] RY (by kernel_rfl) rfl (by intro u hu; simp at hu; rcases hu with rfl | rfl | rfl | rfl | rfl | rfl | rfl | rfl | rfl | rfl <;> rfl) ?_)
  have NRX := RX.kept (setRow_other w3 (w.heap.size + 1) #[.int .i64 ar, .string ab, .bool ae, .bool ak, .int .i64 ar2, .string ab2, .bool ae2, .bool ak2, .int .i64 awt, .int .i64 acm] w.heap.size (by omega))
  have NRY : RowIs (w3.setRow (w.heap.size + 1) #[.int .i64 ar, .string ab, .bool ae, .bool ak, .int .i64 ar2, .string ab2, .bool ae2, .bool ak2, .int .i64 awt, .int .i64 acm]) (w.heap.size + 1) 27 [.int .i64 ar, .string ab, .bool ae, .bool ak, .int .i64 ar2, .string ab2, .bool ae2, .bool ak2, .int .i64 awt, .int .i64 acm] := rowIs_setRow (cs' := [.int .i64 ar, .string ab, .bool ae, .bool ak, .int .i64 ar2, .string ab2, .bool ae2, .bool ak2, .int .i64 awt, .int .i64 acm]) RY
  have NRL := RL.kept (setRow_other w3 (w.heap.size + 1) #[.int .i64 ar, .string ab, .bool ae, .bool ak, .int .i64 ar2, .string ab2, .bool ae2, .bool ak2, .int .i64 awt, .int .i64 acm] gL (by omega))
  have NHB := below_setRow HB (show w.heap.size ≤ (w.heap.size + 1) by omega) #[.int .i64 ar, .string ab, .bool ae, .bool ak, .int .i64 ar2, .string ab2, .bool ae2, .bool ak2, .int .i64 awt, .int .i64 acm]
  generalize hV : w3.setRow (w.heap.size + 1) #[.int .i64 ar, .string ab, .bool ae, .bool ak, .int .i64 ar2, .string ab2, .bool ae2, .bool ak2, .int .i64 awt, .int .i64 acm] = V4 at *
  clear hV
  clear RX
  have RX := NRX
  clear NRX
  clear RY
  have RY := NRY
  clear NRY
  clear RL
  have RL := NRL
  clear NRL
  clear HB
  have HB := NHB
  clear NHB
  have y0 := RowIs.cell (j := 0) RY rfl
  have y1 := RowIs.cell (j := 1) RY rfl
  have y2 := RowIs.cell (j := 2) RY rfl
  have y3 := RowIs.cell (j := 3) RY rfl
  have y4 := RowIs.cell (j := 4) RY rfl
  have y5 := RowIs.cell (j := 5) RY rfl
  have y6 := RowIs.cell (j := 6) RY rfl
  have y7 := RowIs.cell (j := 7) RY rfl
  have y8 := RowIs.cell (j := 8) RY rfl
  have y9 := RowIs.cell (j := 9) RY rfl
  have yf := fun j => RowIs.frozen RY j
  have yl := RY.lt
  refine bodyPost_ret (v := .tuple #[.agg #[.int .i64 ar, .string ab, .bool ae, .bool ak, .int .i64 ar2, .string ab2, .bool ae2, .bool ak2, .int .i64 awt, .int .i64 acm], .string z]) (by simp [results, Try.results9, go_sem, *]) rfl ?_
  exact ⟨rfl, HB⟩
set_option maxHeartbeats 2000000 in
theorem implBack (t : TuD) (s : ByteArray) (fin : Bool) (w : World) (h1 : t.up.b.size ≤ maxLen) (h2 : t.dn.b.size ≤ maxLen) (hs : s.size ≤ 1048576) : Calls Try.prog 11 #[tuv t, .string s, .bool fin] w fun x w' => x = .returned (.tuple #[tuv (bckTu t s fin).1, .int .i64 (bckTu t s fin).2]) ∧ Below w.heap.size w w' := by
  obtain ⟨⟨r, b, e, k⟩, ⟨r2, b2, e2, k2⟩, wt, cm⟩ := t
  dsimp only [tuv] at *
  have hri := fun (u : World) => lanesRight16 ⟨⟨r, b, e, k⟩, ⟨r2, b2, e2, k2⟩, wt, cm⟩ u h1 h2
  cases hk : okTu ⟨⟨r, b, e, k⟩, ⟨r2, b2, e2, k2⟩, wt, cm⟩
  · have hv : bckTu ⟨⟨r, b, e, k⟩, ⟨r2, b2, e2, k2⟩, wt, cm⟩ s fin = (zTu, 0) := by unfold bckTu; rw [if_pos hk]
    rw [hv]
    rw [hk] at hri
    dsimp only [zTu, zPp]
    obtain ⟨W, hW⟩ : ∃ W, ((w.alloc (.cells #[.int .i64 r, .string b, .bool e, .bool k, .int .i64 r2, .string b2, .bool e2, .bool k2, .int .i64 wt, .int .i64 cm] 27)).alloc (.cells #[.int .i64 0, .string ⟨#[]⟩, .bool false, .bool false, .int .i64 0, .string ⟨#[]⟩, .bool false, .bool false, .int .i64 0, .int .i64 0] 27)) = W := ⟨_, rfl⟩
    have RX : RowIs W w.heap.size 27 [.int .i64 r, .string b, .bool e, .bool k, .int .i64 r2, .string b2, .bool e2, .bool k2, .int .i64 wt, .int .i64 cm] := by rw [← hW]; exact (rowIs_new w 27 [.int .i64 r, .string b, .bool e, .bool k, .int .i64 r2, .string b2, .bool e2, .bool k2, .int .i64 wt, .int .i64 cm]).alloc _
    have RY : RowIs W (w.heap.size + 1) 27 [.int .i64 0, .string ⟨#[]⟩, .bool false, .bool false, .int .i64 0, .string ⟨#[]⟩, .bool false, .bool false, .int .i64 0, .int .i64 0] := by have := rowIs_new (w.alloc (.cells #[.int .i64 r, .string b, .bool e, .bool k, .int .i64 r2, .string b2, .bool e2, .bool k2, .int .i64 wt, .int .i64 cm] 27)) 27 [.int .i64 0, .string ⟨#[]⟩, .bool false, .bool false, .int .i64 0, .string ⟨#[]⟩, .bool false, .bool false, .int .i64 0, .int .i64 0]; rw [hW] at this; simpa using this
    have HB : Below w.heap.size w W := by rw [← hW]; exact (((Below.refl _ _).alloc (Nat.le_refl _) _).alloc (by simp) _)
    go_enter Try.func11, Try.ntmps11
    go_wp2_with (refine wpList_load_row (by rfl) 27 _ (by rfl) w.heap.size (by rfl) [.int .i64 r, .string b, .bool e, .bool k, .int .i64 r2, .string b2, .bool e2, .bool k2, .int .i64 wt, .int .i64 cm] _ 27 RX Try.underlying27 rfl (by kernel_rfl) ?_)
    clear hW
    refine (lanes16 ⟨⟨r, b, e, k⟩, ⟨r2, b2, e2, k2⟩, wt, cm⟩ _).mono ?_; rintro x w1 ⟨rfl, hb⟩
    replace RX := RX.new hb
    replace RY := RY.new hb
    replace HB := bchain HB hb
    clear hb
    dsimp only [lnv]
    go_upto_region 2 with (refine wpList_store_row (by rfl) 58 _ _ (by rfl) w1.heap.size [.int .i64 r, .string b, .bool e, .bool k, .int .i64 wt, .int .i64 r2, .string b2, .bool e2, .bool k2, .int .i64 cm] (by rfl) (by rfl) 58 [.int .i64 0, .string ⟨#[]⟩, .bool false, .bool false, .int .i64 0, .int .i64 0, .string ⟨#[]⟩, .bool false, .bool false, .int .i64 0] (rowIs_new w1 58 [.int .i64 0, .string ⟨#[]⟩, .bool false, .bool false, .int .i64 0, .int .i64 0, .string ⟨#[]⟩, .bool false, .bool false, .int .i64 0]) (by kernel_rfl) rfl (by intro u hu; simp at hu; rcases hu with rfl | rfl | rfl | rfl | rfl | rfl | rfl | rfl | rfl | rfl <;> rfl) ?_)
    have RL : RowIs ((w1.alloc (.cells #[.int .i64 0, .string ⟨#[]⟩, .bool false, .bool false, .int .i64 0, .int .i64 0, .string ⟨#[]⟩, .bool false, .bool false, .int .i64 0] 58)).setRow w1.heap.size #[.int .i64 r, .string b, .bool e, .bool k, .int .i64 wt, .int .i64 r2, .string b2, .bool e2, .bool k2, .int .i64 cm]) w1.heap.size 58 [.int .i64 r, .string b, .bool e, .bool k, .int .i64 wt, .int .i64 r2, .string b2, .bool e2, .bool k2, .int .i64 cm] := rowIs_setRow (cs' := [.int .i64 r, .string b, .bool e, .bool k, .int .i64 wt, .int .i64 r2, .string b2, .bool e2, .bool k2, .int .i64 cm]) (rowIs_new w1 58 [.int .i64 0, .string ⟨#[]⟩, .bool false, .bool false, .int .i64 0, .int .i64 0, .string ⟨#[]⟩, .bool false, .bool false, .int .i64 0])
    have hbV : Below w1.heap.size w1 ((w1.alloc (.cells #[.int .i64 0, .string ⟨#[]⟩, .bool false, .bool false, .int .i64 0, .int .i64 0, .string ⟨#[]⟩, .bool false, .bool false, .int .i64 0] 58)).setRow w1.heap.size #[.int .i64 r, .string b, .bool e, .bool k, .int .i64 wt, .int .i64 r2, .string b2, .bool e2, .bool k2, .int .i64 cm]) := below_setRow ((Below.refl _ _).alloc (Nat.le_refl _) _) (Nat.le_refl _) #[.int .i64 r, .string b, .bool e, .bool k, .int .i64 wt, .int .i64 r2, .string b2, .bool e2, .bool k2, .int .i64 cm]
    have hgl : w.heap.size + 1 < w1.heap.size := RY.lt
    replace RX := RX.new hbV
    replace RY := RY.new hbV
    replace HB := bchain HB hbV
    clear hbV
    generalize hV : (w1.alloc (.cells #[.int .i64 0, .string ⟨#[]⟩, .bool false, .bool false, .int .i64 0, .int .i64 0, .string ⟨#[]⟩, .bool false, .bool false, .int .i64 0] 58)).setRow w1.heap.size #[.int .i64 r, .string b, .bool e, .bool k, .int .i64 wt, .int .i64 r2, .string b2, .bool e2, .bool k2, .int .i64 cm] = V0 at *
    clear hV
    generalize w1.heap.size = gL at *
    go_wp2_with (refine wpList_load_row (by rfl) 58 _ (by rfl) gL (by rfl) [.int .i64 r, .string b, .bool e, .bool k, .int .i64 wt, .int .i64 r2, .string b2, .bool e2, .bool k2, .int .i64 cm] _ 58 RL Try.underlying58 rfl (by kernel_rfl) ?_)
    refine (hri _).mono ?_; rintro x w2 ⟨rfl, hb⟩
    replace RX := RX.new hb
    replace RY := RY.new hb
    replace RL := RL.new hb
    replace HB := bchain HB hb
    clear hb
    go_wp2_with (refine wpList_store_row (by rfl) 27 _ _ (by rfl) (w.heap.size + 1) [.int .i64 0, .string ⟨#[]⟩, .bool false, .bool false, .int .i64 0, .string ⟨#[]⟩, .bool false, .bool false, .int .i64 0, .int .i64 0] (by rfl) (by rfl) 27 [.int .i64 0, .string ⟨#[]⟩, .bool false, .bool false, .int .i64 0, .string ⟨#[]⟩, .bool false, .bool false, .int .i64 0, .int .i64 0] RY (by kernel_rfl) rfl (by intro u hu; simp at hu; rcases hu with rfl | rfl | rfl | rfl | rfl | rfl | rfl | rfl | rfl | rfl <;> rfl) ?_)
    have NRX := RX.kept (setRow_other w2 (w.heap.size + 1) #[.int .i64 0, .string ⟨#[]⟩, .bool false, .bool false, .int .i64 0, .string ⟨#[]⟩, .bool false, .bool false, .int .i64 0, .int .i64 0] w.heap.size (by omega))
    have NRY : RowIs (w2.setRow (w.heap.size + 1) #[.int .i64 0, .string ⟨#[]⟩, .bool false, .bool false, .int .i64 0, .string ⟨#[]⟩, .bool false, .bool false, .int .i64 0, .int .i64 0]) (w.heap.size + 1) 27 [.int .i64 0, .string ⟨#[]⟩, .bool false, .bool false, .int .i64 0, .string ⟨#[]⟩, .bool false, .bool false, .int .i64 0, .int .i64 0] := rowIs_setRow (cs' := [.int .i64 0, .string ⟨#[]⟩, .bool false, .bool false, .int .i64 0, .string ⟨#[]⟩, .bool false, .bool false, .int .i64 0, .int .i64 0]) RY
    have NRL := RL.kept (setRow_other w2 (w.heap.size + 1) #[.int .i64 0, .string ⟨#[]⟩, .bool false, .bool false, .int .i64 0, .string ⟨#[]⟩, .bool false, .bool false, .int .i64 0, .int .i64 0] gL (by omega))
    have NHB := below_setRow HB (show w.heap.size ≤ (w.heap.size + 1) by omega) #[.int .i64 0, .string ⟨#[]⟩, .bool false, .bool false, .int .i64 0, .string ⟨#[]⟩, .bool false, .bool false, .int .i64 0, .int .i64 0]
    generalize hV : w2.setRow (w.heap.size + 1) #[.int .i64 0, .string ⟨#[]⟩, .bool false, .bool false, .int .i64 0, .string ⟨#[]⟩, .bool false, .bool false, .int .i64 0, .int .i64 0] = V3 at *
    clear hV
    clear RX
    have RX := NRX
    clear NRX
    clear RY
    have RY := NRY
    clear NRY
    clear RL
    have RL := NRL
    clear NRL
    clear HB
    have HB := NHB
    clear NHB
    have y0 := RowIs.cell (j := 0) RY rfl
    have y1 := RowIs.cell (j := 1) RY rfl
    have y2 := RowIs.cell (j := 2) RY rfl
    have y3 := RowIs.cell (j := 3) RY rfl
    have y4 := RowIs.cell (j := 4) RY rfl
    have y5 := RowIs.cell (j := 5) RY rfl
    have y6 := RowIs.cell (j := 6) RY rfl
    have y7 := RowIs.cell (j := 7) RY rfl
    have y8 := RowIs.cell (j := 8) RY rfl
    have y9 := RowIs.cell (j := 9) RY rfl
    have yf := fun j => RowIs.frozen RY j
    have yl := RY.lt
    refine bodyPost_ret (v := .tuple #[.agg #[.int .i64 0, .string ⟨#[]⟩, .bool false, .bool false, .int .i64 0, .string ⟨#[]⟩, .bool false, .bool false, .int .i64 0, .int .i64 0], .int .i64 0]) (by simp [results, Try.results11, go_sem, *]) rfl ?_
    exact ⟨rfl, HB⟩
  rw [hk] at hri
  obtain ⟨W, hW⟩ : ∃ W, ((w.alloc (.cells #[.int .i64 r, .string b, .bool e, .bool k, .int .i64 r2, .string b2, .bool e2, .bool k2, .int .i64 wt, .int .i64 cm] 27)).alloc (.cells #[.int .i64 0, .string ⟨#[]⟩, .bool false, .bool false, .int .i64 0, .string ⟨#[]⟩, .bool false, .bool false, .int .i64 0, .int .i64 0] 27)) = W := ⟨_, rfl⟩
  have RX : RowIs W w.heap.size 27 [.int .i64 r, .string b, .bool e, .bool k, .int .i64 r2, .string b2, .bool e2, .bool k2, .int .i64 wt, .int .i64 cm] := by rw [← hW]; exact (rowIs_new w 27 [.int .i64 r, .string b, .bool e, .bool k, .int .i64 r2, .string b2, .bool e2, .bool k2, .int .i64 wt, .int .i64 cm]).alloc _
  have RY : RowIs W (w.heap.size + 1) 27 [.int .i64 0, .string ⟨#[]⟩, .bool false, .bool false, .int .i64 0, .string ⟨#[]⟩, .bool false, .bool false, .int .i64 0, .int .i64 0] := by have := rowIs_new (w.alloc (.cells #[.int .i64 r, .string b, .bool e, .bool k, .int .i64 r2, .string b2, .bool e2, .bool k2, .int .i64 wt, .int .i64 cm] 27)) 27 [.int .i64 0, .string ⟨#[]⟩, .bool false, .bool false, .int .i64 0, .string ⟨#[]⟩, .bool false, .bool false, .int .i64 0, .int .i64 0]; rw [hW] at this; simpa using this
  have HB : Below w.heap.size w W := by rw [← hW]; exact (((Below.refl _ _).alloc (Nat.le_refl _) _).alloc (by simp) _)
  obtain ⟨sz1, sz2⟩ := bckTu_size ⟨⟨r, b, e, k⟩, ⟨r2, b2, e2, k2⟩, wt, cm⟩ s fin hk hs
  have hpt := fun (g : Nat) (u : World) (R : RowIs u g 58 (lncs ⟨⟨r, b, e, k⟩, ⟨r2, b2, e2, k2⟩, wt, cm⟩)) => takeBack16 ⟨⟨r, b, e, k⟩, ⟨r2, b2, e2, k2⟩, wt, cm⟩ s fin g u hk hs R
  obtain ⟨⟨⟨⟨ar, ab, ae, ak⟩, ⟨ar2, ab2, ae2, ak2⟩, awt, acm⟩, z⟩, hv⟩ : ∃ v, bckTu ⟨⟨r, b, e, k⟩, ⟨r2, b2, e2, k2⟩, wt, cm⟩ s fin = v := ⟨_, rfl⟩
  rw [hv] at sz1 sz2 hpt
  rw [hv]
  clear hv
  dsimp only [lncs] at *
  go_enter Try.func11, Try.ntmps11
  go_wp2_with (refine wpList_load_row (by rfl) 27 _ (by rfl) w.heap.size (by rfl) [.int .i64 r, .string b, .bool e, .bool k, .int .i64 r2, .string b2, .bool e2, .bool k2, .int .i64 wt, .int .i64 cm] _ 27 RX Try.underlying27 rfl (by kernel_rfl) ?_)
  clear hW
  refine (lanes16 ⟨⟨r, b, e, k⟩, ⟨r2, b2, e2, k2⟩, wt, cm⟩ _).mono ?_; rintro x w1 ⟨rfl, hb⟩
  replace RX := RX.new hb
  replace RY := RY.new hb
  replace HB := bchain HB hb
  clear hb
  dsimp only [lnv]
  go_upto_region 2 with (refine wpList_store_row (by rfl) 58 _ _ (by rfl) w1.heap.size [.int .i64 r, .string b, .bool e, .bool k, .int .i64 wt, .int .i64 r2, .string b2, .bool e2, .bool k2, .int .i64 cm] (by rfl) (by rfl) 58 [.int .i64 0, .string ⟨#[]⟩, .bool false, .bool false, .int .i64 0, .int .i64 0, .string ⟨#[]⟩, .bool false, .bool false, .int .i64 0] (rowIs_new w1 58 [.int .i64 0, .string ⟨#[]⟩, .bool false, .bool false, .int .i64 0, .int .i64 0, .string ⟨#[]⟩, .bool false, .bool false, .int .i64 0]) (by kernel_rfl) rfl (by intro u hu; simp at hu; rcases hu with rfl | rfl | rfl | rfl | rfl | rfl | rfl | rfl | rfl | rfl <;> rfl) ?_)
  have RL : RowIs ((w1.alloc (.cells #[.int .i64 0, .string ⟨#[]⟩, .bool false, .bool false, .int .i64 0, .int .i64 0, .string ⟨#[]⟩, .bool false, .bool false, .int .i64 0] 58)).setRow w1.heap.size #[.int .i64 r, .string b, .bool e, .bool k, .int .i64 wt, .int .i64 r2, .string b2, .bool e2, .bool k2, .int .i64 cm]) w1.heap.size 58 [.int .i64 r, .string b, .bool e, .bool k, .int .i64 wt, .int .i64 r2, .string b2, .bool e2, .bool k2, .int .i64 cm] := rowIs_setRow (cs' := [.int .i64 r, .string b, .bool e, .bool k, .int .i64 wt, .int .i64 r2, .string b2, .bool e2, .bool k2, .int .i64 cm]) (rowIs_new w1 58 [.int .i64 0, .string ⟨#[]⟩, .bool false, .bool false, .int .i64 0, .int .i64 0, .string ⟨#[]⟩, .bool false, .bool false, .int .i64 0])
  have hbV : Below w1.heap.size w1 ((w1.alloc (.cells #[.int .i64 0, .string ⟨#[]⟩, .bool false, .bool false, .int .i64 0, .int .i64 0, .string ⟨#[]⟩, .bool false, .bool false, .int .i64 0] 58)).setRow w1.heap.size #[.int .i64 r, .string b, .bool e, .bool k, .int .i64 wt, .int .i64 r2, .string b2, .bool e2, .bool k2, .int .i64 cm]) := below_setRow ((Below.refl _ _).alloc (Nat.le_refl _) _) (Nat.le_refl _) #[.int .i64 r, .string b, .bool e, .bool k, .int .i64 wt, .int .i64 r2, .string b2, .bool e2, .bool k2, .int .i64 cm]
  have hgl : w.heap.size + 1 < w1.heap.size := RY.lt
  replace RX := RX.new hbV
  replace RY := RY.new hbV
  replace HB := bchain HB hbV
  clear hbV
  generalize hV : (w1.alloc (.cells #[.int .i64 0, .string ⟨#[]⟩, .bool false, .bool false, .int .i64 0, .int .i64 0, .string ⟨#[]⟩, .bool false, .bool false, .int .i64 0] 58)).setRow w1.heap.size #[.int .i64 r, .string b, .bool e, .bool k, .int .i64 wt, .int .i64 r2, .string b2, .bool e2, .bool k2, .int .i64 cm] = V0 at *
  clear hV
  generalize w1.heap.size = gL at *
  go_wp2_with (refine wpList_load_row (by rfl) 58 _ (by rfl) gL (by rfl) [.int .i64 r, .string b, .bool e, .bool k, .int .i64 wt, .int .i64 r2, .string b2, .bool e2, .bool k2, .int .i64 cm] _ 58 RL Try.underlying58 rfl (by kernel_rfl) ?_)
  refine (hri _).mono ?_; rintro x w2 ⟨rfl, hb⟩
  replace RX := RX.new hb
  replace RY := RY.new hb
  replace RL := RL.new hb
  replace HB := bchain HB hb
  clear hb
  go_wp2_with fail
  refine (hpt _ _ RL).mono ?_; rintro x w7 ⟨rfl, hr, ht⟩
  replace RX := RX.kept (ht.block _ RX.lt (by omega))
  replace RY := RY.kept (ht.block _ RY.lt (by omega))
  replace HB := HB.trans (ht.below (show w.heap.size ≤ gL by omega) HB.size)
  clear RL ht hpt
  have RL := hr
  clear hr
  go_wp2_with (refine wpList_load_row (by rfl) 58 _ (by rfl) gL (by rfl) [.int .i64 ar, .string ab, .bool ae, .bool ak, .int .i64 awt, .int .i64 ar2, .string ab2, .bool ae2, .bool ak2, .int .i64 acm] _ 58 RL Try.underlying58 rfl (by kernel_rfl) ?_)
  refine (lanesTunnel16 ⟨⟨ar, ab, ae, ak⟩, ⟨ar2, ab2, ae2, ak2⟩, awt, acm⟩ _ (by show ab.size ≤ _; omega) (by show ab2.size ≤ _; omega)).mono ?_; rintro x w3 ⟨rfl, hb⟩
  replace RX := RX.new hb
  replace RY := RY.new hb
  replace RL := RL.new hb
  replace HB := bchain HB hb
  clear hb
  dsimp only [tuv]
  go_wp2_with (refine wpList_store_row (by rfl) 27 _ _ (by rfl) (w.heap.size + 1) [.int .i64 ar, .string ab, .bool ae, .bool ak, .int .i64 ar2, .string ab2, .bool ae2, .bool ak2, .int .i64 awt, .int .i64 acm] (by rfl) (by rfl) 27 [.int .i64 0, .string ⟨#[]⟩, .bool false, .bool false, .int .i64 0, .string ⟨#[]⟩, .bool false, .bool false, .int .i64 0, .int .i64 0] RY (by kernel_rfl) rfl (by intro u hu; simp at hu; rcases hu with rfl | rfl | rfl | rfl | rfl | rfl | rfl | rfl | rfl | rfl <;> rfl) ?_)
  have NRX := RX.kept (setRow_other w3 (w.heap.size + 1) #[.int .i64 ar, .string ab, .bool ae, .bool ak, .int .i64 ar2, .string ab2, .bool ae2, .bool ak2, .int .i64 awt, .int .i64 acm] w.heap.size (by omega))
  have NRY : RowIs (w3.setRow (w.heap.size + 1) #[.int .i64 ar, .string ab, .bool ae, .bool ak, .int .i64 ar2, .string ab2, .bool ae2, .bool ak2, .int .i64 awt, .int .i64 acm]) (w.heap.size + 1) 27 [.int .i64 ar, .string ab, .bool ae, .bool ak, .int .i64 ar2, .string ab2, .bool ae2, .bool ak2, .int .i64 awt, .int .i64 acm] := rowIs_setRow (cs' := [.int .i64 ar, .string ab, .bool ae, .bool ak, .int .i64 ar2, .string ab2, .bool ae2, .bool ak2, .int .i64 awt, .int .i64 acm]) RY
  have NRL := RL.kept (setRow_other w3 (w.heap.size + 1) #[.int .i64 ar, .string ab, .bool ae, .bool ak, .int .i64 ar2, .string ab2, .bool ae2, .bool ak2, .int .i64 awt, .int .i64 acm] gL (by omega))
  have NHB := below_setRow HB (show w.heap.size ≤ (w.heap.size + 1) by omega) #[.int .i64 ar, .string ab, .bool ae, .bool ak, .int .i64 ar2, .string ab2, .bool ae2, .bool ak2, .int .i64 awt, .int .i64 acm]
  generalize hV : w3.setRow (w.heap.size + 1) #[.int .i64 ar, .string ab, .bool ae, .bool ak, .int .i64 ar2, .string ab2, .bool ae2, .bool ak2, .int .i64 awt, .int .i64 acm] = V4 at *
  clear hV
  clear RX
  have RX := NRX
  clear NRX
  clear RY
  have RY := NRY
  clear NRY
  clear RL
  have RL := NRL
  clear NRL
  clear HB
  have HB := NHB
  clear NHB
  have y0 := RowIs.cell (j := 0) RY rfl
  have y1 := RowIs.cell (j := 1) RY rfl
  have y2 := RowIs.cell (j := 2) RY rfl
  have y3 := RowIs.cell (j := 3) RY rfl
  have y4 := RowIs.cell (j := 4) RY rfl
  have y5 := RowIs.cell (j := 5) RY rfl
  have y6 := RowIs.cell (j := 6) RY rfl
  have y7 := RowIs.cell (j := 7) RY rfl
  have y8 := RowIs.cell (j := 8) RY rfl
  have y9 := RowIs.cell (j := 9) RY rfl
  have yf := fun j => RowIs.frozen RY j
  have yl := RY.lt
  refine bodyPost_ret (v := .tuple #[.agg #[.int .i64 ar, .string ab, .bool ae, .bool ak, .int .i64 ar2, .string ab2, .bool ae2, .bool ak2, .int .i64 awt, .int .i64 acm], .int .i64 z]) (by simp [results, Try.results11, go_sem, *]) rfl ?_
  exact ⟨rfl, HB⟩
set_option maxHeartbeats 2000000 in
theorem implTorn (t : TuD) (w : World) (h1 : t.up.b.size ≤ maxLen) (h2 : t.dn.b.size ≤ maxLen) : Calls Try.prog 18 #[tuv t] w fun x w' => x = .returned (tuv (trnTu t)) ∧ Below w.heap.size w w' := by
  obtain ⟨⟨r, b, e, k⟩, ⟨r2, b2, e2, k2⟩, wt, cm⟩ := t
  dsimp only [tuv] at *
  have hri := fun (u : World) => lanesRight16 ⟨⟨r, b, e, k⟩, ⟨r2, b2, e2, k2⟩, wt, cm⟩ u h1 h2
  cases hk : okTu ⟨⟨r, b, e, k⟩, ⟨r2, b2, e2, k2⟩, wt, cm⟩
  · have hv : trnTu ⟨⟨r, b, e, k⟩, ⟨r2, b2, e2, k2⟩, wt, cm⟩ = zTu := by unfold trnTu; rw [if_pos hk]
    rw [hv]
    rw [hk] at hri
    dsimp only [zTu, zPp]
    obtain ⟨W, hW⟩ : ∃ W, ((w.alloc (.cells #[.int .i64 r, .string b, .bool e, .bool k, .int .i64 r2, .string b2, .bool e2, .bool k2, .int .i64 wt, .int .i64 cm] 27)).alloc (.cells #[.int .i64 0, .string ⟨#[]⟩, .bool false, .bool false, .int .i64 0, .string ⟨#[]⟩, .bool false, .bool false, .int .i64 0, .int .i64 0] 27)) = W := ⟨_, rfl⟩
    have RX : RowIs W w.heap.size 27 [.int .i64 r, .string b, .bool e, .bool k, .int .i64 r2, .string b2, .bool e2, .bool k2, .int .i64 wt, .int .i64 cm] := by rw [← hW]; exact (rowIs_new w 27 [.int .i64 r, .string b, .bool e, .bool k, .int .i64 r2, .string b2, .bool e2, .bool k2, .int .i64 wt, .int .i64 cm]).alloc _
    have RY : RowIs W (w.heap.size + 1) 27 [.int .i64 0, .string ⟨#[]⟩, .bool false, .bool false, .int .i64 0, .string ⟨#[]⟩, .bool false, .bool false, .int .i64 0, .int .i64 0] := by have := rowIs_new (w.alloc (.cells #[.int .i64 r, .string b, .bool e, .bool k, .int .i64 r2, .string b2, .bool e2, .bool k2, .int .i64 wt, .int .i64 cm] 27)) 27 [.int .i64 0, .string ⟨#[]⟩, .bool false, .bool false, .int .i64 0, .string ⟨#[]⟩, .bool false, .bool false, .int .i64 0, .int .i64 0]; rw [hW] at this; simpa using this
    have HB : Below w.heap.size w W := by rw [← hW]; exact (((Below.refl _ _).alloc (Nat.le_refl _) _).alloc (by simp) _)
    go_enter Try.func18, Try.ntmps18
    go_wp2_with (refine wpList_load_row (by rfl) 27 _ (by rfl) w.heap.size (by rfl) [.int .i64 r, .string b, .bool e, .bool k, .int .i64 r2, .string b2, .bool e2, .bool k2, .int .i64 wt, .int .i64 cm] _ 27 RX Try.underlying27 rfl (by kernel_rfl) ?_)
    clear hW
    refine (lanes16 ⟨⟨r, b, e, k⟩, ⟨r2, b2, e2, k2⟩, wt, cm⟩ _).mono ?_; rintro x w1 ⟨rfl, hb⟩
    replace RX := RX.new hb
    replace RY := RY.new hb
    replace HB := bchain HB hb
    clear hb
    dsimp only [lnv]
    go_upto_region 2 with (refine wpList_store_row (by rfl) 58 _ _ (by rfl) w1.heap.size [.int .i64 r, .string b, .bool e, .bool k, .int .i64 wt, .int .i64 r2, .string b2, .bool e2, .bool k2, .int .i64 cm] (by rfl) (by rfl) 58 [.int .i64 0, .string ⟨#[]⟩, .bool false, .bool false, .int .i64 0, .int .i64 0, .string ⟨#[]⟩, .bool false, .bool false, .int .i64 0] (rowIs_new w1 58 [.int .i64 0, .string ⟨#[]⟩, .bool false, .bool false, .int .i64 0, .int .i64 0, .string ⟨#[]⟩, .bool false, .bool false, .int .i64 0]) (by kernel_rfl) rfl (by intro u hu; simp at hu; rcases hu with rfl | rfl | rfl | rfl | rfl | rfl | rfl | rfl | rfl | rfl <;> rfl) ?_)
    have RL : RowIs ((w1.alloc (.cells #[.int .i64 0, .string ⟨#[]⟩, .bool false, .bool false, .int .i64 0, .int .i64 0, .string ⟨#[]⟩, .bool false, .bool false, .int .i64 0] 58)).setRow w1.heap.size #[.int .i64 r, .string b, .bool e, .bool k, .int .i64 wt, .int .i64 r2, .string b2, .bool e2, .bool k2, .int .i64 cm]) w1.heap.size 58 [.int .i64 r, .string b, .bool e, .bool k, .int .i64 wt, .int .i64 r2, .string b2, .bool e2, .bool k2, .int .i64 cm] := rowIs_setRow (cs' := [.int .i64 r, .string b, .bool e, .bool k, .int .i64 wt, .int .i64 r2, .string b2, .bool e2, .bool k2, .int .i64 cm]) (rowIs_new w1 58 [.int .i64 0, .string ⟨#[]⟩, .bool false, .bool false, .int .i64 0, .int .i64 0, .string ⟨#[]⟩, .bool false, .bool false, .int .i64 0])
    have hbV : Below w1.heap.size w1 ((w1.alloc (.cells #[.int .i64 0, .string ⟨#[]⟩, .bool false, .bool false, .int .i64 0, .int .i64 0, .string ⟨#[]⟩, .bool false, .bool false, .int .i64 0] 58)).setRow w1.heap.size #[.int .i64 r, .string b, .bool e, .bool k, .int .i64 wt, .int .i64 r2, .string b2, .bool e2, .bool k2, .int .i64 cm]) := below_setRow ((Below.refl _ _).alloc (Nat.le_refl _) _) (Nat.le_refl _) #[.int .i64 r, .string b, .bool e, .bool k, .int .i64 wt, .int .i64 r2, .string b2, .bool e2, .bool k2, .int .i64 cm]
    have hgl : w.heap.size + 1 < w1.heap.size := RY.lt
    replace RX := RX.new hbV
    replace RY := RY.new hbV
    replace HB := bchain HB hbV
    clear hbV
    generalize hV : (w1.alloc (.cells #[.int .i64 0, .string ⟨#[]⟩, .bool false, .bool false, .int .i64 0, .int .i64 0, .string ⟨#[]⟩, .bool false, .bool false, .int .i64 0] 58)).setRow w1.heap.size #[.int .i64 r, .string b, .bool e, .bool k, .int .i64 wt, .int .i64 r2, .string b2, .bool e2, .bool k2, .int .i64 cm] = V0 at *
    clear hV
    generalize w1.heap.size = gL at *
    go_wp2_with (refine wpList_load_row (by rfl) 58 _ (by rfl) gL (by rfl) [.int .i64 r, .string b, .bool e, .bool k, .int .i64 wt, .int .i64 r2, .string b2, .bool e2, .bool k2, .int .i64 cm] _ 58 RL Try.underlying58 rfl (by kernel_rfl) ?_)
    refine (hri _).mono ?_; rintro x w2 ⟨rfl, hb⟩
    replace RX := RX.new hb
    replace RY := RY.new hb
    replace RL := RL.new hb
    replace HB := bchain HB hb
    clear hb
    go_wp2_with (refine wpList_store_row (by rfl) 27 _ _ (by rfl) (w.heap.size + 1) [.int .i64 0, .string ⟨#[]⟩, .bool false, .bool false, .int .i64 0, .string ⟨#[]⟩, .bool false, .bool false, .int .i64 0, .int .i64 0] (by rfl) (by rfl) 27 [.int .i64 0, .string ⟨#[]⟩, .bool false, .bool false, .int .i64 0, .string ⟨#[]⟩, .bool false, .bool false, .int .i64 0, .int .i64 0] RY (by kernel_rfl) rfl (by intro u hu; simp at hu; rcases hu with rfl | rfl | rfl | rfl | rfl | rfl | rfl | rfl | rfl | rfl <;> rfl) ?_)
    have NRX := RX.kept (setRow_other w2 (w.heap.size + 1) #[.int .i64 0, .string ⟨#[]⟩, .bool false, .bool false, .int .i64 0, .string ⟨#[]⟩, .bool false, .bool false, .int .i64 0, .int .i64 0] w.heap.size (by omega))
    have NRY : RowIs (w2.setRow (w.heap.size + 1) #[.int .i64 0, .string ⟨#[]⟩, .bool false, .bool false, .int .i64 0, .string ⟨#[]⟩, .bool false, .bool false, .int .i64 0, .int .i64 0]) (w.heap.size + 1) 27 [.int .i64 0, .string ⟨#[]⟩, .bool false, .bool false, .int .i64 0, .string ⟨#[]⟩, .bool false, .bool false, .int .i64 0, .int .i64 0] := rowIs_setRow (cs' := [.int .i64 0, .string ⟨#[]⟩, .bool false, .bool false, .int .i64 0, .string ⟨#[]⟩, .bool false, .bool false, .int .i64 0, .int .i64 0]) RY
    have NRL := RL.kept (setRow_other w2 (w.heap.size + 1) #[.int .i64 0, .string ⟨#[]⟩, .bool false, .bool false, .int .i64 0, .string ⟨#[]⟩, .bool false, .bool false, .int .i64 0, .int .i64 0] gL (by omega))
    have NHB := below_setRow HB (show w.heap.size ≤ (w.heap.size + 1) by omega) #[.int .i64 0, .string ⟨#[]⟩, .bool false, .bool false, .int .i64 0, .string ⟨#[]⟩, .bool false, .bool false, .int .i64 0, .int .i64 0]
    generalize hV : w2.setRow (w.heap.size + 1) #[.int .i64 0, .string ⟨#[]⟩, .bool false, .bool false, .int .i64 0, .string ⟨#[]⟩, .bool false, .bool false, .int .i64 0, .int .i64 0] = V3 at *
    clear hV
    clear RX
    have RX := NRX
    clear NRX
    clear RY
    have RY := NRY
    clear NRY
    clear RL
    have RL := NRL
    clear NRL
    clear HB
    have HB := NHB
    clear NHB
    have y0 := RowIs.cell (j := 0) RY rfl
    have y1 := RowIs.cell (j := 1) RY rfl
    have y2 := RowIs.cell (j := 2) RY rfl
    have y3 := RowIs.cell (j := 3) RY rfl
    have y4 := RowIs.cell (j := 4) RY rfl
    have y5 := RowIs.cell (j := 5) RY rfl
    have y6 := RowIs.cell (j := 6) RY rfl
    have y7 := RowIs.cell (j := 7) RY rfl
    have y8 := RowIs.cell (j := 8) RY rfl
    have y9 := RowIs.cell (j := 9) RY rfl
    have yf := fun j => RowIs.frozen RY j
    have yl := RY.lt
    refine bodyPost_ret (v := .agg #[.int .i64 0, .string ⟨#[]⟩, .bool false, .bool false, .int .i64 0, .string ⟨#[]⟩, .bool false, .bool false, .int .i64 0, .int .i64 0]) (by simp [results, Try.results18, go_sem, *]) rfl ?_
    exact ⟨rfl, HB⟩
  have hv : trnTu ⟨⟨r, b, e, k⟩, ⟨r2, b2, e2, k2⟩, wt, cm⟩ = ⟨⟨r, ⟨#[]⟩, e, true⟩, ⟨r2, ⟨#[]⟩, e2, true⟩, wt, cm⟩ := by unfold trnTu; rw [if_neg (by rw [hk]; decide)]
  rw [hv]
  rw [hk] at hri
  dsimp only
  obtain ⟨W, hW⟩ : ∃ W, ((w.alloc (.cells #[.int .i64 r, .string b, .bool e, .bool k, .int .i64 r2, .string b2, .bool e2, .bool k2, .int .i64 wt, .int .i64 cm] 27)).alloc (.cells #[.int .i64 0, .string ⟨#[]⟩, .bool false, .bool false, .int .i64 0, .string ⟨#[]⟩, .bool false, .bool false, .int .i64 0, .int .i64 0] 27)) = W := ⟨_, rfl⟩
  have RX : RowIs W w.heap.size 27 [.int .i64 r, .string b, .bool e, .bool k, .int .i64 r2, .string b2, .bool e2, .bool k2, .int .i64 wt, .int .i64 cm] := by rw [← hW]; exact (rowIs_new w 27 [.int .i64 r, .string b, .bool e, .bool k, .int .i64 r2, .string b2, .bool e2, .bool k2, .int .i64 wt, .int .i64 cm]).alloc _
  have RY : RowIs W (w.heap.size + 1) 27 [.int .i64 0, .string ⟨#[]⟩, .bool false, .bool false, .int .i64 0, .string ⟨#[]⟩, .bool false, .bool false, .int .i64 0, .int .i64 0] := by have := rowIs_new (w.alloc (.cells #[.int .i64 r, .string b, .bool e, .bool k, .int .i64 r2, .string b2, .bool e2, .bool k2, .int .i64 wt, .int .i64 cm] 27)) 27 [.int .i64 0, .string ⟨#[]⟩, .bool false, .bool false, .int .i64 0, .string ⟨#[]⟩, .bool false, .bool false, .int .i64 0, .int .i64 0]; rw [hW] at this; simpa using this
  have HB : Below w.heap.size w W := by rw [← hW]; exact (((Below.refl _ _).alloc (Nat.le_refl _) _).alloc (by simp) _)
  go_enter Try.func18, Try.ntmps18
  go_wp2_with (refine wpList_load_row (by rfl) 27 _ (by rfl) w.heap.size (by rfl) [.int .i64 r, .string b, .bool e, .bool k, .int .i64 r2, .string b2, .bool e2, .bool k2, .int .i64 wt, .int .i64 cm] _ 27 RX Try.underlying27 rfl (by kernel_rfl) ?_)
  clear hW
  refine (lanes16 ⟨⟨r, b, e, k⟩, ⟨r2, b2, e2, k2⟩, wt, cm⟩ _).mono ?_; rintro x w1 ⟨rfl, hb⟩
  replace RX := RX.new hb
  replace RY := RY.new hb
  replace HB := bchain HB hb
  clear hb
  dsimp only [lnv]
  go_upto_region 2 with (refine wpList_store_row (by rfl) 58 _ _ (by rfl) w1.heap.size [.int .i64 r, .string b, .bool e, .bool k, .int .i64 wt, .int .i64 r2, .string b2, .bool e2, .bool k2, .int .i64 cm] (by rfl) (by rfl) 58 [.int .i64 0, .string ⟨#[]⟩, .bool false, .bool false, .int .i64 0, .int .i64 0, .string ⟨#[]⟩, .bool false, .bool false, .int .i64 0] (rowIs_new w1 58 [.int .i64 0, .string ⟨#[]⟩, .bool false, .bool false, .int .i64 0, .int .i64 0, .string ⟨#[]⟩, .bool false, .bool false, .int .i64 0]) (by kernel_rfl) rfl (by intro u hu; simp at hu; rcases hu with rfl | rfl | rfl | rfl | rfl | rfl | rfl | rfl | rfl | rfl <;> rfl) ?_)
  have RL : RowIs ((w1.alloc (.cells #[.int .i64 0, .string ⟨#[]⟩, .bool false, .bool false, .int .i64 0, .int .i64 0, .string ⟨#[]⟩, .bool false, .bool false, .int .i64 0] 58)).setRow w1.heap.size #[.int .i64 r, .string b, .bool e, .bool k, .int .i64 wt, .int .i64 r2, .string b2, .bool e2, .bool k2, .int .i64 cm]) w1.heap.size 58 [.int .i64 r, .string b, .bool e, .bool k, .int .i64 wt, .int .i64 r2, .string b2, .bool e2, .bool k2, .int .i64 cm] := rowIs_setRow (cs' := [.int .i64 r, .string b, .bool e, .bool k, .int .i64 wt, .int .i64 r2, .string b2, .bool e2, .bool k2, .int .i64 cm]) (rowIs_new w1 58 [.int .i64 0, .string ⟨#[]⟩, .bool false, .bool false, .int .i64 0, .int .i64 0, .string ⟨#[]⟩, .bool false, .bool false, .int .i64 0])
  have hbV : Below w1.heap.size w1 ((w1.alloc (.cells #[.int .i64 0, .string ⟨#[]⟩, .bool false, .bool false, .int .i64 0, .int .i64 0, .string ⟨#[]⟩, .bool false, .bool false, .int .i64 0] 58)).setRow w1.heap.size #[.int .i64 r, .string b, .bool e, .bool k, .int .i64 wt, .int .i64 r2, .string b2, .bool e2, .bool k2, .int .i64 cm]) := below_setRow ((Below.refl _ _).alloc (Nat.le_refl _) _) (Nat.le_refl _) #[.int .i64 r, .string b, .bool e, .bool k, .int .i64 wt, .int .i64 r2, .string b2, .bool e2, .bool k2, .int .i64 cm]
  have hgl : w.heap.size + 1 < w1.heap.size := RY.lt
  replace RX := RX.new hbV
  replace RY := RY.new hbV
  replace HB := bchain HB hbV
  clear hbV
  generalize hV : (w1.alloc (.cells #[.int .i64 0, .string ⟨#[]⟩, .bool false, .bool false, .int .i64 0, .int .i64 0, .string ⟨#[]⟩, .bool false, .bool false, .int .i64 0] 58)).setRow w1.heap.size #[.int .i64 r, .string b, .bool e, .bool k, .int .i64 wt, .int .i64 r2, .string b2, .bool e2, .bool k2, .int .i64 cm] = V0 at *
  clear hV
  generalize w1.heap.size = gL at *
  go_wp2_with (refine wpList_load_row (by rfl) 58 _ (by rfl) gL (by rfl) [.int .i64 r, .string b, .bool e, .bool k, .int .i64 wt, .int .i64 r2, .string b2, .bool e2, .bool k2, .int .i64 cm] _ 58 RL Try.underlying58 rfl (by kernel_rfl) ?_)
  refine (hri _).mono ?_; rintro x w2 ⟨rfl, hb⟩
  replace RX := RX.new hb
  replace RY := RY.new hb
  replace RL := RL.new hb
  replace HB := bchain HB hb
  clear hb
  have z0 := RowIs.cell (j := 0) RL rfl
  have z1 := RowIs.cell (j := 1) RL rfl
  have z2 := RowIs.cell (j := 2) RL rfl
  have z3 := RowIs.cell (j := 3) RL rfl
  have zf := fun j => RowIs.frozen RL j
  have zl := RL.lt
  go_wp2_with fail
  clear z0 z1 z2 z3 zf zl
  refine (tear r b e k _).mono ?_; rintro x w3 ⟨rfl, hb⟩
  replace RX := RX.new hb
  replace RY := RY.new hb
  replace RL := RL.new hb
  replace HB := bchain HB hb
  clear hb
  have z0 := RowIs.cell (j := 0) RL rfl
  have z1 := RowIs.cell (j := 1) RL rfl
  have z2 := RowIs.cell (j := 2) RL rfl
  have z3 := RowIs.cell (j := 3) RL rfl
  have zf := fun j => RowIs.frozen RL j
  have zl := RL.lt
  go_upto_region 5 with fail
  clear z0 z1 z2 z3 zf zl
  have NRX : RowIs ((((w3.setCell ⟨gL, 0, none⟩ (.int .i64 r)).setCell ⟨gL, 1, none⟩ (.string ⟨#[]⟩)).setCell ⟨gL, 2, none⟩ (.bool e)).setCell ⟨gL, 3, none⟩ (.bool true)) w.heap.size 27 [.int .i64 r, .string b, .bool e, .bool k, .int .i64 r2, .string b2, .bool e2, .bool k2, .int .i64 wt, .int .i64 cm] := ((((RX.far ⟨gL, 0, none⟩ (.int .i64 r) (show gL ≠ w.heap.size by omega)).far ⟨gL, 1, none⟩ (.string ⟨#[]⟩) (show gL ≠ w.heap.size by omega)).far ⟨gL, 2, none⟩ (.bool e) (show gL ≠ w.heap.size by omega)).far ⟨gL, 3, none⟩ (.bool true) (show gL ≠ w.heap.size by omega))
  have NRY : RowIs ((((w3.setCell ⟨gL, 0, none⟩ (.int .i64 r)).setCell ⟨gL, 1, none⟩ (.string ⟨#[]⟩)).setCell ⟨gL, 2, none⟩ (.bool e)).setCell ⟨gL, 3, none⟩ (.bool true)) (w.heap.size + 1) 27 [.int .i64 0, .string ⟨#[]⟩, .bool false, .bool false, .int .i64 0, .string ⟨#[]⟩, .bool false, .bool false, .int .i64 0, .int .i64 0] := ((((RY.far ⟨gL, 0, none⟩ (.int .i64 r) (show gL ≠ (w.heap.size + 1) by omega)).far ⟨gL, 1, none⟩ (.string ⟨#[]⟩) (show gL ≠ (w.heap.size + 1) by omega)).far ⟨gL, 2, none⟩ (.bool e) (show gL ≠ (w.heap.size + 1) by omega)).far ⟨gL, 3, none⟩ (.bool true) (show gL ≠ (w.heap.size + 1) by omega))
  have NRL : RowIs ((((w3.setCell ⟨gL, 0, none⟩ (.int .i64 r)).setCell ⟨gL, 1, none⟩ (.string ⟨#[]⟩)).setCell ⟨gL, 2, none⟩ (.bool e)).setCell ⟨gL, 3, none⟩ (.bool true)) gL 58 [.int .i64 r, .string ⟨#[]⟩, .bool e, .bool true, .int .i64 wt, .int .i64 r2, .string b2, .bool e2, .bool k2, .int .i64 cm] := ((((RL.set 0 (.int .i64 r)).set 1 (.string ⟨#[]⟩)).set 2 (.bool e)).set 3 (.bool true))
  have NHB := ((((HB.setCell (p := ⟨gL, 0, none⟩) (show w.heap.size ≤ gL by omega) (.int .i64 r)).setCell (p := ⟨gL, 1, none⟩) (show w.heap.size ≤ gL by omega) (.string ⟨#[]⟩)).setCell (p := ⟨gL, 2, none⟩) (show w.heap.size ≤ gL by omega) (.bool e)).setCell (p := ⟨gL, 3, none⟩) (show w.heap.size ≤ gL by omega) (.bool true))
  generalize hV : ((((w3.setCell ⟨gL, 0, none⟩ (.int .i64 r)).setCell ⟨gL, 1, none⟩ (.string ⟨#[]⟩)).setCell ⟨gL, 2, none⟩ (.bool e)).setCell ⟨gL, 3, none⟩ (.bool true)) = V4 at *
  clear hV
  clear RX
  have RX := NRX
  clear NRX
  clear RY
  have RY := NRY
  clear NRY
  clear RL
  have RL := NRL
  clear NRL
  clear HB
  have HB := NHB
  clear NHB
  have z5 := RowIs.cell (j := 5) RL rfl
  have z6 := RowIs.cell (j := 6) RL rfl
  have z7 := RowIs.cell (j := 7) RL rfl
  have z8 := RowIs.cell (j := 8) RL rfl
  have zf := fun j => RowIs.frozen RL j
  have zl := RL.lt
  go_wp2_with fail
  clear z5 z6 z7 z8 zf zl
  refine (tear r2 b2 e2 k2 _).mono ?_; rintro x w5 ⟨rfl, hb⟩
  replace RX := RX.new hb
  replace RY := RY.new hb
  replace RL := RL.new hb
  replace HB := bchain HB hb
  clear hb
  have z5 := RowIs.cell (j := 5) RL rfl
  have z6 := RowIs.cell (j := 6) RL rfl
  have z7 := RowIs.cell (j := 7) RL rfl
  have z8 := RowIs.cell (j := 8) RL rfl
  have zf := fun j => RowIs.frozen RL j
  have zl := RL.lt
  go_upto_region 6 with fail
  clear z5 z6 z7 z8 zf zl
  have NRX : RowIs ((((w5.setCell ⟨gL, 5, none⟩ (.int .i64 r2)).setCell ⟨gL, 6, none⟩ (.string ⟨#[]⟩)).setCell ⟨gL, 7, none⟩ (.bool e2)).setCell ⟨gL, 8, none⟩ (.bool true)) w.heap.size 27 [.int .i64 r, .string b, .bool e, .bool k, .int .i64 r2, .string b2, .bool e2, .bool k2, .int .i64 wt, .int .i64 cm] := ((((RX.far ⟨gL, 5, none⟩ (.int .i64 r2) (show gL ≠ w.heap.size by omega)).far ⟨gL, 6, none⟩ (.string ⟨#[]⟩) (show gL ≠ w.heap.size by omega)).far ⟨gL, 7, none⟩ (.bool e2) (show gL ≠ w.heap.size by omega)).far ⟨gL, 8, none⟩ (.bool true) (show gL ≠ w.heap.size by omega))
  have NRY : RowIs ((((w5.setCell ⟨gL, 5, none⟩ (.int .i64 r2)).setCell ⟨gL, 6, none⟩ (.string ⟨#[]⟩)).setCell ⟨gL, 7, none⟩ (.bool e2)).setCell ⟨gL, 8, none⟩ (.bool true)) (w.heap.size + 1) 27 [.int .i64 0, .string ⟨#[]⟩, .bool false, .bool false, .int .i64 0, .string ⟨#[]⟩, .bool false, .bool false, .int .i64 0, .int .i64 0] := ((((RY.far ⟨gL, 5, none⟩ (.int .i64 r2) (show gL ≠ (w.heap.size + 1) by omega)).far ⟨gL, 6, none⟩ (.string ⟨#[]⟩) (show gL ≠ (w.heap.size + 1) by omega)).far ⟨gL, 7, none⟩ (.bool e2) (show gL ≠ (w.heap.size + 1) by omega)).far ⟨gL, 8, none⟩ (.bool true) (show gL ≠ (w.heap.size + 1) by omega))
  have NRL : RowIs ((((w5.setCell ⟨gL, 5, none⟩ (.int .i64 r2)).setCell ⟨gL, 6, none⟩ (.string ⟨#[]⟩)).setCell ⟨gL, 7, none⟩ (.bool e2)).setCell ⟨gL, 8, none⟩ (.bool true)) gL 58 [.int .i64 r, .string ⟨#[]⟩, .bool e, .bool true, .int .i64 wt, .int .i64 r2, .string ⟨#[]⟩, .bool e2, .bool true, .int .i64 cm] := ((((RL.set 5 (.int .i64 r2)).set 6 (.string ⟨#[]⟩)).set 7 (.bool e2)).set 8 (.bool true))
  have NHB := ((((HB.setCell (p := ⟨gL, 5, none⟩) (show w.heap.size ≤ gL by omega) (.int .i64 r2)).setCell (p := ⟨gL, 6, none⟩) (show w.heap.size ≤ gL by omega) (.string ⟨#[]⟩)).setCell (p := ⟨gL, 7, none⟩) (show w.heap.size ≤ gL by omega) (.bool e2)).setCell (p := ⟨gL, 8, none⟩) (show w.heap.size ≤ gL by omega) (.bool true))
  generalize hV : ((((w5.setCell ⟨gL, 5, none⟩ (.int .i64 r2)).setCell ⟨gL, 6, none⟩ (.string ⟨#[]⟩)).setCell ⟨gL, 7, none⟩ (.bool e2)).setCell ⟨gL, 8, none⟩ (.bool true)) = V6 at *
  clear hV
  clear RX
  have RX := NRX
  clear NRX
  clear RY
  have RY := NRY
  clear NRY
  clear RL
  have RL := NRL
  clear NRL
  clear HB
  have HB := NHB
  clear NHB
  go_wp2_with (refine wpList_load_row (by rfl) 58 _ (by rfl) gL (by rfl) [.int .i64 r, .string ⟨#[]⟩, .bool e, .bool true, .int .i64 wt, .int .i64 r2, .string ⟨#[]⟩, .bool e2, .bool true, .int .i64 cm] _ 58 RL Try.underlying58 rfl (by kernel_rfl) ?_)
  refine (lanesTunnel16 ⟨⟨r, ⟨#[]⟩, e, true⟩, ⟨r2, ⟨#[]⟩, e2, true⟩, wt, cm⟩ _ (by show ByteArray.size ⟨#[]⟩ ≤ _; decide) (by show ByteArray.size ⟨#[]⟩ ≤ _; decide)).mono ?_; rintro x w7 ⟨rfl, hb⟩
  replace RX := RX.new hb
  replace RY := RY.new hb
  replace RL := RL.new hb
  replace HB := bchain HB hb
  clear hb
  dsimp only [tuv]
  go_wp2_with (refine wpList_store_row (by rfl) 27 _ _ (by rfl) (w.heap.size + 1) [.int .i64 r, .string ⟨#[]⟩, .bool e, .bool true, .int .i64 r2, .string ⟨#[]⟩, .bool e2, .bool true, .int .i64 wt, .int .i64 cm] (by rfl) (by rfl) 27 [.int .i64 0, .string ⟨#[]⟩, .bool false, .bool false, .int .i64 0, .string ⟨#[]⟩, .bool false, .bool false, .int .i64 0, .int .i64 0] RY (by kernel_rfl) rfl (by intro u hu; simp at hu; rcases hu with rfl | rfl | rfl | rfl | rfl | rfl | rfl | rfl | rfl | rfl <;> rfl) ?_)
  have NRX := RX.kept (setRow_other w7 (w.heap.size + 1) #[.int .i64 r, .string ⟨#[]⟩, .bool e, .bool true, .int .i64 r2, .string ⟨#[]⟩, .bool e2, .bool true, .int .i64 wt, .int .i64 cm] w.heap.size (by omega))
  have NRY : RowIs (w7.setRow (w.heap.size + 1) #[.int .i64 r, .string ⟨#[]⟩, .bool e, .bool true, .int .i64 r2, .string ⟨#[]⟩, .bool e2, .bool true, .int .i64 wt, .int .i64 cm]) (w.heap.size + 1) 27 [.int .i64 r, .string ⟨#[]⟩, .bool e, .bool true, .int .i64 r2, .string ⟨#[]⟩, .bool e2, .bool true, .int .i64 wt, .int .i64 cm] := rowIs_setRow (cs' := [.int .i64 r, .string ⟨#[]⟩, .bool e, .bool true, .int .i64 r2, .string ⟨#[]⟩, .bool e2, .bool true, .int .i64 wt, .int .i64 cm]) RY
  have NRL := RL.kept (setRow_other w7 (w.heap.size + 1) #[.int .i64 r, .string ⟨#[]⟩, .bool e, .bool true, .int .i64 r2, .string ⟨#[]⟩, .bool e2, .bool true, .int .i64 wt, .int .i64 cm] gL (by omega))
  have NHB := below_setRow HB (show w.heap.size ≤ (w.heap.size + 1) by omega) #[.int .i64 r, .string ⟨#[]⟩, .bool e, .bool true, .int .i64 r2, .string ⟨#[]⟩, .bool e2, .bool true, .int .i64 wt, .int .i64 cm]
  generalize hV : w7.setRow (w.heap.size + 1) #[.int .i64 r, .string ⟨#[]⟩, .bool e, .bool true, .int .i64 r2, .string ⟨#[]⟩, .bool e2, .bool true, .int .i64 wt, .int .i64 cm] = V8 at *
  clear hV
  clear RX
  have RX := NRX
  clear NRX
  clear RY
  have RY := NRY
  clear NRY
  clear RL
  have RL := NRL
  clear NRL
  clear HB
  have HB := NHB
  clear NHB
  have y0 := RowIs.cell (j := 0) RY rfl
  have y1 := RowIs.cell (j := 1) RY rfl
  have y2 := RowIs.cell (j := 2) RY rfl
  have y3 := RowIs.cell (j := 3) RY rfl
  have y4 := RowIs.cell (j := 4) RY rfl
  have y5 := RowIs.cell (j := 5) RY rfl
  have y6 := RowIs.cell (j := 6) RY rfl
  have y7 := RowIs.cell (j := 7) RY rfl
  have y8 := RowIs.cell (j := 8) RY rfl
  have y9 := RowIs.cell (j := 9) RY rfl
  have yf := fun j => RowIs.frozen RY j
  have yl := RY.lt
  refine bodyPost_ret (v := .agg #[.int .i64 r, .string ⟨#[]⟩, .bool e, .bool true, .int .i64 r2, .string ⟨#[]⟩, .bool e2, .bool true, .int .i64 wt, .int .i64 cm]) (by simp [results, Try.results18, go_sem, *]) rfl ?_
  exact ⟨rfl, HB⟩
set_option maxHeartbeats 2000000 in
theorem implNewTunnel (r : Int) (w : World) : Calls Try.prog 14 #[.int .i64 r] w fun x w' => x = .returned (.tuple #[tuv (newTu r).1, .bool (newTu r).2]) ∧ Below w.heap.size w w' := by
  cases hk : newB r
  · have hv : newTu r = (zTu, false) := by unfold newTu; rw [if_neg (by rw [hk]; decide)]
    rw [hv]
    dsimp only [tuv, zTu, zPp]
    have hcl := implNew r (w.alloc (.cells #[.int .i64 0, .string ⟨#[]⟩, .bool false, .bool false, .int .i64 0, .string ⟨#[]⟩, .bool false, .bool false, .int .i64 0, .int .i64 0] 27))
    rw [hk] at hcl
    have RY := rowIs_new w 27 [.int .i64 0, .string ⟨#[]⟩, .bool false, .bool false, .int .i64 0, .string ⟨#[]⟩, .bool false, .bool false, .int .i64 0, .int .i64 0]
    have HB : Below w.heap.size w (w.alloc (.cells #[.int .i64 0, .string ⟨#[]⟩, .bool false, .bool false, .int .i64 0, .string ⟨#[]⟩, .bool false, .bool false, .int .i64 0, .int .i64 0] 27)) := (Below.refl _ _).alloc (Nat.le_refl _) _
    go_enter Try.func14, Try.ntmps14
    go_wp2_with fail
    refine hcl.mono ?_; clear hcl; rintro x w1 ⟨rfl, hb⟩
    replace RY := RY.new hb
    replace HB := bchain HB hb
    clear hb
    go_upto_region 2 with fail
    have hly := RY.lt
    obtain ⟨gRP, hgRP⟩ : ∃ g, g = w1.heap.size := ⟨_, rfl⟩
    have hltRYRP : w.heap.size < gRP := by have := RY.lt; omega
    have hleRP : w.heap.size ≤ gRP := by have := HB.size; omega
    have hbV : Below w1.heap.size w1 (w1.alloc (.cells #[.int .i64 0, .string ⟨#[]⟩, .bool false, .bool false] 25)) := (Below.refl _ _).alloc (Nat.le_refl _) _
    have RP : RowIs (w1.alloc (.cells #[.int .i64 0, .string ⟨#[]⟩, .bool false, .bool false] 25)) w1.heap.size 25 [.int .i64 0, .string ⟨#[]⟩, .bool false, .bool false] := rowIs_new w1 _ _
    replace RY := RY.new hbV
    replace HB := bchain HB hbV
    clear hbV
    rw [← hgRP] at RP
    try rw [← hgRP]
    generalize hV : w1.alloc (.cells #[.int .i64 0, .string ⟨#[]⟩, .bool false, .bool false] 25) = V2 at *
    clear hV hgRP
    go_wp2_with (refine wpList_store_row (by rfl) 27 _ _ (by rfl) w.heap.size [.int .i64 0, .string ⟨#[]⟩, .bool false, .bool false, .int .i64 0, .string ⟨#[]⟩, .bool false, .bool false, .int .i64 0, .int .i64 0] (by rfl) (by rfl) 27 [.int .i64 0, .string ⟨#[]⟩, .bool false, .bool false, .int .i64 0, .string ⟨#[]⟩, .bool false, .bool false, .int .i64 0, .int .i64 0] RY (by kernel_rfl) rfl (by intro u hu; simp at hu; rcases hu with rfl | rfl | rfl | rfl | rfl | rfl | rfl | rfl | rfl | rfl <;> rfl) ?_)
    have NRY : RowIs (V2.setRow w.heap.size #[.int .i64 0, .string ⟨#[]⟩, .bool false, .bool false, .int .i64 0, .string ⟨#[]⟩, .bool false, .bool false, .int .i64 0, .int .i64 0]) w.heap.size 27 [.int .i64 0, .string ⟨#[]⟩, .bool false, .bool false, .int .i64 0, .string ⟨#[]⟩, .bool false, .bool false, .int .i64 0, .int .i64 0] := rowIs_setRow (cs' := [.int .i64 0, .string ⟨#[]⟩, .bool false, .bool false, .int .i64 0, .string ⟨#[]⟩, .bool false, .bool false, .int .i64 0, .int .i64 0]) RY
    have NRP := RP.kept (setRow_other V2 w.heap.size #[.int .i64 0, .string ⟨#[]⟩, .bool false, .bool false, .int .i64 0, .string ⟨#[]⟩, .bool false, .bool false, .int .i64 0, .int .i64 0] gRP (by omega))
    have NHB := below_setRow HB (show w.heap.size ≤ w.heap.size by omega) #[.int .i64 0, .string ⟨#[]⟩, .bool false, .bool false, .int .i64 0, .string ⟨#[]⟩, .bool false, .bool false, .int .i64 0, .int .i64 0]
    generalize hV : V2.setRow w.heap.size #[.int .i64 0, .string ⟨#[]⟩, .bool false, .bool false, .int .i64 0, .string ⟨#[]⟩, .bool false, .bool false, .int .i64 0, .int .i64 0] = V3 at *
    clear hV
    clear RY
    have RY := NRY
    clear NRY
    clear RP
    have RP := NRP
    clear NRP
    clear HB
    have HB := NHB
    clear NHB
    have y0 := RowIs.cell (j := 0) RY rfl
    have y1 := RowIs.cell (j := 1) RY rfl
    have y2 := RowIs.cell (j := 2) RY rfl
    have y3 := RowIs.cell (j := 3) RY rfl
    have y4 := RowIs.cell (j := 4) RY rfl
    have y5 := RowIs.cell (j := 5) RY rfl
    have y6 := RowIs.cell (j := 6) RY rfl
    have y7 := RowIs.cell (j := 7) RY rfl
    have y8 := RowIs.cell (j := 8) RY rfl
    have y9 := RowIs.cell (j := 9) RY rfl
    have yf := fun j => RowIs.frozen RY j
    have yl := RY.lt
    refine bodyPost_ret (v := .tuple #[.agg #[.int .i64 0, .string ⟨#[]⟩, .bool false, .bool false, .int .i64 0, .string ⟨#[]⟩, .bool false, .bool false, .int .i64 0, .int .i64 0], .bool false]) (by simp [results, Try.results14, go_sem, *]) rfl ?_
    exact ⟨rfl, HB⟩
  have hv : newTu r = (⟨⟨r, ⟨#[]⟩, false, false⟩, ⟨r, ⟨#[]⟩, false, false⟩, 0, 0⟩, true) := by unfold newTu; rw [if_pos hk]
  rw [hv]
  dsimp only [tuv]
  have hcl := implNew r (w.alloc (.cells #[.int .i64 0, .string ⟨#[]⟩, .bool false, .bool false, .int .i64 0, .string ⟨#[]⟩, .bool false, .bool false, .int .i64 0, .int .i64 0] 27))
  rw [hk] at hcl
  have RY := rowIs_new w 27 [.int .i64 0, .string ⟨#[]⟩, .bool false, .bool false, .int .i64 0, .string ⟨#[]⟩, .bool false, .bool false, .int .i64 0, .int .i64 0]
  have HB : Below w.heap.size w (w.alloc (.cells #[.int .i64 0, .string ⟨#[]⟩, .bool false, .bool false, .int .i64 0, .string ⟨#[]⟩, .bool false, .bool false, .int .i64 0, .int .i64 0] 27)) := (Below.refl _ _).alloc (Nat.le_refl _) _
  go_enter Try.func14, Try.ntmps14
  go_wp2_with fail
  refine hcl.mono ?_; clear hcl; rintro x w1 ⟨rfl, hb⟩
  replace RY := RY.new hb
  replace HB := bchain HB hb
  clear hb
  go_upto_region 2 with fail
  have hly := RY.lt
  obtain ⟨gRP, hgRP⟩ : ∃ g, g = w1.heap.size := ⟨_, rfl⟩
  have hltRYRP : w.heap.size < gRP := by have := RY.lt; omega
  have hleRP : w.heap.size ≤ gRP := by have := HB.size; omega
  have hbV : Below w1.heap.size w1 (w1.alloc (.cells #[.int .i64 r, .string ⟨#[]⟩, .bool false, .bool false] 25)) := (Below.refl _ _).alloc (Nat.le_refl _) _
  have RP : RowIs (w1.alloc (.cells #[.int .i64 r, .string ⟨#[]⟩, .bool false, .bool false] 25)) w1.heap.size 25 [.int .i64 r, .string ⟨#[]⟩, .bool false, .bool false] := rowIs_new w1 _ _
  replace RY := RY.new hbV
  replace HB := bchain HB hbV
  clear hbV
  rw [← hgRP] at RP
  try rw [← hgRP]
  generalize hV : w1.alloc (.cells #[.int .i64 r, .string ⟨#[]⟩, .bool false, .bool false] 25) = V2 at *
  clear hV hgRP
  have p0 := RowIs.cell (j := 0) RP rfl
  have p1 := RowIs.cell (j := 1) RP rfl
  have p2 := RowIs.cell (j := 2) RP rfl
  have p3 := RowIs.cell (j := 3) RP rfl
  have pf := fun j => RowIs.frozen RP j
  have pl := RP.lt
  go_wp2_with (refine wpList_store_row (by rfl) 27 _ _ (by rfl) w.heap.size [.int .i64 r, .string ⟨#[]⟩, .bool false, .bool false, .int .i64 r, .string ⟨#[]⟩, .bool false, .bool false, .int .i64 0, .int .i64 0] (by rfl) (by rfl) 27 [.int .i64 0, .string ⟨#[]⟩, .bool false, .bool false, .int .i64 0, .string ⟨#[]⟩, .bool false, .bool false, .int .i64 0, .int .i64 0] RY (by kernel_rfl) rfl (by intro u hu; simp at hu; rcases hu with rfl | rfl | rfl | rfl | rfl | rfl | rfl | rfl | rfl | rfl <;> rfl) ?_)
  clear p0 p1 p2 p3 pf pl
  have NRY : RowIs (V2.setRow w.heap.size #[.int .i64 r, .string ⟨#[]⟩, .bool false, .bool false, .int .i64 r, .string ⟨#[]⟩, .bool false, .bool false, .int .i64 0, .int .i64 0]) w.heap.size 27 [.int .i64 r, .string ⟨#[]⟩, .bool false, .bool false, .int .i64 r, .string ⟨#[]⟩, .bool false, .bool false, .int .i64 0, .int .i64 0] := rowIs_setRow (cs' := [.int .i64 r, .string ⟨#[]⟩, .bool false, .bool false, .int .i64 r, .string ⟨#[]⟩, .bool false, .bool false, .int .i64 0, .int .i64 0]) RY
  have NRP := RP.kept (setRow_other V2 w.heap.size #[.int .i64 r, .string ⟨#[]⟩, .bool false, .bool false, .int .i64 r, .string ⟨#[]⟩, .bool false, .bool false, .int .i64 0, .int .i64 0] gRP (by omega))
  have NHB := below_setRow HB (show w.heap.size ≤ w.heap.size by omega) #[.int .i64 r, .string ⟨#[]⟩, .bool false, .bool false, .int .i64 r, .string ⟨#[]⟩, .bool false, .bool false, .int .i64 0, .int .i64 0]
  generalize hV : V2.setRow w.heap.size #[.int .i64 r, .string ⟨#[]⟩, .bool false, .bool false, .int .i64 r, .string ⟨#[]⟩, .bool false, .bool false, .int .i64 0, .int .i64 0] = V3 at *
  clear hV
  clear RY
  have RY := NRY
  clear NRY
  clear RP
  have RP := NRP
  clear NRP
  clear HB
  have HB := NHB
  clear NHB
  have y0 := RowIs.cell (j := 0) RY rfl
  have y1 := RowIs.cell (j := 1) RY rfl
  have y2 := RowIs.cell (j := 2) RY rfl
  have y3 := RowIs.cell (j := 3) RY rfl
  have y4 := RowIs.cell (j := 4) RY rfl
  have y5 := RowIs.cell (j := 5) RY rfl
  have y6 := RowIs.cell (j := 6) RY rfl
  have y7 := RowIs.cell (j := 7) RY rfl
  have y8 := RowIs.cell (j := 8) RY rfl
  have y9 := RowIs.cell (j := 9) RY rfl
  have yf := fun j => RowIs.frozen RY j
  have yl := RY.lt
  refine bodyPost_ret (v := .tuple #[.agg #[.int .i64 r, .string ⟨#[]⟩, .bool false, .bool false, .int .i64 r, .string ⟨#[]⟩, .bool false, .bool false, .int .i64 0, .int .i64 0], .bool true]) (by simp [results, Try.results14, go_sem, *]) rfl ?_
  exact ⟨rfl, HB⟩
theorem implDryP (p : PpD) (w : World) (hb : p.b.size ≤ maxLen) : Calls Try.prog 45 #[pv p] w fun x w' => x = .returned (.bool (dryPp p)) ∧ Below w.heap.size w w' := implDry p.r p.b p.e p.k w hb
set_option maxHeartbeats 2000000 in
theorem implOver (t : TuD) (w : World) (h1 : t.up.b.size ≤ maxLen) (h2 : t.dn.b.size ≤ maxLen) : Calls Try.prog 20 #[tuv t] w fun x w' => x = .returned (.bool (ovrTu t)) ∧ Below w.heap.size w w' := by
  obtain ⟨⟨r, b, e, k⟩, ⟨r2, b2, e2, k2⟩, wt, cm⟩ := t
  unfold ovrTu
  dsimp only [tuv] at *
  cases hk : okTu ⟨⟨r, b, e, k⟩, ⟨r2, b2, e2, k2⟩, wt, cm⟩
  · have RX := rowIs_new w 27 [.int .i64 r, .string b, .bool e, .bool k, .int .i64 r2, .string b2, .bool e2, .bool k2, .int .i64 wt, .int .i64 cm]
    have HB : Below w.heap.size w (w.alloc (.cells #[.int .i64 r, .string b, .bool e, .bool k, .int .i64 r2, .string b2, .bool e2, .bool k2, .int .i64 wt, .int .i64 cm] 27)) := (Below.refl _ _).alloc (Nat.le_refl _) _
    have hok := fun u => implTunnelOk ⟨⟨r, b, e, k⟩, ⟨r2, b2, e2, k2⟩, wt, cm⟩ u h1 h2
    rw [hk] at hok
    go_enter Try.func20, Try.ntmps20
    go_wp2_with (refine wpList_load_row (by rfl) 27 _ (by rfl) w.heap.size (by rfl) [.int .i64 r, .string b, .bool e, .bool k, .int .i64 r2, .string b2, .bool e2, .bool k2, .int .i64 wt, .int .i64 cm] _ 27 RX Try.underlying27 rfl (by kernel_rfl) ?_)
    refine (hok _).mono ?_; clear hok; rintro x w1 ⟨rfl, hb⟩
    replace RX := RX.new hb
    replace HB := bchain HB hb
    clear hb
    have x0 := RowIs.cell (j := 0) RX rfl
    have x1 := RowIs.cell (j := 1) RX rfl
    have x2 := RowIs.cell (j := 2) RX rfl
    have x3 := RowIs.cell (j := 3) RX rfl
    have x4 := RowIs.cell (j := 4) RX rfl
    have x5 := RowIs.cell (j := 5) RX rfl
    have x6 := RowIs.cell (j := 6) RX rfl
    have x7 := RowIs.cell (j := 7) RX rfl
    have x8 := RowIs.cell (j := 8) RX rfl
    have x9 := RowIs.cell (j := 9) RX rfl
    have xf := fun j => RowIs.frozen RX j
    have xl := RX.lt
    go_wp2_with fail
    go_ret
    exact ⟨rfl, HB⟩
  cases hu : dryPp ⟨r, b, e, k⟩
  · have RX := rowIs_new w 27 [.int .i64 r, .string b, .bool e, .bool k, .int .i64 r2, .string b2, .bool e2, .bool k2, .int .i64 wt, .int .i64 cm]
    have HB : Below w.heap.size w (w.alloc (.cells #[.int .i64 r, .string b, .bool e, .bool k, .int .i64 r2, .string b2, .bool e2, .bool k2, .int .i64 wt, .int .i64 cm] 27)) := (Below.refl _ _).alloc (Nat.le_refl _) _
    have hok := fun u => implTunnelOk ⟨⟨r, b, e, k⟩, ⟨r2, b2, e2, k2⟩, wt, cm⟩ u h1 h2
    rw [hk] at hok
    go_enter Try.func20, Try.ntmps20
    go_wp2_with (refine wpList_load_row (by rfl) 27 _ (by rfl) w.heap.size (by rfl) [.int .i64 r, .string b, .bool e, .bool k, .int .i64 r2, .string b2, .bool e2, .bool k2, .int .i64 wt, .int .i64 cm] _ 27 RX Try.underlying27 rfl (by kernel_rfl) ?_)
    refine (hok _).mono ?_; clear hok; rintro x w1 ⟨rfl, hb⟩
    replace RX := RX.new hb
    replace HB := bchain HB hb
    clear hb
    have x0 := RowIs.cell (j := 0) RX rfl
    have x1 := RowIs.cell (j := 1) RX rfl
    have x2 := RowIs.cell (j := 2) RX rfl
    have x3 := RowIs.cell (j := 3) RX rfl
    have x4 := RowIs.cell (j := 4) RX rfl
    have x5 := RowIs.cell (j := 5) RX rfl
    have x6 := RowIs.cell (j := 6) RX rfl
    have x7 := RowIs.cell (j := 7) RX rfl
    have x8 := RowIs.cell (j := 8) RX rfl
    have x9 := RowIs.cell (j := 9) RX rfl
    have xf := fun j => RowIs.frozen RX j
    have xl := RX.lt
    go_wp2_with fail
    clear x0 x1 x2 x3 x4 x5 x6 x7 x8 x9 xf xl
    refine (implDryP ⟨r, b, e, k⟩ _ h1).mono ?_; rw [hu]; rintro x w2 ⟨rfl, hb⟩
    replace RX := RX.new hb
    replace HB := bchain HB hb
    clear hb
    have x0 := RowIs.cell (j := 0) RX rfl
    have x1 := RowIs.cell (j := 1) RX rfl
    have x2 := RowIs.cell (j := 2) RX rfl
    have x3 := RowIs.cell (j := 3) RX rfl
    have x4 := RowIs.cell (j := 4) RX rfl
    have x5 := RowIs.cell (j := 5) RX rfl
    have x6 := RowIs.cell (j := 6) RX rfl
    have x7 := RowIs.cell (j := 7) RX rfl
    have x8 := RowIs.cell (j := 8) RX rfl
    have x9 := RowIs.cell (j := 9) RX rfl
    have xf := fun j => RowIs.frozen RX j
    have xl := RX.lt
    go_wp2_with fail
    go_ret
    exact ⟨rfl, HB⟩
  have RX := rowIs_new w 27 [.int .i64 r, .string b, .bool e, .bool k, .int .i64 r2, .string b2, .bool e2, .bool k2, .int .i64 wt, .int .i64 cm]
  have HB : Below w.heap.size w (w.alloc (.cells #[.int .i64 r, .string b, .bool e, .bool k, .int .i64 r2, .string b2, .bool e2, .bool k2, .int .i64 wt, .int .i64 cm] 27)) := (Below.refl _ _).alloc (Nat.le_refl _) _
  have hok := fun u => implTunnelOk ⟨⟨r, b, e, k⟩, ⟨r2, b2, e2, k2⟩, wt, cm⟩ u h1 h2
  rw [hk] at hok
  go_enter Try.func20, Try.ntmps20
  go_wp2_with (refine wpList_load_row (by rfl) 27 _ (by rfl) w.heap.size (by rfl) [.int .i64 r, .string b, .bool e, .bool k, .int .i64 r2, .string b2, .bool e2, .bool k2, .int .i64 wt, .int .i64 cm] _ 27 RX Try.underlying27 rfl (by kernel_rfl) ?_)
  refine (hok _).mono ?_; clear hok; rintro x w1 ⟨rfl, hb⟩
  replace RX := RX.new hb
  replace HB := bchain HB hb
  clear hb
  have x0 := RowIs.cell (j := 0) RX rfl
  have x1 := RowIs.cell (j := 1) RX rfl
  have x2 := RowIs.cell (j := 2) RX rfl
  have x3 := RowIs.cell (j := 3) RX rfl
  have x4 := RowIs.cell (j := 4) RX rfl
  have x5 := RowIs.cell (j := 5) RX rfl
  have x6 := RowIs.cell (j := 6) RX rfl
  have x7 := RowIs.cell (j := 7) RX rfl
  have x8 := RowIs.cell (j := 8) RX rfl
  have x9 := RowIs.cell (j := 9) RX rfl
  have xf := fun j => RowIs.frozen RX j
  have xl := RX.lt
  go_wp2_with fail
  clear x0 x1 x2 x3 x4 x5 x6 x7 x8 x9 xf xl
  refine (implDryP ⟨r, b, e, k⟩ _ h1).mono ?_; rw [hu]; rintro x w2 ⟨rfl, hb⟩
  replace RX := RX.new hb
  replace HB := bchain HB hb
  clear hb
  have x0 := RowIs.cell (j := 0) RX rfl
  have x1 := RowIs.cell (j := 1) RX rfl
  have x2 := RowIs.cell (j := 2) RX rfl
  have x3 := RowIs.cell (j := 3) RX rfl
  have x4 := RowIs.cell (j := 4) RX rfl
  have x5 := RowIs.cell (j := 5) RX rfl
  have x6 := RowIs.cell (j := 6) RX rfl
  have x7 := RowIs.cell (j := 7) RX rfl
  have x8 := RowIs.cell (j := 8) RX rfl
  have x9 := RowIs.cell (j := 9) RX rfl
  have xf := fun j => RowIs.frozen RX j
  have xl := RX.lt
  go_wp2_with fail
  clear x0 x1 x2 x3 x4 x5 x6 x7 x8 x9 xf xl
  refine (implDryP ⟨r2, b2, e2, k2⟩ _ h2).mono ?_; rintro x w3 ⟨rfl, hb⟩
  replace RX := RX.new hb
  replace HB := bchain HB hb
  clear hb
  have x0 := RowIs.cell (j := 0) RX rfl
  have x1 := RowIs.cell (j := 1) RX rfl
  have x2 := RowIs.cell (j := 2) RX rfl
  have x3 := RowIs.cell (j := 3) RX rfl
  have x4 := RowIs.cell (j := 4) RX rfl
  have x5 := RowIs.cell (j := 5) RX rfl
  have x6 := RowIs.cell (j := 6) RX rfl
  have x7 := RowIs.cell (j := 7) RX rfl
  have x8 := RowIs.cell (j := 8) RX rfl
  have x9 := RowIs.cell (j := 9) RX rfl
  have xf := fun j => RowIs.frozen RX j
  have xl := RX.lt
  go_wp2_with fail
  go_ret
  exact ⟨rfl, HB⟩
end Go.Proofs.Ythkjjnnmnacgcaa
