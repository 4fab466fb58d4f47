/- Chapter 16's model: NewTunnel, In, Out, Back, Torn, Over. -/
import Derived.Test.YthkjjnnmnacgcaaTunSpec2
import Derived.Test.YthkjjnnmnacgcaaPipe4
import Derived.Test.YthkjjnnmnacgcaaLater
import Derived.Deep.RegionHeld3
import Derived.Deep.Cut
import Derived.Deep.DeepCutAuto
import Derived.Deep.QuietTactic


namespace Go.Proofs.Ythkjjnnmnacgcaa
open Go.RowKit
set_option maxRecDepth 100000
set_option linter.unusedSimpArgs false
set_option linter.unusedVariables false
set_option maxHeartbeats 2000000 in
theorem specIn16 (t : TuD) (s : ByteArray) (fin : Bool) (w : World) (h1 : t.up.b.size ≤ maxLen) (h2 : t.dn.b.size ≤ maxLen) (hs : s.size ≤ 1048576) : Calls Try.prog 15 #[tuv t, .string s, .bool fin] w fun x w' => x = .returned (.tuple #[tuv (inTu t s fin).1, .bool (inTu t s fin).2]) ∧ Below w.heap.size w w' := by
  obtain ⟨⟨r, b, e, k⟩, ⟨r2, b2, e2, k2⟩, wt, cm⟩ := t
  dsimp only [tuv] at *
  cases hk : okTu ⟨⟨r, b, e, k⟩, ⟨r2, b2, e2, k2⟩, wt, cm⟩
  · have hv : inTu ⟨⟨r, b, e, k⟩, ⟨r2, b2, e2, k2⟩, wt, cm⟩ s fin = (zTu, false) := by unfold inTu; rw [if_pos hk]
    rw [hv]
    dsimp only [zTu, zPp]
    obtain ⟨W, hW⟩ : ∃ W, (w.alloc (.cells #[.int .i64 r, .string b, .bool e, .bool k, .int .i64 r2, .string b2, .bool e2, .bool k2, .int .i64 wt, .int .i64 cm] 27)).alloc (.cells #[.int .i64 0, .string ⟨#[]⟩, .bool false, .bool false, .int .i64 0, .string ⟨#[]⟩, .bool false, .bool false, .int .i64 0, .int .i64 0] 27) = W := ⟨_, rfl⟩
    have RX : RowIs W w.heap.size 27 [.int .i64 r, .string b, .bool e, .bool k, .int .i64 r2, .string b2, .bool e2, .bool k2, .int .i64 wt, .int .i64 cm] := by rw [← hW]; exact (rowIs_new w 27 [.int .i64 r, .string b, .bool e, .bool k, .int .i64 r2, .string b2, .bool e2, .bool k2, .int .i64 wt, .int .i64 cm]).alloc _
    have RY : RowIs W (w.heap.size + 1) 27 [.int .i64 0, .string ⟨#[]⟩, .bool false, .bool false, .int .i64 0, .string ⟨#[]⟩, .bool false, .bool false, .int .i64 0, .int .i64 0] := by have := rowIs_new (w.alloc (.cells #[.int .i64 r, .string b, .bool e, .bool k, .int .i64 r2, .string b2, .bool e2, .bool k2, .int .i64 wt, .int .i64 cm] 27)) 27 [.int .i64 0, .string ⟨#[]⟩, .bool false, .bool false, .int .i64 0, .string ⟨#[]⟩, .bool false, .bool false, .int .i64 0, .int .i64 0]; rw [hW] at this; simpa using this
    have HB : Below w.heap.size w W := by rw [← hW]; exact (((Below.refl _ _).alloc (Nat.le_refl _) _).alloc (by simp) _)
    go_enter Try.func15, Try.ntmps15
    go_wp2_with (refine wpList_load_row (by rfl) 27 _ (by rfl) w.heap.size (by rfl) [.int .i64 r, .string b, .bool e, .bool k, .int .i64 r2, .string b2, .bool e2, .bool k2, .int .i64 wt, .int .i64 cm] _ 27 RX Try.underlying27 rfl (by kernel_rfl) ?_)
    clear hW
    have hok := specTunnelOk ⟨⟨r, b, e, k⟩, ⟨r2, b2, e2, k2⟩, wt, cm⟩ W h1 h2
    rw [hk] at hok
    refine hok.mono ?_; clear hok; rintro x w1 ⟨rfl, hb⟩
    replace RX := RX.new hb
    replace RY := RY.new hb
    replace HB := bchain HB hb
    clear hb
    go_wp2_with (refine wpList_store_row (by rfl) 27 _ _ (by rfl) (w.heap.size + 1) [.int .i64 0, .string ⟨#[]⟩, .bool false, .bool false, .int .i64 0, .string ⟨#[]⟩, .bool false, .bool false, .int .i64 0, .int .i64 0] (by rfl) (by rfl) 27 [.int .i64 0, .string ⟨#[]⟩, .bool false, .bool false, .int .i64 0, .string ⟨#[]⟩, .bool false, .bool false, .int .i64 0, .int .i64 0] RY (by kernel_rfl) rfl (by intro u hu; simp at hu; rcases hu with rfl | rfl | rfl | rfl | rfl | rfl | rfl | rfl | rfl | rfl <;> rfl) ?_)
    have NRX := RX.kept (setRow_other w1 (w.heap.size + 1) #[.int .i64 0, .string ⟨#[]⟩, .bool false, .bool false, .int .i64 0, .string ⟨#[]⟩, .bool false, .bool false, .int .i64 0, .int .i64 0] w.heap.size (by omega))
    have NRY : RowIs (w1.setRow (w.heap.size + 1) #[.int .i64 0, .string ⟨#[]⟩, .bool false, .bool false, .int .i64 0, .string ⟨#[]⟩, .bool false, .bool false, .int .i64 0, .int .i64 0]) (w.heap.size + 1) 27 [.int .i64 0, .string ⟨#[]⟩, .bool false, .bool false, .int .i64 0, .string ⟨#[]⟩, .bool false, .bool false, .int .i64 0, .int .i64 0] := rowIs_setRow (cs' := [.int .i64 0, .string ⟨#[]⟩, .bool false, .bool false, .int .i64 0, .string ⟨#[]⟩, .bool false, .bool false, .int .i64 0, .int .i64 0]) RY
    have NHB := below_setRow HB (show w.heap.size ≤ (w.heap.size + 1) by omega) #[.int .i64 0, .string ⟨#[]⟩, .bool false, .bool false, .int .i64 0, .string ⟨#[]⟩, .bool false, .bool false, .int .i64 0, .int .i64 0]
    generalize hV : w1.setRow (w.heap.size + 1) #[.int .i64 0, .string ⟨#[]⟩, .bool false, .bool false, .int .i64 0, .string ⟨#[]⟩, .bool false, .bool false, .int .i64 0, .int .i64 0] = V2 at *
    clear hV
    clear RX
    have RX := NRX
    clear NRX
    clear RY
    have RY := NRY
    clear NRY
    clear HB
    have HB := NHB
    clear NHB
    have y0 := RowIs.cell (j := 0) RY rfl
    have y1 := RowIs.cell (j := 1) RY rfl
    have y2 := RowIs.cell (j := 2) RY rfl
    have y3 := RowIs.cell (j := 3) RY rfl
    have y4 := RowIs.cell (j := 4) RY rfl
    have y5 := RowIs.cell (j := 5) RY rfl
    have y6 := RowIs.cell (j := 6) RY rfl
    have y7 := RowIs.cell (j := 7) RY rfl
    have y8 := RowIs.cell (j := 8) RY rfl
    have y9 := RowIs.cell (j := 9) RY rfl
    have yf := fun j => RowIs.frozen RY j
    have yl := RY.lt
    refine bodyPost_ret (v := .tuple #[.agg #[.int .i64 0, .string ⟨#[]⟩, .bool false, .bool false, .int .i64 0, .string ⟨#[]⟩, .bool false, .bool false, .int .i64 0, .int .i64 0], .bool false]) (by simp [results, Try.results15, go_sem, *]) rfl ?_
    exact ⟨rfl, HB⟩
  obtain ⟨hu, hd, ⟨hw0, hw1⟩, hc0, hc1⟩ := okTu_true hk
  obtain ⟨q1, q2, q3, q4⟩ := okPp_true hu
  dsimp only at q1 q2 q3 hw0 hw1
  have hnk : ¬ okTu ⟨⟨r, b, e, k⟩, ⟨r2, b2, e2, k2⟩, wt, cm⟩ = false := by rw [hk]; decide
  cases he : e
  rotate_left
  · subst he
    have hv : inTu ⟨⟨r, b, true, k⟩, ⟨r2, b2, e2, k2⟩, wt, cm⟩ s fin = (⟨⟨r, b, true, k⟩, ⟨r2, b2, e2, k2⟩, wt, cm⟩, false) := by unfold inTu; rw [if_neg hnk, if_pos (.inl rfl)]
    rw [hv]
    dsimp only
    obtain ⟨W, hW⟩ : ∃ W, (w.alloc (.cells #[.int .i64 r, .string b, .bool true, .bool k, .int .i64 r2, .string b2, .bool e2, .bool k2, .int .i64 wt, .int .i64 cm] 27)).alloc (.cells #[.int .i64 0, .string ⟨#[]⟩, .bool false, .bool false, .int .i64 0, .string ⟨#[]⟩, .bool false, .bool false, .int .i64 0, .int .i64 0] 27) = W := ⟨_, rfl⟩
    have RX : RowIs W w.heap.size 27 [.int .i64 r, .string b, .bool true, .bool k, .int .i64 r2, .string b2, .bool e2, .bool k2, .int .i64 wt, .int .i64 cm] := by rw [← hW]; exact (rowIs_new w 27 [.int .i64 r, .string b, .bool true, .bool k, .int .i64 r2, .string b2, .bool e2, .bool k2, .int .i64 wt, .int .i64 cm]).alloc _
    have RY : RowIs W (w.heap.size + 1) 27 [.int .i64 0, .string ⟨#[]⟩, .bool false, .bool false, .int .i64 0, .string ⟨#[]⟩, .bool false, .bool false, .int .i64 0, .int .i64 0] := by have := rowIs_new (w.alloc (.cells #[.int .i64 r, .string b, .bool true, .bool k, .int .i64 r2, .string b2, .bool e2, .bool k2, .int .i64 wt, .int .i64 cm] 27)) 27 [.int .i64 0, .string ⟨#[]⟩, .bool false, .bool false, .int .i64 0, .string ⟨#[]⟩, .bool false, .bool false, .int .i64 0, .int .i64 0]; rw [hW] at this; simpa using this
    have HB : Below w.heap.size w W := by rw [← hW]; exact (((Below.refl _ _).alloc (Nat.le_refl _) _).alloc (by simp) _)
    go_enter Try.func15, Try.ntmps15
    go_wp2_with (refine wpList_load_row (by rfl) 27 _ (by rfl) w.heap.size (by rfl) [.int .i64 r, .string b, .bool true, .bool k, .int .i64 r2, .string b2, .bool e2, .bool k2, .int .i64 wt, .int .i64 cm] _ 27 RX Try.underlying27 rfl (by kernel_rfl) ?_)
    clear hW
    have hok := specTunnelOk ⟨⟨r, b, true, k⟩, ⟨r2, b2, e2, k2⟩, wt, cm⟩ W h1 h2
    rw [hk] at hok
    refine hok.mono ?_; clear hok; rintro x w1 ⟨rfl, hb⟩
    replace RX := RX.new hb
    replace RY := RY.new hb
    replace HB := bchain HB hb
    clear hb
    go_wp2_with fail
    refine (specL16In_e r b k r2 b2 e2 k2 wt cm s fin _ _ RX).mono ?_; rintro x w2 ⟨rfl, hw2⟩
    have hb : Below w1.heap.size w1 w2 := by rw [hw2]; exact bo_drewN 1 (Below.refl _ _)
    clear hw2
    replace RX := RX.new hb
    replace RY := RY.new hb
    replace HB := bchain HB hb
    clear hb
    go_wp2_with (first | (refine wpList_load_row (by rfl) 27 _ (by rfl) w.heap.size (by rfl) [.int .i64 r, .string b, .bool true, .bool k, .int .i64 r2, .string b2, .bool e2, .bool k2, .int .i64 wt, .int .i64 cm] _ 27 RX Try.underlying27 rfl (by kernel_rfl) ?_) | (refine wpList_store_row (by rfl) 27 _ _ (by rfl) (w.heap.size + 1) [.int .i64 r, .string b, .bool true, .bool k, .int .i64 r2, .string b2, .bool e2, .bool k2, .int .i64 wt, .int .i64 cm] (by rfl) (by rfl) 27 [.int .i64 0, .string ⟨#[]⟩, .bool false, .bool false, .int .i64 0, .string ⟨#[]⟩, .bool false, .bool false, .int .i64 0, .int .i64 0] RY (by kernel_rfl) rfl (by intro u hu; simp at hu; rcases hu with rfl | rfl | rfl | rfl | rfl | rfl | rfl | rfl | rfl | rfl <;> rfl) ?_))
    have NRX := RX.kept (setRow_other w2 (w.heap.size + 1) #[.int .i64 r, .string b, .bool true, .bool k, .int .i64 r2, .string b2, .bool e2, .bool k2, .int .i64 wt, .int .i64 cm] w.heap.size (by omega))
    have NRY : RowIs (w2.setRow (w.heap.size + 1) #[.int .i64 r, .string b, .bool true, .bool k, .int .i64 r2, .string b2, .bool e2, .bool k2, .int .i64 wt, .int .i64 cm]) (w.heap.size + 1) 27 [.int .i64 r, .string b, .bool true, .bool k, .int .i64 r2, .string b2, .bool e2, .bool k2, .int .i64 wt, .int .i64 cm] := rowIs_setRow (cs' := [.int .i64 r, .string b, .bool true, .bool k, .int .i64 r2, .string b2, .bool e2, .bool k2, .int .i64 wt, .int .i64 cm]) RY
    have NHB := below_setRow HB (show w.heap.size ≤ (w.heap.size + 1) by omega) #[.int .i64 r, .string b, .bool true, .bool k, .int .i64 r2, .string b2, .bool e2, .bool k2, .int .i64 wt, .int .i64 cm]
    generalize hV : w2.setRow (w.heap.size + 1) #[.int .i64 r, .string b, .bool true, .bool k, .int .i64 r2, .string b2, .bool e2, .bool k2, .int .i64 wt, .int .i64 cm] = V3 at *
    clear hV
    clear RX
    have RX := NRX
    clear NRX
    clear RY
    have RY := NRY
    clear NRY
    clear HB
    have HB := NHB
    clear NHB
    have y0 := RowIs.cell (j := 0) RY rfl
    have y1 := RowIs.cell (j := 1) RY rfl
    have y2 := RowIs.cell (j := 2) RY rfl
    have y3 := RowIs.cell (j := 3) RY rfl
    have y4 := RowIs.cell (j := 4) RY rfl
    have y5 := RowIs.cell (j := 5) RY rfl
    have y6 := RowIs.cell (j := 6) RY rfl
    have y7 := RowIs.cell (j := 7) RY rfl
    have y8 := RowIs.cell (j := 8) RY rfl
    have y9 := RowIs.cell (j := 9) RY rfl
    have yf := fun j => RowIs.frozen RY j
    have yl := RY.lt
    refine bodyPost_ret (v := .tuple #[.agg #[.int .i64 r, .string b, .bool true, .bool k, .int .i64 r2, .string b2, .bool e2, .bool k2, .int .i64 wt, .int .i64 cm], .bool false]) (by simp [results, Try.results15, go_sem, *]) rfl ?_
    exact ⟨rfl, HB⟩
  subst he
  cases hkk : k
  rotate_left
  · subst hkk
    have hv : inTu ⟨⟨r, b, false, true⟩, ⟨r2, b2, e2, k2⟩, wt, cm⟩ s fin = (⟨⟨r, b, false, true⟩, ⟨r2, b2, e2, k2⟩, wt, cm⟩, false) := by unfold inTu; rw [if_neg hnk, if_pos (.inr (.inl rfl))]
    rw [hv]
    dsimp only
    obtain ⟨W, hW⟩ : ∃ W, (w.alloc (.cells #[.int .i64 r, .string b, .bool false, .bool true, .int .i64 r2, .string b2, .bool e2, .bool k2, .int .i64 wt, .int .i64 cm] 27)).alloc (.cells #[.int .i64 0, .string ⟨#[]⟩, .bool false, .bool false, .int .i64 0, .string ⟨#[]⟩, .bool false, .bool false, .int .i64 0, .int .i64 0] 27) = W := ⟨_, rfl⟩
    have RX : RowIs W w.heap.size 27 [.int .i64 r, .string b, .bool false, .bool true, .int .i64 r2, .string b2, .bool e2, .bool k2, .int .i64 wt, .int .i64 cm] := by rw [← hW]; exact (rowIs_new w 27 [.int .i64 r, .string b, .bool false, .bool true, .int .i64 r2, .string b2, .bool e2, .bool k2, .int .i64 wt, .int .i64 cm]).alloc _
    have RY : RowIs W (w.heap.size + 1) 27 [.int .i64 0, .string ⟨#[]⟩, .bool false, .bool false, .int .i64 0, .string ⟨#[]⟩, .bool false, .bool false, .int .i64 0, .int .i64 0] := by have := rowIs_new (w.alloc (.cells #[.int .i64 r, .string b, .bool false, .bool true, .int .i64 r2, .string b2, .bool e2, .bool k2, .int .i64 wt, .int .i64 cm] 27)) 27 [.int .i64 0, .string ⟨#[]⟩, .bool false, .bool false, .int .i64 0, .string ⟨#[]⟩, .bool false, .bool false, .int .i64 0, .int .i64 0]; rw [hW] at this; simpa using this
    have HB : Below w.heap.size w W := by rw [← hW]; exact (((Below.refl _ _).alloc (Nat.le_refl _) _).alloc (by simp) _)
    go_enter Try.func15, Try.ntmps15
    go_wp2_with (refine wpList_load_row (by rfl) 27 _ (by rfl) w.heap.size (by rfl) [.int .i64 r, .string b, .bool false, .bool true, .int .i64 r2, .string b2, .bool e2, .bool k2, .int .i64 wt, .int .i64 cm] _ 27 RX Try.underlying27 rfl (by kernel_rfl) ?_)
    clear hW
    have hok := specTunnelOk ⟨⟨r, b, false, true⟩, ⟨r2, b2, e2, k2⟩, wt, cm⟩ W h1 h2
    rw [hk] at hok
    refine hok.mono ?_; clear hok; rintro x w1 ⟨rfl, hb⟩
    replace RX := RX.new hb
    replace RY := RY.new hb
    replace HB := bchain HB hb
    clear hb
    go_wp2_with fail
    refine (specL16In_k r b r2 b2 e2 k2 wt cm s fin _ _ RX).mono ?_; rintro x w2 ⟨rfl, hw2⟩
    have hb : Below w1.heap.size w1 w2 := by rw [hw2]; exact bo_drewN 1 (Below.refl _ _)
    clear hw2
    replace RX := RX.new hb
    replace RY := RY.new hb
    replace HB := bchain HB hb
    clear hb
    go_wp2_with (first | (refine wpList_load_row (by rfl) 27 _ (by rfl) w.heap.size (by rfl) [.int .i64 r, .string b, .bool false, .bool true, .int .i64 r2, .string b2, .bool e2, .bool k2, .int .i64 wt, .int .i64 cm] _ 27 RX Try.underlying27 rfl (by kernel_rfl) ?_) | (refine wpList_store_row (by rfl) 27 _ _ (by rfl) (w.heap.size + 1) [.int .i64 r, .string b, .bool false, .bool true, .int .i64 r2, .string b2, .bool e2, .bool k2, .int .i64 wt, .int .i64 cm] (by rfl) (by rfl) 27 [.int .i64 0, .string ⟨#[]⟩, .bool false, .bool false, .int .i64 0, .string ⟨#[]⟩, .bool false, .bool false, .int .i64 0, .int .i64 0] RY (by kernel_rfl) rfl (by intro u hu; simp at hu; rcases hu with rfl | rfl | rfl | rfl | rfl | rfl | rfl | rfl | rfl | rfl <;> rfl) ?_))
    have NRX := RX.kept (setRow_other w2 (w.heap.size + 1) #[.int .i64 r, .string b, .bool false, .bool true, .int .i64 r2, .string b2, .bool e2, .bool k2, .int .i64 wt, .int .i64 cm] w.heap.size (by omega))
    have NRY : RowIs (w2.setRow (w.heap.size + 1) #[.int .i64 r, .string b, .bool false, .bool true, .int .i64 r2, .string b2, .bool e2, .bool k2, .int .i64 wt, .int .i64 cm]) (w.heap.size + 1) 27 [.int .i64 r, .string b, .bool false, .bool true, .int .i64 r2, .string b2, .bool e2, .bool k2, .int .i64 wt, .int .i64 cm] := rowIs_setRow (cs' := [.int .i64 r, .string b, .bool false, .bool true, .int .i64 r2, .string b2, .bool e2, .bool k2, .int .i64 wt, .int .i64 cm]) RY
    have NHB := below_setRow HB (show w.heap.size ≤ (w.heap.size + 1) by omega) #[.int .i64 r, .string b, .bool false, .bool true, .int .i64 r2, .string b2, .bool e2, .bool k2, .int .i64 wt, .int .i64 cm]
    generalize hV : w2.setRow (w.heap.size + 1) #[.int .i64 r, .string b, .bool false, .bool true, .int .i64 r2, .string b2, .bool e2, .bool k2, .int .i64 wt, .int .i64 cm] = V3 at *
    clear hV
    clear RX
    have RX := NRX
    clear NRX
    clear RY
    have RY := NRY
    clear NRY
    clear HB
    have HB := NHB
    clear NHB
    have y0 := RowIs.cell (j := 0) RY rfl
    have y1 := RowIs.cell (j := 1) RY rfl
    have y2 := RowIs.cell (j := 2) RY rfl
    have y3 := RowIs.cell (j := 3) RY rfl
    have y4 := RowIs.cell (j := 4) RY rfl
    have y5 := RowIs.cell (j := 5) RY rfl
    have y6 := RowIs.cell (j := 6) RY rfl
    have y7 := RowIs.cell (j := 7) RY rfl
    have y8 := RowIs.cell (j := 8) RY rfl
    have y9 := RowIs.cell (j := 9) RY rfl
    have yf := fun j => RowIs.frozen RY j
    have yl := RY.lt
    refine bodyPost_ret (v := .tuple #[.agg #[.int .i64 r, .string b, .bool false, .bool true, .int .i64 r2, .string b2, .bool e2, .bool k2, .int .i64 wt, .int .i64 cm], .bool false]) (by simp [results, Try.results15, go_sem, *]) rfl ?_
    exact ⟨rfl, HB⟩
  subst hkk
  by_cases hno : r - (b.size : Int) < s.size
  · have hv : inTu ⟨⟨r, b, false, false⟩, ⟨r2, b2, e2, k2⟩, wt, cm⟩ s fin = (⟨⟨r, b, false, false⟩, ⟨r2, b2, e2, k2⟩, wt, cm⟩, false) := by unfold inTu; rw [if_neg hnk, if_pos (.inr (.inr hno))]
    rw [hv]
    dsimp only
    obtain ⟨W, hW⟩ : ∃ W, (w.alloc (.cells #[.int .i64 r, .string b, .bool false, .bool false, .int .i64 r2, .string b2, .bool e2, .bool k2, .int .i64 wt, .int .i64 cm] 27)).alloc (.cells #[.int .i64 0, .string ⟨#[]⟩, .bool false, .bool false, .int .i64 0, .string ⟨#[]⟩, .bool false, .bool false, .int .i64 0, .int .i64 0] 27) = W := ⟨_, rfl⟩
    have RX : RowIs W w.heap.size 27 [.int .i64 r, .string b, .bool false, .bool false, .int .i64 r2, .string b2, .bool e2, .bool k2, .int .i64 wt, .int .i64 cm] := by rw [← hW]; exact (rowIs_new w 27 [.int .i64 r, .string b, .bool false, .bool false, .int .i64 r2, .string b2, .bool e2, .bool k2, .int .i64 wt, .int .i64 cm]).alloc _
    have RY : RowIs W (w.heap.size + 1) 27 [.int .i64 0, .string ⟨#[]⟩, .bool false, .bool false, .int .i64 0, .string ⟨#[]⟩, .bool false, .bool false, .int .i64 0, .int .i64 0] := by have := rowIs_new (w.alloc (.cells #[.int .i64 r, .string b, .bool false, .bool false, .int .i64 r2, .string b2, .bool e2, .bool k2, .int .i64 wt, .int .i64 cm] 27)) 27 [.int .i64 0, .string ⟨#[]⟩, .bool false, .bool false, .int .i64 0, .string ⟨#[]⟩, .bool false, .bool false, .int .i64 0, .int .i64 0]; rw [hW] at this; simpa using this
    have HB : Below w.heap.size w W := by rw [← hW]; exact (((Below.refl _ _).alloc (Nat.le_refl _) _).alloc (by simp) _)
    go_enter Try.func15, Try.ntmps15
    go_wp2_with (refine wpList_load_row (by rfl) 27 _ (by rfl) w.heap.size (by rfl) [.int .i64 r, .string b, .bool false, .bool false, .int .i64 r2, .string b2, .bool e2, .bool k2, .int .i64 wt, .int .i64 cm] _ 27 RX Try.underlying27 rfl (by kernel_rfl) ?_)
    clear hW
    have hok := specTunnelOk ⟨⟨r, b, false, false⟩, ⟨r2, b2, e2, k2⟩, wt, cm⟩ W h1 h2
    rw [hk] at hok
    refine hok.mono ?_; clear hok; rintro x w1 ⟨rfl, hb⟩
    replace RX := RX.new hb
    replace RY := RY.new hb
    replace HB := bchain HB hb
    clear hb
    go_wp2_with fail
    refine (specL16In_room r b r2 b2 e2 k2 wt cm s fin _ _ RX (by omega) (by omega) (by omega) (by unfold maxLen; omega) hno).mono ?_; rintro x w2 ⟨rfl, hw2⟩
    have hb : Below w1.heap.size w1 w2 := by rw [hw2]; exact bo_drewN 1 (Below.refl _ _)
    clear hw2
    replace RX := RX.new hb
    replace RY := RY.new hb
    replace HB := bchain HB hb
    clear hb
    go_wp2_with (first | (refine wpList_load_row (by rfl) 27 _ (by rfl) w.heap.size (by rfl) [.int .i64 r, .string b, .bool false, .bool false, .int .i64 r2, .string b2, .bool e2, .bool k2, .int .i64 wt, .int .i64 cm] _ 27 RX Try.underlying27 rfl (by kernel_rfl) ?_) | (refine wpList_store_row (by rfl) 27 _ _ (by rfl) (w.heap.size + 1) [.int .i64 r, .string b, .bool false, .bool false, .int .i64 r2, .string b2, .bool e2, .bool k2, .int .i64 wt, .int .i64 cm] (by rfl) (by rfl) 27 [.int .i64 0, .string ⟨#[]⟩, .bool false, .bool false, .int .i64 0, .string ⟨#[]⟩, .bool false, .bool false, .int .i64 0, .int .i64 0] RY (by kernel_rfl) rfl (by intro u hu; simp at hu; rcases hu with rfl | rfl | rfl | rfl | rfl | rfl | rfl | rfl | rfl | rfl <;> rfl) ?_))
    have NRX := RX.kept (setRow_other w2 (w.heap.size + 1) #[.int .i64 r, .string b, .bool false, .bool false, .int .i64 r2, .string b2, .bool e2, .bool k2, .int .i64 wt, .int .i64 cm] w.heap.size (by omega))
    have NRY : RowIs (w2.setRow (w.heap.size + 1) #[.int .i64 r, .string b, .bool false, .bool false, .int .i64 r2, .string b2, .bool e2, .bool k2, .int .i64 wt, .int .i64 cm]) (w.heap.size + 1) 27 [.int .i64 r, .string b, .bool false, .bool false, .int .i64 r2, .string b2, .bool e2, .bool k2, .int .i64 wt, .int .i64 cm] := rowIs_setRow (cs' := [.int .i64 r, .string b, .bool false, .bool false, .int .i64 r2, .string b2, .bool e2, .bool k2, .int .i64 wt, .int .i64 cm]) RY
    have NHB := below_setRow HB (show w.heap.size ≤ (w.heap.size + 1) by omega) #[.int .i64 r, .string b, .bool false, .bool false, .int .i64 r2, .string b2, .bool e2, .bool k2, .int .i64 wt, .int .i64 cm]
    generalize hV : w2.setRow (w.heap.size + 1) #[.int .i64 r, .string b, .bool false, .bool false, .int .i64 r2, .string b2, .bool e2, .bool k2, .int .i64 wt, .int .i64 cm] = V3 at *
    clear hV
    clear RX
    have RX := NRX
    clear NRX
    clear RY
    have RY := NRY
    clear NRY
    clear HB
    have HB := NHB
    clear NHB
    have y0 := RowIs.cell (j := 0) RY rfl
    have y1 := RowIs.cell (j := 1) RY rfl
    have y2 := RowIs.cell (j := 2) RY rfl
    have y3 := RowIs.cell (j := 3) RY rfl
    have y4 := RowIs.cell (j := 4) RY rfl
    have y5 := RowIs.cell (j := 5) RY rfl
    have y6 := RowIs.cell (j := 6) RY rfl
    have y7 := RowIs.cell (j := 7) RY rfl
    have y8 := RowIs.cell (j := 8) RY rfl
    have y9 := RowIs.cell (j := 9) RY rfl
    have yf := fun j => RowIs.frozen RY j
    have yl := RY.lt
    refine bodyPost_ret (v := .tuple #[.agg #[.int .i64 r, .string b, .bool false, .bool false, .int .i64 r2, .string b2, .bool e2, .bool k2, .int .i64 wt, .int .i64 cm], .bool false]) (by simp [results, Try.results15, go_sem, *]) rfl ?_
    exact ⟨rfl, HB⟩
  have hv : inTu ⟨⟨r, b, false, false⟩, ⟨r2, b2, e2, k2⟩, wt, cm⟩ s fin = (⟨⟨r, b ++ s, fin, false⟩, ⟨r2, b2, e2, k2⟩, wt, cm⟩, true) := by unfold inTu; rw [if_neg hnk, if_neg (by simp; omega)]
  rw [hv]
  dsimp only
  obtain ⟨W, hW⟩ : ∃ W, (w.alloc (.cells #[.int .i64 r, .string b, .bool false, .bool false, .int .i64 r2, .string b2, .bool e2, .bool k2, .int .i64 wt, .int .i64 cm] 27)).alloc (.cells #[.int .i64 0, .string ⟨#[]⟩, .bool false, .bool false, .int .i64 0, .string ⟨#[]⟩, .bool false, .bool false, .int .i64 0, .int .i64 0] 27) = W := ⟨_, rfl⟩
  have RX : RowIs W w.heap.size 27 [.int .i64 r, .string b, .bool false, .bool false, .int .i64 r2, .string b2, .bool e2, .bool k2, .int .i64 wt, .int .i64 cm] := by rw [← hW]; exact (rowIs_new w 27 [.int .i64 r, .string b, .bool false, .bool false, .int .i64 r2, .string b2, .bool e2, .bool k2, .int .i64 wt, .int .i64 cm]).alloc _
  have RY : RowIs W (w.heap.size + 1) 27 [.int .i64 0, .string ⟨#[]⟩, .bool false, .bool false, .int .i64 0, .string ⟨#[]⟩, .bool false, .bool false, .int .i64 0, .int .i64 0] := by have := rowIs_new (w.alloc (.cells #[.int .i64 r, .string b, .bool false, .bool false, .int .i64 r2, .string b2, .bool e2, .bool k2, .int .i64 wt, .int .i64 cm] 27)) 27 [.int .i64 0, .string ⟨#[]⟩, .bool false, .bool false, .int .i64 0, .string ⟨#[]⟩, .bool false, .bool false, .int .i64 0, .int .i64 0]; rw [hW] at this; simpa using this
  have HB : Below w.heap.size w W := by rw [← hW]; exact (((Below.refl _ _).alloc (Nat.le_refl _) _).alloc (by simp) _)
  go_enter Try.func15, Try.ntmps15
  go_wp2_with (refine wpList_load_row (by rfl) 27 _ (by rfl) w.heap.size (by rfl) [.int .i64 r, .string b, .bool false, .bool false, .int .i64 r2, .string b2, .bool e2, .bool k2, .int .i64 wt, .int .i64 cm] _ 27 RX Try.underlying27 rfl (by kernel_rfl) ?_)
  clear hW
  have hok := specTunnelOk ⟨⟨r, b, false, false⟩, ⟨r2, b2, e2, k2⟩, wt, cm⟩ W h1 h2
  rw [hk] at hok
  refine hok.mono ?_; clear hok; rintro x w1 ⟨rfl, hb⟩
  replace RX := RX.new hb
  replace RY := RY.new hb
  replace HB := bchain HB hb
  clear hb
  go_wp2_with fail
  refine (specL16In_yes r b r2 b2 e2 k2 wt cm s fin _ _ RX (by omega) (by omega) hs (by omega)).mono ?_; rintro x w2 ⟨rfl, hr, ht⟩
  replace RY := RY.kept (ht.block _ RY.lt (by omega))
  replace HB := HB.trans (ht.below (Nat.le_refl _) HB.size)
  clear RX ht
  have RX := hr
  clear hr
  go_wp2_with (first | (refine wpList_load_row (by rfl) 27 _ (by rfl) w.heap.size (by rfl) [.int .i64 r, .string (b ++ s), .bool fin, .bool false, .int .i64 r2, .string b2, .bool e2, .bool k2, .int .i64 wt, .int .i64 cm] _ 27 RX Try.underlying27 rfl (by kernel_rfl) ?_) | (refine wpList_store_row (by rfl) 27 _ _ (by rfl) (w.heap.size + 1) [.int .i64 r, .string (b ++ s), .bool fin, .bool false, .int .i64 r2, .string b2, .bool e2, .bool k2, .int .i64 wt, .int .i64 cm] (by rfl) (by rfl) 27 [.int .i64 0, .string ⟨#[]⟩, .bool false, .bool false, .int .i64 0, .string ⟨#[]⟩, .bool false, .bool false, .int .i64 0, .int .i64 0] RY (by kernel_rfl) rfl (by intro u hu; simp at hu; rcases hu with rfl | rfl | rfl | rfl | rfl | rfl | rfl | rfl | rfl | rfl <;> rfl) ?_))
  have NRX := RX.kept (setRow_other w2 (w.heap.size + 1) #[.int .i64 r, .string (b ++ s), .bool fin, .bool false, .int .i64 r2, .string b2, .bool e2, .bool k2, .int .i64 wt, .int .i64 cm] w.heap.size (by omega))
  have NRY : RowIs (w2.setRow (w.heap.size + 1) #[.int .i64 r, .string (b ++ s), .bool fin, .bool false, .int .i64 r2, .string b2, .bool e2, .bool k2, .int .i64 wt, .int .i64 cm]) (w.heap.size + 1) 27 [.int .i64 r, .string (b ++ s), .bool fin, .bool false, .int .i64 r2, .string b2, .bool e2, .bool k2, .int .i64 wt, .int .i64 cm] := rowIs_setRow (cs' := [.int .i64 r, .string (b ++ s), .bool fin, .bool false, .int .i64 r2, .string b2, .bool e2, .bool k2, .int .i64 wt, .int .i64 cm]) RY
  have NHB := below_setRow HB (show w.heap.size ≤ (w.heap.size + 1) by omega) #[.int .i64 r, .string (b ++ s), .bool fin, .bool false, .int .i64 r2, .string b2, .bool e2, .bool k2, .int .i64 wt, .int .i64 cm]
  generalize hV : w2.setRow (w.heap.size + 1) #[.int .i64 r, .string (b ++ s), .bool fin, .bool false, .int .i64 r2, .string b2, .bool e2, .bool k2, .int .i64 wt, .int .i64 cm] = V3 at *
  clear hV
  clear RX
  have RX := NRX
  clear NRX
  clear RY
  have RY := NRY
  clear NRY
  clear HB
  have HB := NHB
  clear NHB
  have y0 := RowIs.cell (j := 0) RY rfl
  have y1 := RowIs.cell (j := 1) RY rfl
  have y2 := RowIs.cell (j := 2) RY rfl
  have y3 := RowIs.cell (j := 3) RY rfl
  have y4 := RowIs.cell (j := 4) RY rfl
  have y5 := RowIs.cell (j := 5) RY rfl
  have y6 := RowIs.cell (j := 6) RY rfl
  have y7 := RowIs.cell (j := 7) RY rfl
  have y8 := RowIs.cell (j := 8) RY rfl
  have y9 := RowIs.cell (j := 9) RY rfl
  have yf := fun j => RowIs.frozen RY j
  have yl := RY.lt
  refine bodyPost_ret (v := .tuple #[.agg #[.int .i64 r, .string (b ++ s), .bool fin, .bool false, .int .i64 r2, .string b2, .bool e2, .bool k2, .int .i64 wt, .int .i64 cm], .bool true]) (by simp [results, Try.results15, go_sem, *]) rfl ?_
  exact ⟨rfl, HB⟩
set_option maxHeartbeats 2000000 in
theorem specOut (t : TuD) (n : Int) (w : World) (h1 : t.up.b.size ≤ maxLen) (h2 : t.dn.b.size ≤ maxLen) : Calls Try.prog 22 #[tuv t, .int .i64 n] w fun x w' => x = .returned (.tuple #[tuv (outTu t n).1, .string (outTu t n).2]) ∧ Below w.heap.size w w' := by
  obtain ⟨⟨r, b, e, k⟩, ⟨r2, b2, e2, k2⟩, wt, cm⟩ := t
  dsimp only [tuv] at *
  cases hk : okTu ⟨⟨r, b, e, k⟩, ⟨r2, b2, e2, k2⟩, wt, cm⟩
  · have hv : outTu ⟨⟨r, b, e, k⟩, ⟨r2, b2, e2, k2⟩, wt, cm⟩ n = (zTu, ⟨#[]⟩) := by unfold outTu; rw [if_pos hk]
    rw [hv]
    dsimp only [zTu, zPp]
    obtain ⟨W, hW⟩ : ∃ W, (w.alloc (.cells #[.int .i64 r, .string b, .bool e, .bool k, .int .i64 r2, .string b2, .bool e2, .bool k2, .int .i64 wt, .int .i64 cm] 27)).alloc (.cells #[.int .i64 0, .string ⟨#[]⟩, .bool false, .bool false, .int .i64 0, .string ⟨#[]⟩, .bool false, .bool false, .int .i64 0, .int .i64 0] 27) = W := ⟨_, rfl⟩
    have RX : RowIs W w.heap.size 27 [.int .i64 r, .string b, .bool e, .bool k, .int .i64 r2, .string b2, .bool e2, .bool k2, .int .i64 wt, .int .i64 cm] := by rw [← hW]; exact (rowIs_new w 27 [.int .i64 r, .string b, .bool e, .bool k, .int .i64 r2, .string b2, .bool e2, .bool k2, .int .i64 wt, .int .i64 cm]).alloc _
    have RY : RowIs W (w.heap.size + 1) 27 [.int .i64 0, .string ⟨#[]⟩, .bool false, .bool false, .int .i64 0, .string ⟨#[]⟩, .bool false, .bool false, .int .i64 0, .int .i64 0] := by have := rowIs_new (w.alloc (.cells #[.int .i64 r, .string b, .bool e, .bool k, .int .i64 r2, .string b2, .bool e2, .bool k2, .int .i64 wt, .int .i64 cm] 27)) 27 [.int .i64 0, .string ⟨#[]⟩, .bool false, .bool false, .int .i64 0, .string ⟨#[]⟩, .bool false, .bool false, .int .i64 0, .int .i64 0]; rw [hW] at this; simpa using this
    have HB : Below w.heap.size w W := by rw [← hW]; exact (((Below.refl _ _).alloc (Nat.le_refl _) _).alloc (by simp) _)
    go_enter Try.func22, Try.ntmps22
    go_wp2_with (refine wpList_load_row (by rfl) 27 _ (by rfl) w.heap.size (by rfl) [.int .i64 r, .string b, .bool e, .bool k, .int .i64 r2, .string b2, .bool e2, .bool k2, .int .i64 wt, .int .i64 cm] _ 27 RX Try.underlying27 rfl (by kernel_rfl) ?_)
    clear hW
    have hok := specTunnelOk ⟨⟨r, b, e, k⟩, ⟨r2, b2, e2, k2⟩, wt, cm⟩ W h1 h2
    rw [hk] at hok
    refine hok.mono ?_; clear hok; rintro x w1 ⟨rfl, hb⟩
    replace RX := RX.new hb
    replace RY := RY.new hb
    replace HB := bchain HB hb
    clear hb
    go_wp2_with (refine wpList_store_row (by rfl) 27 _ _ (by rfl) (w.heap.size + 1) [.int .i64 0, .string ⟨#[]⟩, .bool false, .bool false, .int .i64 0, .string ⟨#[]⟩, .bool false, .bool false, .int .i64 0, .int .i64 0] (by rfl) (by rfl) 27 [.int .i64 0, .string ⟨#[]⟩, .bool false, .bool false, .int .i64 0, .string ⟨#[]⟩, .bool false, .bool false, .int .i64 0, .int .i64 0] RY (by kernel_rfl) rfl (by intro u hu; simp at hu; rcases hu with rfl | rfl | rfl | rfl | rfl | rfl | rfl | rfl | rfl | rfl <;> rfl) ?_)
    have NRX := RX.kept (setRow_other w1 (w.heap.size + 1) #[.int .i64 0, .string ⟨#[]⟩, .bool false, .bool false, .int .i64 0, .string ⟨#[]⟩, .bool false, .bool false, .int .i64 0, .int .i64 0] w.heap.size (by omega))
    have NRY : RowIs (w1.setRow (w.heap.size + 1) #[.int .i64 0, .string ⟨#[]⟩, .bool false, .bool false, .int .i64 0, .string ⟨#[]⟩, .bool false, .bool false, .int .i64 0, .int .i64 0]) (w.heap.size + 1) 27 [.int .i64 0, .string ⟨#[]⟩, .bool false, .bool false, .int .i64 0, .string ⟨#[]⟩, .bool false, .bool false, .int .i64 0, .int .i64 0] := rowIs_setRow (cs' := [.int .i64 0, .string ⟨#[]⟩, .bool false, .bool false, .int .i64 0, .string ⟨#[]⟩, .bool false, .bool false, .int .i64 0, .int .i64 0]) RY
    have NHB := below_setRow HB (show w.heap.size ≤ (w.heap.size + 1) by omega) #[.int .i64 0, .string ⟨#[]⟩, .bool false, .bool false, .int .i64 0, .string ⟨#[]⟩, .bool false, .bool false, .int .i64 0, .int .i64 0]
    generalize hV : w1.setRow (w.heap.size + 1) #[.int .i64 0, .string ⟨#[]⟩, .bool false, .bool false, .int .i64 0, .string ⟨#[]⟩, .bool false, .bool false, .int .i64 0, .int .i64 0] = V2 at *
    clear hV
    clear RX
    have RX := NRX
    clear NRX
    clear RY
    have RY := NRY
    clear NRY
    clear HB
    have HB := NHB
    clear NHB
    have y0 := RowIs.cell (j := 0) RY rfl
    have y1 := RowIs.cell (j := 1) RY rfl
    have y2 := RowIs.cell (j := 2) RY rfl
    have y3 := RowIs.cell (j := 3) RY rfl
    have y4 := RowIs.cell (j := 4) RY rfl
    have y5 := RowIs.cell (j := 5) RY rfl
    have y6 := RowIs.cell (j := 6) RY rfl
    have y7 := RowIs.cell (j := 7) RY rfl
    have y8 := RowIs.cell (j := 8) RY rfl
    have y9 := RowIs.cell (j := 9) RY rfl
    have yf := fun j => RowIs.frozen RY j
    have yl := RY.lt
    refine bodyPost_ret (v := .tuple #[.agg #[.int .i64 0, .string ⟨#[]⟩, .bool false, .bool false, .int .i64 0, .string ⟨#[]⟩, .bool false, .bool false, .int .i64 0, .int .i64 0], .string ⟨#[]⟩]) (by simp [results, Try.results22, go_sem, *]) rfl ?_
    exact ⟨rfl, HB⟩
  obtain ⟨hu, hd, ⟨hw0, hw1⟩, hc0, hc1⟩ := okTu_true hk
  obtain ⟨q1, q2, q3, q4⟩ := okPp_true hu
  dsimp only at q1 q2 q3 hw0 hw1
  have hnk : ¬ okTu ⟨⟨r, b, e, k⟩, ⟨r2, b2, e2, k2⟩, wt, cm⟩ = false := by rw [hk]; decide
  obtain ⟨m, hm⟩ : ∃ m : Nat, (max 0 (min (min n (1000000 - wt)) (b.size : Int))).toNat = m := ⟨_, rfl⟩
  have hv : outTu ⟨⟨r, b, e, k⟩, ⟨r2, b2, e2, k2⟩, wt, cm⟩ n = (⟨⟨r, b.extract m b.size, e, k⟩, ⟨r2, b2, e2, k2⟩, wt + m, cm⟩, b.extract 0 m) := by unfold outTu outN; rw [if_neg hnk]; dsimp only; rw [hm]
  rw [hv]
  dsimp only
  obtain ⟨W, hW⟩ : ∃ W, (w.alloc (.cells #[.int .i64 r, .string b, .bool e, .bool k, .int .i64 r2, .string b2, .bool e2, .bool k2, .int .i64 wt, .int .i64 cm] 27)).alloc (.cells #[.int .i64 0, .string ⟨#[]⟩, .bool false, .bool false, .int .i64 0, .string ⟨#[]⟩, .bool false, .bool false, .int .i64 0, .int .i64 0] 27) = W := ⟨_, rfl⟩
  have RX : RowIs W w.heap.size 27 [.int .i64 r, .string b, .bool e, .bool k, .int .i64 r2, .string b2, .bool e2, .bool k2, .int .i64 wt, .int .i64 cm] := by rw [← hW]; exact (rowIs_new w 27 [.int .i64 r, .string b, .bool e, .bool k, .int .i64 r2, .string b2, .bool e2, .bool k2, .int .i64 wt, .int .i64 cm]).alloc _
  have RY : RowIs W (w.heap.size + 1) 27 [.int .i64 0, .string ⟨#[]⟩, .bool false, .bool false, .int .i64 0, .string ⟨#[]⟩, .bool false, .bool false, .int .i64 0, .int .i64 0] := by have := rowIs_new (w.alloc (.cells #[.int .i64 r, .string b, .bool e, .bool k, .int .i64 r2, .string b2, .bool e2, .bool k2, .int .i64 wt, .int .i64 cm] 27)) 27 [.int .i64 0, .string ⟨#[]⟩, .bool false, .bool false, .int .i64 0, .string ⟨#[]⟩, .bool false, .bool false, .int .i64 0, .int .i64 0]; rw [hW] at this; simpa using this
  have HB : Below w.heap.size w W := by rw [← hW]; exact (((Below.refl _ _).alloc (Nat.le_refl _) _).alloc (by simp) _)
  go_enter Try.func22, Try.ntmps22
  go_wp2_with (refine wpList_load_row (by rfl) 27 _ (by rfl) w.heap.size (by rfl) [.int .i64 r, .string b, .bool e, .bool k, .int .i64 r2, .string b2, .bool e2, .bool k2, .int .i64 wt, .int .i64 cm] _ 27 RX Try.underlying27 rfl (by kernel_rfl) ?_)
  clear hW
  have hok := specTunnelOk ⟨⟨r, b, e, k⟩, ⟨r2, b2, e2, k2⟩, wt, cm⟩ W h1 h2
  rw [hk] at hok
  refine hok.mono ?_; clear hok; rintro x w1 ⟨rfl, hb⟩
  replace RX := RX.new hb
  replace RY := RY.new hb
  replace HB := bchain HB hb
  clear hb
  have hpo := specL16Out r b e k r2 b2 e2 k2 wt cm n _ _ RX h1 (by omega) hw0 hw1
  rw [hm] at hpo
  go_wp2_with fail
  refine hpo.mono ?_; clear hpo; rintro x w2 ⟨rfl, hr, ht⟩
  replace RY := RY.kept (ht.block _ RY.lt (by omega))
  replace HB := HB.trans (ht.below (Nat.le_refl _) HB.size)
  clear RX ht
  have RX := hr
  clear hr
  go_wp2_with (first | (refine wpList_load_row (by rfl) 27 _ (by rfl) w.heap.size (by rfl) [.int .i64 r, .string (b.extract m b.size), .bool e, .bool k, .int .i64 r2, .string b2, .bool e2, .bool k2, .int .i64 (wt + (m : Int)), .int .i64 cm] _ 27 RX Try.underlying27 rfl (by kernel_rfl) ?_) | (refine wpList_store_row (by rfl) 27 _ _ (by rfl) (w.heap.size + 1) [.int .i64 r, .string (b.extract m b.size), .bool e, .bool k, .int .i64 r2, .string b2, .bool e2, .bool k2, .int .i64 (wt + (m : Int)), .int .i64 cm] (by rfl) (by rfl) 27 [.int .i64 0, .string ⟨#[]⟩, .bool false, .bool false, .int .i64 0, .string ⟨#[]⟩, .bool false, .bool false, .int .i64 0, .int .i64 0] RY (by kernel_rfl) rfl (by intro u hu; simp at hu; rcases hu with rfl | rfl | rfl | rfl | rfl | rfl | rfl | rfl | rfl | rfl <;> rfl) ?_))
  have NRX := RX.kept (setRow_other w2 (w.heap.size + 1) #[.int .i64 r, .string (b.extract m b.size), .bool e, .bool k, .int .i64 r2, .string b2, .bool e2, .bool k2, .int .i64 (wt + (m : Int)), .int .i64 cm] w.heap.size (by omega))
  have NRY : RowIs (w2.setRow (w.heap.size + 1) #[.int .i64 r, .string (b.extract m b.size), .bool e, .bool k, .int .i64 r2, .string b2, .bool e2, .bool k2, .int .i64 (wt + (m : Int)), .int .i64 cm]) (w.heap.size + 1) 27 [.int .i64 r, .string (b.extract m b.size), .bool e, .bool k, .int .i64 r2, .string b2, .bool e2, .bool k2, .int .i64 (wt + (m : Int)), .int .i64 cm] := rowIs_setRow (cs' := [.int .i64 r, .string (b.extract m b.size), .bool e, .bool k, .int .i64 r2, .string b2, .bool e2, .bool k2, .int .i64 (wt + (m : Int)), .int .i64 cm]) RY
  have NHB := below_setRow HB (show w.heap.size ≤ (w.heap.size + 1) by omega) #[.int .i64 r, .string (b.extract m b.size), .bool e, .bool k, .int .i64 r2, .string b2, .bool e2, .bool k2, .int .i64 (wt + (m : Int)), .int .i64 cm]
  generalize hV : w2.setRow (w.heap.size + 1) #[.int .i64 r, .string (b.extract m b.size), .bool e, .bool k, .int .i64 r2, .string b2, .bool e2, .bool k2, .int .i64 (wt + (m : Int)), .int .i64 cm] = V3 at *
  clear hV
  clear RX
  have RX := NRX
  clear NRX
  clear RY
  have RY := NRY
  clear NRY
  clear HB
  have HB := NHB
  clear NHB
  have y0 := RowIs.cell (j := 0) RY rfl
  have y1 := RowIs.cell (j := 1) RY rfl
  have y2 := RowIs.cell (j := 2) RY rfl
  have y3 := RowIs.cell (j := 3) RY rfl
  have y4 := RowIs.cell (j := 4) RY rfl
  have y5 := RowIs.cell (j := 5) RY rfl
  have y6 := RowIs.cell (j := 6) RY rfl
  have y7 := RowIs.cell (j := 7) RY rfl
  have y8 := RowIs.cell (j := 8) RY rfl
  have y9 := RowIs.cell (j := 9) RY rfl
  have yf := fun j => RowIs.frozen RY j
  have yl := RY.lt
  refine bodyPost_ret (v := .tuple #[.agg #[.int .i64 r, .string (b.extract m b.size), .bool e, .bool k, .int .i64 r2, .string b2, .bool e2, .bool k2, .int .i64 (wt + (m : Int)), .int .i64 cm], .string (b.extract 0 m)]) (by simp [results, Try.results22, go_sem, *]) rfl ?_
  exact ⟨rfl, HB⟩
set_option maxHeartbeats 2000000 in
theorem specBack (t : TuD) (s : ByteArray) (fin : Bool) (w : World) (h1 : t.up.b.size ≤ maxLen) (h2 : t.dn.b.size ≤ maxLen) (hs : s.size ≤ 1048576) : Calls Try.prog 23 #[tuv t, .string s, .bool fin] w fun x w' => x = .returned (.tuple #[tuv (bckTu t s fin).1, .int .i64 (bckTu t s fin).2]) ∧ Below w.heap.size w w' := by
  obtain ⟨⟨r, b, e, k⟩, ⟨r2, b2, e2, k2⟩, wt, cm⟩ := t
  dsimp only [tuv] at *
  cases hk : okTu ⟨⟨r, b, e, k⟩, ⟨r2, b2, e2, k2⟩, wt, cm⟩
  · have hv : bckTu ⟨⟨r, b, e, k⟩, ⟨r2, b2, e2, k2⟩, wt, cm⟩ s fin = (zTu, 0) := by unfold bckTu; rw [if_pos hk]
    rw [hv]
    dsimp only [zTu, zPp]
    obtain ⟨W, hW⟩ : ∃ W, (w.alloc (.cells #[.int .i64 r, .string b, .bool e, .bool k, .int .i64 r2, .string b2, .bool e2, .bool k2, .int .i64 wt, .int .i64 cm] 27)).alloc (.cells #[.int .i64 0, .string ⟨#[]⟩, .bool false, .bool false, .int .i64 0, .string ⟨#[]⟩, .bool false, .bool false, .int .i64 0, .int .i64 0] 27) = W := ⟨_, rfl⟩
    have RX : RowIs W w.heap.size 27 [.int .i64 r, .string b, .bool e, .bool k, .int .i64 r2, .string b2, .bool e2, .bool k2, .int .i64 wt, .int .i64 cm] := by rw [← hW]; exact (rowIs_new w 27 [.int .i64 r, .string b, .bool e, .bool k, .int .i64 r2, .string b2, .bool e2, .bool k2, .int .i64 wt, .int .i64 cm]).alloc _
    have RY : RowIs W (w.heap.size + 1) 27 [.int .i64 0, .string ⟨#[]⟩, .bool false, .bool false, .int .i64 0, .string ⟨#[]⟩, .bool false, .bool false, .int .i64 0, .int .i64 0] := by have := rowIs_new (w.alloc (.cells #[.int .i64 r, .string b, .bool e, .bool k, .int .i64 r2, .string b2, .bool e2, .bool k2, .int .i64 wt, .int .i64 cm] 27)) 27 [.int .i64 0, .string ⟨#[]⟩, .bool false, .bool false, .int .i64 0, .string ⟨#[]⟩, .bool false, .bool false, .int .i64 0, .int .i64 0]; rw [hW] at this; simpa using this
    have HB : Below w.heap.size w W := by rw [← hW]; exact (((Below.refl _ _).alloc (Nat.le_refl _) _).alloc (by simp) _)
    go_enter Try.func23, Try.ntmps23
    go_wp2_with (refine wpList_load_row (by rfl) 27 _ (by rfl) w.heap.size (by rfl) [.int .i64 r, .string b, .bool e, .bool k, .int .i64 r2, .string b2, .bool e2, .bool k2, .int .i64 wt, .int .i64 cm] _ 27 RX Try.underlying27 rfl (by kernel_rfl) ?_)
    clear hW
    have hok := specTunnelOk ⟨⟨r, b, e, k⟩, ⟨r2, b2, e2, k2⟩, wt, cm⟩ W h1 h2
    rw [hk] at hok
    refine hok.mono ?_; clear hok; rintro x w1 ⟨rfl, hb⟩
    replace RX := RX.new hb
    replace RY := RY.new hb
    replace HB := bchain HB hb
    clear hb
    go_wp2_with (refine wpList_store_row (by rfl) 27 _ _ (by rfl) (w.heap.size + 1) [.int .i64 0, .string ⟨#[]⟩, .bool false, .bool false, .int .i64 0, .string ⟨#[]⟩, .bool false, .bool false, .int .i64 0, .int .i64 0] (by rfl) (by rfl) 27 [.int .i64 0, .string ⟨#[]⟩, .bool false, .bool false, .int .i64 0, .string ⟨#[]⟩, .bool false, .bool false, .int .i64 0, .int .i64 0] RY (by kernel_rfl) rfl (by intro u hu; simp at hu; rcases hu with rfl | rfl | rfl | rfl | rfl | rfl | rfl | rfl | rfl | rfl <;> rfl) ?_)
    have NRX := RX.kept (setRow_other w1 (w.heap.size + 1) #[.int .i64 0, .string ⟨#[]⟩, .bool false, .bool false, .int .i64 0, .string ⟨#[]⟩, .bool false, .bool false, .int .i64 0, .int .i64 0] w.heap.size (by omega))
    have NRY : RowIs (w1.setRow (w.heap.size + 1) #[.int .i64 0, .string ⟨#[]⟩, .bool false, .bool false, .int .i64 0, .string ⟨#[]⟩, .bool false, .bool false, .int .i64 0, .int .i64 0]) (w.heap.size + 1) 27 [.int .i64 0, .string ⟨#[]⟩, .bool false, .bool false, .int .i64 0, .string ⟨#[]⟩, .bool false, .bool false, .int .i64 0, .int .i64 0] := rowIs_setRow (cs' := [.int .i64 0, .string ⟨#[]⟩, .bool false, .bool false, .int .i64 0, .string ⟨#[]⟩, .bool false, .bool false, .int .i64 0, .int .i64 0]) RY
    have NHB := below_setRow HB (show w.heap.size ≤ (w.heap.size + 1) by omega) #[.int .i64 0, .string ⟨#[]⟩, .bool false, .bool false, .int .i64 0, .string ⟨#[]⟩, .bool false, .bool false, .int .i64 0, .int .i64 0]
    generalize hV : w1.setRow (w.heap.size + 1) #[.int .i64 0, .string ⟨#[]⟩, .bool false, .bool false, .int .i64 0, .string ⟨#[]⟩, .bool false, .bool false, .int .i64 0, .int .i64 0] = V2 at *
    clear hV
    clear RX
    have RX := NRX
    clear NRX
    clear RY
    have RY := NRY
    clear NRY
    clear HB
    have HB := NHB
    clear NHB
    have y0 := RowIs.cell (j := 0) RY rfl
    have y1 := RowIs.cell (j := 1) RY rfl
    have y2 := RowIs.cell (j := 2) RY rfl
    have y3 := RowIs.cell (j := 3) RY rfl
    have y4 := RowIs.cell (j := 4) RY rfl
    have y5 := RowIs.cell (j := 5) RY rfl
    have y6 := RowIs.cell (j := 6) RY rfl
    have y7 := RowIs.cell (j := 7) RY rfl
    have y8 := RowIs.cell (j := 8) RY rfl
    have y9 := RowIs.cell (j := 9) RY rfl
    have yf := fun j => RowIs.frozen RY j
    have yl := RY.lt
    refine bodyPost_ret (v := .tuple #[.agg #[.int .i64 0, .string ⟨#[]⟩, .bool false, .bool false, .int .i64 0, .string ⟨#[]⟩, .bool false, .bool false, .int .i64 0, .int .i64 0], .int .i64 0]) (by simp [results, Try.results23, go_sem, *]) rfl ?_
    exact ⟨rfl, HB⟩
  obtain ⟨hu, hd, ⟨hw0, hw1⟩, hc0, hc1⟩ := okTu_true hk
  obtain ⟨q1, q2, q3, q4⟩ := okPp_true hd
  dsimp only at q1 q2 q3 hw0 hw1
  have hnk : ¬ okTu ⟨⟨r, b, e, k⟩, ⟨r2, b2, e2, k2⟩, wt, cm⟩ = false := by rw [hk]; decide
  have hs2 : s.size ≤ maxLen := by unfold maxLen; omega
  have hx0 : b2 ++ s.extract 0 0 = b2 := by simp
  cases hkk : k2
  rotate_left
  · subst hkk
    have hv : bckTu ⟨⟨r, b, e, k⟩, ⟨r2, b2, e2, true⟩, wt, cm⟩ s fin = (⟨⟨r, b, e, k⟩, ⟨r2, b2, e2, true⟩, wt, cm⟩, 0) := by unfold bckTu bckN; rw [if_neg hnk]; simp [hx0]
    rw [hv]
    dsimp only
    obtain ⟨W, hW⟩ : ∃ W, (w.alloc (.cells #[.int .i64 r, .string b, .bool e, .bool k, .int .i64 r2, .string b2, .bool e2, .bool true, .int .i64 wt, .int .i64 cm] 27)).alloc (.cells #[.int .i64 0, .string ⟨#[]⟩, .bool false, .bool false, .int .i64 0, .string ⟨#[]⟩, .bool false, .bool false, .int .i64 0, .int .i64 0] 27) = W := ⟨_, rfl⟩
    have RX : RowIs W w.heap.size 27 [.int .i64 r, .string b, .bool e, .bool k, .int .i64 r2, .string b2, .bool e2, .bool true, .int .i64 wt, .int .i64 cm] := by rw [← hW]; exact (rowIs_new w 27 [.int .i64 r, .string b, .bool e, .bool k, .int .i64 r2, .string b2, .bool e2, .bool true, .int .i64 wt, .int .i64 cm]).alloc _
    have RY : RowIs W (w.heap.size + 1) 27 [.int .i64 0, .string ⟨#[]⟩, .bool false, .bool false, .int .i64 0, .string ⟨#[]⟩, .bool false, .bool false, .int .i64 0, .int .i64 0] := by have := rowIs_new (w.alloc (.cells #[.int .i64 r, .string b, .bool e, .bool k, .int .i64 r2, .string b2, .bool e2, .bool true, .int .i64 wt, .int .i64 cm] 27)) 27 [.int .i64 0, .string ⟨#[]⟩, .bool false, .bool false, .int .i64 0, .string ⟨#[]⟩, .bool false, .bool false, .int .i64 0, .int .i64 0]; rw [hW] at this; simpa using this
    have HB : Below w.heap.size w W := by rw [← hW]; exact (((Below.refl _ _).alloc (Nat.le_refl _) _).alloc (by simp) _)
    go_enter Try.func23, Try.ntmps23
    go_wp2_with (refine wpList_load_row (by rfl) 27 _ (by rfl) w.heap.size (by rfl) [.int .i64 r, .string b, .bool e, .bool k, .int .i64 r2, .string b2, .bool e2, .bool true, .int .i64 wt, .int .i64 cm] _ 27 RX Try.underlying27 rfl (by kernel_rfl) ?_)
    clear hW
    have hok := specTunnelOk ⟨⟨r, b, e, k⟩, ⟨r2, b2, e2, true⟩, wt, cm⟩ W h1 h2
    rw [hk] at hok
    refine hok.mono ?_; clear hok; rintro x w1 ⟨rfl, hb⟩
    replace RX := RX.new hb
    replace RY := RY.new hb
    replace HB := bchain HB hb
    clear hb
    go_wp2_with fail
    refine (specL16Back_k r b e k r2 b2 e2 wt cm s fin _ _ RX hs2).mono ?_; rintro x w2 ⟨rfl, hr, ht⟩
    replace RY := RY.kept (ht.block _ RY.lt (by omega))
    replace HB := HB.trans (ht.below (Nat.le_refl _) HB.size)
    clear RX ht
    have RX := hr
    clear hr
    go_wp2_with (first | (refine wpList_load_row (by rfl) 27 _ (by rfl) w.heap.size (by rfl) [.int .i64 r, .string b, .bool e, .bool k, .int .i64 r2, .string b2, .bool e2, .bool true, .int .i64 wt, .int .i64 cm] _ 27 RX Try.underlying27 rfl (by kernel_rfl) ?_) | (refine wpList_store_row (by rfl) 27 _ _ (by rfl) (w.heap.size + 1) [.int .i64 r, .string b, .bool e, .bool k, .int .i64 r2, .string b2, .bool e2, .bool true, .int .i64 wt, .int .i64 cm] (by rfl) (by rfl) 27 [.int .i64 0, .string ⟨#[]⟩, .bool false, .bool false, .int .i64 0, .string ⟨#[]⟩, .bool false, .bool false, .int .i64 0, .int .i64 0] RY (by kernel_rfl) rfl (by intro u hu; simp at hu; rcases hu with rfl | rfl | rfl | rfl | rfl | rfl | rfl | rfl | rfl | rfl <;> rfl) ?_))
    have NRX := RX.kept (setRow_other w2 (w.heap.size + 1) #[.int .i64 r, .string b, .bool e, .bool k, .int .i64 r2, .string b2, .bool e2, .bool true, .int .i64 wt, .int .i64 cm] w.heap.size (by omega))
    have NRY : RowIs (w2.setRow (w.heap.size + 1) #[.int .i64 r, .string b, .bool e, .bool k, .int .i64 r2, .string b2, .bool e2, .bool true, .int .i64 wt, .int .i64 cm]) (w.heap.size + 1) 27 [.int .i64 r, .string b, .bool e, .bool k, .int .i64 r2, .string b2, .bool e2, .bool true, .int .i64 wt, .int .i64 cm] := rowIs_setRow (cs' := [.int .i64 r, .string b, .bool e, .bool k, .int .i64 r2, .string b2, .bool e2, .bool true, .int .i64 wt, .int .i64 cm]) RY
    have NHB := below_setRow HB (show w.heap.size ≤ (w.heap.size + 1) by omega) #[.int .i64 r, .string b, .bool e, .bool k, .int .i64 r2, .string b2, .bool e2, .bool true, .int .i64 wt, .int .i64 cm]
    generalize hV : w2.setRow (w.heap.size + 1) #[.int .i64 r, .string b, .bool e, .bool k, .int .i64 r2, .string b2, .bool e2, .bool true, .int .i64 wt, .int .i64 cm] = V3 at *
    clear hV
    clear RX
    have RX := NRX
    clear NRX
    clear RY
    have RY := NRY
    clear NRY
    clear HB
    have HB := NHB
    clear NHB
    have y0 := RowIs.cell (j := 0) RY rfl
    have y1 := RowIs.cell (j := 1) RY rfl
    have y2 := RowIs.cell (j := 2) RY rfl
    have y3 := RowIs.cell (j := 3) RY rfl
    have y4 := RowIs.cell (j := 4) RY rfl
    have y5 := RowIs.cell (j := 5) RY rfl
    have y6 := RowIs.cell (j := 6) RY rfl
    have y7 := RowIs.cell (j := 7) RY rfl
    have y8 := RowIs.cell (j := 8) RY rfl
    have y9 := RowIs.cell (j := 9) RY rfl
    have yf := fun j => RowIs.frozen RY j
    have yl := RY.lt
    refine bodyPost_ret (v := .tuple #[.agg #[.int .i64 r, .string b, .bool e, .bool k, .int .i64 r2, .string b2, .bool e2, .bool true, .int .i64 wt, .int .i64 cm], .int .i64 0]) (by simp [results, Try.results23, go_sem, *]) rfl ?_
    exact ⟨rfl, HB⟩
  subst hkk
  cases he : e2
  rotate_left
  · subst he
    have hv : bckTu ⟨⟨r, b, e, k⟩, ⟨r2, b2, true, false⟩, wt, cm⟩ s fin = (⟨⟨r, b, e, k⟩, ⟨r2, b2, true, false⟩, wt, cm⟩, 0) := by unfold bckTu bckN; rw [if_neg hnk]; simp [hx0]
    rw [hv]
    dsimp only
    obtain ⟨W, hW⟩ : ∃ W, (w.alloc (.cells #[.int .i64 r, .string b, .bool e, .bool k, .int .i64 r2, .string b2, .bool true, .bool false, .int .i64 wt, .int .i64 cm] 27)).alloc (.cells #[.int .i64 0, .string ⟨#[]⟩, .bool false, .bool false, .int .i64 0, .string ⟨#[]⟩, .bool false, .bool false, .int .i64 0, .int .i64 0] 27) = W := ⟨_, rfl⟩
    have RX : RowIs W w.heap.size 27 [.int .i64 r, .string b, .bool e, .bool k, .int .i64 r2, .string b2, .bool true, .bool false, .int .i64 wt, .int .i64 cm] := by rw [← hW]; exact (rowIs_new w 27 [.int .i64 r, .string b, .bool e, .bool k, .int .i64 r2, .string b2, .bool true, .bool false, .int .i64 wt, .int .i64 cm]).alloc _
    have RY : RowIs W (w.heap.size + 1) 27 [.int .i64 0, .string ⟨#[]⟩, .bool false, .bool false, .int .i64 0, .string ⟨#[]⟩, .bool false, .bool false, .int .i64 0, .int .i64 0] := by have := rowIs_new (w.alloc (.cells #[.int .i64 r, .string b, .bool e, .bool k, .int .i64 r2, .string b2, .bool true, .bool false, .int .i64 wt, .int .i64 cm] 27)) 27 [.int .i64 0, .string ⟨#[]⟩, .bool false, .bool false, .int .i64 0, .string ⟨#[]⟩, .bool false, .bool false, .int .i64 0, .int .i64 0]; rw [hW] at this; simpa using this
    have HB : Below w.heap.size w W := by rw [← hW]; exact (((Below.refl _ _).alloc (Nat.le_refl _) _).alloc (by simp) _)
    go_enter Try.func23, Try.ntmps23
    go_wp2_with (refine wpList_load_row (by rfl) 27 _ (by rfl) w.heap.size (by rfl) [.int .i64 r, .string b, .bool e, .bool k, .int .i64 r2, .string b2, .bool true, .bool false, .int .i64 wt, .int .i64 cm] _ 27 RX Try.underlying27 rfl (by kernel_rfl) ?_)
    clear hW
    have hok := specTunnelOk ⟨⟨r, b, e, k⟩, ⟨r2, b2, true, false⟩, wt, cm⟩ W h1 h2
    rw [hk] at hok
    refine hok.mono ?_; clear hok; rintro x w1 ⟨rfl, hb⟩
    replace RX := RX.new hb
    replace RY := RY.new hb
    replace HB := bchain HB hb
    clear hb
    go_wp2_with fail
    refine (specL16Back_e r b e k r2 b2 wt cm s fin _ _ RX hs2).mono ?_; rintro x w2 ⟨rfl, hr, ht⟩
    replace RY := RY.kept (ht.block _ RY.lt (by omega))
    replace HB := HB.trans (ht.below (Nat.le_refl _) HB.size)
    clear RX ht
    have RX := hr
    clear hr
    go_wp2_with (first | (refine wpList_load_row (by rfl) 27 _ (by rfl) w.heap.size (by rfl) [.int .i64 r, .string b, .bool e, .bool k, .int .i64 r2, .string b2, .bool true, .bool false, .int .i64 wt, .int .i64 cm] _ 27 RX Try.underlying27 rfl (by kernel_rfl) ?_) | (refine wpList_store_row (by rfl) 27 _ _ (by rfl) (w.heap.size + 1) [.int .i64 r, .string b, .bool e, .bool k, .int .i64 r2, .string b2, .bool true, .bool false, .int .i64 wt, .int .i64 cm] (by rfl) (by rfl) 27 [.int .i64 0, .string ⟨#[]⟩, .bool false, .bool false, .int .i64 0, .string ⟨#[]⟩, .bool false, .bool false, .int .i64 0, .int .i64 0] RY (by kernel_rfl) rfl (by intro u hu; simp at hu; rcases hu with rfl | rfl | rfl | rfl | rfl | rfl | rfl | rfl | rfl | rfl <;> rfl) ?_))
    have NRX := RX.kept (setRow_other w2 (w.heap.size + 1) #[.int .i64 r, .string b, .bool e, .bool k, .int .i64 r2, .string b2, .bool true, .bool false, .int .i64 wt, .int .i64 cm] w.heap.size (by omega))
    have NRY : RowIs (w2.setRow (w.heap.size + 1) #[.int .i64 r, .string b, .bool e, .bool k, .int .i64 r2, .string b2, .bool true, .bool false, .int .i64 wt, .int .i64 cm]) (w.heap.size + 1) 27 [.int .i64 r, .string b, .bool e, .bool k, .int .i64 r2, .string b2, .bool true, .bool false, .int .i64 wt, .int .i64 cm] := rowIs_setRow (cs' := [.int .i64 r, .string b, .bool e, .bool k, .int .i64 r2, .string b2, .bool true, .bool false, .int .i64 wt, .int .i64 cm]) RY
    have NHB := below_setRow HB (show w.heap.size ≤ (w.heap.size + 1) by omega) #[.int .i64 r, .string b, .bool e, .bool k, .int .i64 r2, .string b2, .bool true, .bool false, .int .i64 wt, .int .i64 cm]
    generalize hV : w2.setRow (w.heap.size + 1) #[.int .i64 r, .string b, .bool e, .bool k, .int .i64 r2, .string b2, .bool true, .bool false, .int .i64 wt, .int .i64 cm] = V3 at *
    clear hV
    clear RX
    have RX := NRX
    clear NRX
    clear RY
    have RY := NRY
    clear NRY
    clear HB
    have HB := NHB
    clear NHB
    have y0 := RowIs.cell (j := 0) RY rfl
    have y1 := RowIs.cell (j := 1) RY rfl
    have y2 := RowIs.cell (j := 2) RY rfl
    have y3 := RowIs.cell (j := 3) RY rfl
    have y4 := RowIs.cell (j := 4) RY rfl
    have y5 := RowIs.cell (j := 5) RY rfl
    have y6 := RowIs.cell (j := 6) RY rfl
    have y7 := RowIs.cell (j := 7) RY rfl
    have y8 := RowIs.cell (j := 8) RY rfl
    have y9 := RowIs.cell (j := 9) RY rfl
    have yf := fun j => RowIs.frozen RY j
    have yl := RY.lt
    refine bodyPost_ret (v := .tuple #[.agg #[.int .i64 r, .string b, .bool e, .bool k, .int .i64 r2, .string b2, .bool true, .bool false, .int .i64 wt, .int .i64 cm], .int .i64 0]) (by simp [results, Try.results23, go_sem, *]) rfl ?_
    exact ⟨rfl, HB⟩
  subst he
  obtain ⟨n, hn⟩ : ∃ n : Nat, comes r2 b2 s = n := ⟨_, rfl⟩
  have hn2 : min (s.size : Int) (r2 - b2.size) = n := by unfold comes at hn; omega
  have hv : bckTu ⟨⟨r, b, e, k⟩, ⟨r2, b2, false, false⟩, wt, cm⟩ s fin = (⟨⟨r, b, e, k⟩, ⟨r2, b2 ++ s.extract 0 n, fin && decide (n = s.size), false⟩, wt, cm⟩, (n : Int)) := by unfold bckTu bckN; rw [if_neg hnk]; simp [hn]
  rw [hv]
  dsimp only
  obtain ⟨W, hW⟩ : ∃ W, (w.alloc (.cells #[.int .i64 r, .string b, .bool e, .bool k, .int .i64 r2, .string b2, .bool false, .bool false, .int .i64 wt, .int .i64 cm] 27)).alloc (.cells #[.int .i64 0, .string ⟨#[]⟩, .bool false, .bool false, .int .i64 0, .string ⟨#[]⟩, .bool false, .bool false, .int .i64 0, .int .i64 0] 27) = W := ⟨_, rfl⟩
  have RX : RowIs W w.heap.size 27 [.int .i64 r, .string b, .bool e, .bool k, .int .i64 r2, .string b2, .bool false, .bool false, .int .i64 wt, .int .i64 cm] := by rw [← hW]; exact (rowIs_new w 27 [.int .i64 r, .string b, .bool e, .bool k, .int .i64 r2, .string b2, .bool false, .bool false, .int .i64 wt, .int .i64 cm]).alloc _
  have RY : RowIs W (w.heap.size + 1) 27 [.int .i64 0, .string ⟨#[]⟩, .bool false, .bool false, .int .i64 0, .string ⟨#[]⟩, .bool false, .bool false, .int .i64 0, .int .i64 0] := by have := rowIs_new (w.alloc (.cells #[.int .i64 r, .string b, .bool e, .bool k, .int .i64 r2, .string b2, .bool false, .bool false, .int .i64 wt, .int .i64 cm] 27)) 27 [.int .i64 0, .string ⟨#[]⟩, .bool false, .bool false, .int .i64 0, .string ⟨#[]⟩, .bool false, .bool false, .int .i64 0, .int .i64 0]; rw [hW] at this; simpa using this
  have HB : Below w.heap.size w W := by rw [← hW]; exact (((Below.refl _ _).alloc (Nat.le_refl _) _).alloc (by simp) _)
  go_enter Try.func23, Try.ntmps23
  go_wp2_with (refine wpList_load_row (by rfl) 27 _ (by rfl) w.heap.size (by rfl) [.int .i64 r, .string b, .bool e, .bool k, .int .i64 r2, .string b2, .bool false, .bool false, .int .i64 wt, .int .i64 cm] _ 27 RX Try.underlying27 rfl (by kernel_rfl) ?_)
  clear hW
  have hok := specTunnelOk ⟨⟨r, b, e, k⟩, ⟨r2, b2, false, false⟩, wt, cm⟩ W h1 h2
  rw [hk] at hok
  refine hok.mono ?_; clear hok; rintro x w1 ⟨rfl, hb⟩
  replace RX := RX.new hb
  replace RY := RY.new hb
  replace HB := bchain HB hb
  clear hb
  go_wp2_with fail
  refine (specL16Back_o r b e k r2 b2 wt cm s fin _ _ RX hs (by omega) (by omega) n hn2).mono ?_; rintro x w2 ⟨rfl, hr, ht⟩
  obtain ⟨z, hz⟩ : ∃ z, (fin && decide (n = s.size)) = z := ⟨_, rfl⟩
  obtain ⟨nb, hnb⟩ : ∃ z, b2 ++ s.extract 0 n = z := ⟨_, rfl⟩
  rw [hz, hnb] at hr
  replace RY := RY.kept (ht.block _ RY.lt (by omega))
  replace HB := HB.trans (ht.below (Nat.le_refl _) HB.size)
  clear RX ht
  have RX := hr
  clear hr
  go_wp2_with (first | (refine wpList_load_row (by rfl) 27 _ (by rfl) w.heap.size (by rfl) [.int .i64 r, .string b, .bool e, .bool k, .int .i64 r2, .string nb, .bool z, .bool false, .int .i64 wt, .int .i64 cm] _ 27 RX Try.underlying27 rfl (by kernel_rfl) ?_) | (refine wpList_store_row (by rfl) 27 _ _ (by rfl) (w.heap.size + 1) [.int .i64 r, .string b, .bool e, .bool k, .int .i64 r2, .string nb, .bool z, .bool false, .int .i64 wt, .int .i64 cm] (by rfl) (by rfl) 27 [.int .i64 0, .string ⟨#[]⟩, .bool false, .bool false, .int .i64 0, .string ⟨#[]⟩, .bool false, .bool false, .int .i64 0, .int .i64 0] RY (by kernel_rfl) rfl (by intro u hu; simp at hu; rcases hu with rfl | rfl | rfl | rfl | rfl | rfl | rfl | rfl | rfl | rfl <;> rfl) ?_))
  have NRX := RX.kept (setRow_other w2 (w.heap.size + 1) #[.int .i64 r, .string b, .bool e, .bool k, .int .i64 r2, .string nb, .bool z, .bool false, .int .i64 wt, .int .i64 cm] w.heap.size (by omega))
  have NRY : RowIs (w2.setRow (w.heap.size + 1) #[.int .i64 r, .string b, .bool e, .bool k, .int .i64 r2, .string nb, .bool z, .bool false, .int .i64 wt, .int .i64 cm]) (w.heap.size + 1) 27 [.int .i64 r, .string b, .bool e, .bool k, .int .i64 r2, .string nb, .bool z, .bool false, .int .i64 wt, .int .i64 cm] := rowIs_setRow (cs' := [.int .i64 r, .string b, .bool e, .bool k, .int .i64 r2, .string nb, .bool z, .bool false, .int .i64 wt, .int .i64 cm]) RY
  have NHB := below_setRow HB (show w.heap.size ≤ (w.heap.size + 1) by omega) #[.int .i64 r, .string b, .bool e, .bool k, .int .i64 r2, .string nb, .bool z, .bool false, .int .i64 wt, .int .i64 cm]
  generalize hV : w2.setRow (w.heap.size + 1) #[.int .i64 r, .string b, .bool e, .bool k, .int .i64 r2, .string nb, .bool z, .bool false, .int .i64 wt, .int .i64 cm] = V3 at *
  clear hV
  clear RX
  have RX := NRX
  clear NRX
  clear RY
  have RY := NRY
  clear NRY
  clear HB
  have HB := NHB
  clear NHB
  have y0 := RowIs.cell (j := 0) RY rfl
  have y1 := RowIs.cell (j := 1) RY rfl
  have y2 := RowIs.cell (j := 2) RY rfl
  have y3 := RowIs.cell (j := 3) RY rfl
  have y4 := RowIs.cell (j := 4) RY rfl
  have y5 := RowIs.cell (j := 5) RY rfl
  have y6 := RowIs.cell (j := 6) RY rfl
  have y7 := RowIs.cell (j := 7) RY rfl
  have y8 := RowIs.cell (j := 8) RY rfl
  have y9 := RowIs.cell (j := 9) RY rfl
  have yf := fun j => RowIs.frozen RY j
  have yl := RY.lt
  refine bodyPost_ret (v := .tuple #[.agg #[.int .i64 r, .string b, .bool e, .bool k, .int .i64 r2, .string nb, .bool z, .bool false, .int .i64 wt, .int .i64 cm], .int .i64 (n : Int)]) (by simp [results, Try.results23, go_sem, *]) rfl ?_
  exact ⟨by rw [hz, hnb], HB⟩
set_option maxHeartbeats 2000000 in
theorem specTorn (t : TuD) (w : World) (h1 : t.up.b.size ≤ maxLen) (h2 : t.dn.b.size ≤ maxLen) : Calls Try.prog 19 #[tuv t] w fun x w' => x = .returned (tuv (trnTu t)) ∧ Below w.heap.size w w' := by
  obtain ⟨⟨r, b, e, k⟩, ⟨r2, b2, e2, k2⟩, wt, cm⟩ := t
  dsimp only [tuv] at *
  cases hk : okTu ⟨⟨r, b, e, k⟩, ⟨r2, b2, e2, k2⟩, wt, cm⟩
  · have hv : trnTu ⟨⟨r, b, e, k⟩, ⟨r2, b2, e2, k2⟩, wt, cm⟩ = zTu := by unfold trnTu; rw [if_pos hk]
    rw [hv]
    dsimp only [zTu, zPp]
    obtain ⟨W, hW⟩ : ∃ W, (w.alloc (.cells #[.int .i64 r, .string b, .bool e, .bool k, .int .i64 r2, .string b2, .bool e2, .bool k2, .int .i64 wt, .int .i64 cm] 27)).alloc (.cells #[.int .i64 0, .string ⟨#[]⟩, .bool false, .bool false, .int .i64 0, .string ⟨#[]⟩, .bool false, .bool false, .int .i64 0, .int .i64 0] 27) = W := ⟨_, rfl⟩
    have RX : RowIs W w.heap.size 27 [.int .i64 r, .string b, .bool e, .bool k, .int .i64 r2, .string b2, .bool e2, .bool k2, .int .i64 wt, .int .i64 cm] := by rw [← hW]; exact (rowIs_new w 27 [.int .i64 r, .string b, .bool e, .bool k, .int .i64 r2, .string b2, .bool e2, .bool k2, .int .i64 wt, .int .i64 cm]).alloc _
    have RY : RowIs W (w.heap.size + 1) 27 [.int .i64 0, .string ⟨#[]⟩, .bool false, .bool false, .int .i64 0, .string ⟨#[]⟩, .bool false, .bool false, .int .i64 0, .int .i64 0] := by have := rowIs_new (w.alloc (.cells #[.int .i64 r, .string b, .bool e, .bool k, .int .i64 r2, .string b2, .bool e2, .bool k2, .int .i64 wt, .int .i64 cm] 27)) 27 [.int .i64 0, .string ⟨#[]⟩, .bool false, .bool false, .int .i64 0, .string ⟨#[]⟩, .bool false, .bool false, .int .i64 0, .int .i64 0]; rw [hW] at this; simpa using this
    have HB : Below w.heap.size w W := by rw [← hW]; exact (((Below.refl _ _).alloc (Nat.le_refl _) _).alloc (by simp) _)
    go_enter Try.func19, Try.ntmps19
    go_wp2_with (refine wpList_load_row (by rfl) 27 _ (by rfl) w.heap.size (by rfl) [.int .i64 r, .string b, .bool e, .bool k, .int .i64 r2, .string b2, .bool e2, .bool k2, .int .i64 wt, .int .i64 cm] _ 27 RX Try.underlying27 rfl (by kernel_rfl) ?_)
    clear hW
    have hok := specTunnelOk ⟨⟨r, b, e, k⟩, ⟨r2, b2, e2, k2⟩, wt, cm⟩ W h1 h2
    rw [hk] at hok
    refine hok.mono ?_; clear hok; rintro x w1 ⟨rfl, hb⟩
    replace RX := RX.new hb
    replace RY := RY.new hb
    replace HB := bchain HB hb
    clear hb
    go_wp2_with (refine wpList_store_row (by rfl) 27 _ _ (by rfl) (w.heap.size + 1) [.int .i64 0, .string ⟨#[]⟩, .bool false, .bool false, .int .i64 0, .string ⟨#[]⟩, .bool false, .bool false, .int .i64 0, .int .i64 0] (by rfl) (by rfl) 27 [.int .i64 0, .string ⟨#[]⟩, .bool false, .bool false, .int .i64 0, .string ⟨#[]⟩, .bool false, .bool false, .int .i64 0, .int .i64 0] RY (by kernel_rfl) rfl (by intro u hu; simp at hu; rcases hu with rfl | rfl | rfl | rfl | rfl | rfl | rfl | rfl | rfl | rfl <;> rfl) ?_)
    have NRX := RX.kept (setRow_other w1 (w.heap.size + 1) #[.int .i64 0, .string ⟨#[]⟩, .bool false, .bool false, .int .i64 0, .string ⟨#[]⟩, .bool false, .bool false, .int .i64 0, .int .i64 0] w.heap.size (by omega))
    have NRY : RowIs (w1.setRow (w.heap.size + 1) #[.int .i64 0, .string ⟨#[]⟩, .bool false, .bool false, .int .i64 0, .string ⟨#[]⟩, .bool false, .bool false, .int .i64 0, .int .i64 0]) (w.heap.size + 1) 27 [.int .i64 0, .string ⟨#[]⟩, .bool false, .bool false, .int .i64 0, .string ⟨#[]⟩, .bool false, .bool false, .int .i64 0, .int .i64 0] := rowIs_setRow (cs' := [.int .i64 0, .string ⟨#[]⟩, .bool false, .bool false, .int .i64 0, .string ⟨#[]⟩, .bool false, .bool false, .int .i64 0, .int .i64 0]) RY
    have NHB := below_setRow HB (show w.heap.size ≤ (w.heap.size + 1) by omega) #[.int .i64 0, .string ⟨#[]⟩, .bool false, .bool false, .int .i64 0, .string ⟨#[]⟩, .bool false, .bool false, .int .i64 0, .int .i64 0]
    generalize hV : w1.setRow (w.heap.size + 1) #[.int .i64 0, .string ⟨#[]⟩, .bool false, .bool false, .int .i64 0, .string ⟨#[]⟩, .bool false, .bool false, .int .i64 0, .int .i64 0] = V2 at *
    clear hV
    clear RX
    have RX := NRX
    clear NRX
    clear RY
    have RY := NRY
    clear NRY
    clear HB
    have HB := NHB
    clear NHB
    have y0 := RowIs.cell (j := 0) RY rfl
    have y1 := RowIs.cell (j := 1) RY rfl
    have y2 := RowIs.cell (j := 2) RY rfl
    have y3 := RowIs.cell (j := 3) RY rfl
    have y4 := RowIs.cell (j := 4) RY rfl
    have y5 := RowIs.cell (j := 5) RY rfl
    have y6 := RowIs.cell (j := 6) RY rfl
    have y7 := RowIs.cell (j := 7) RY rfl
    have y8 := RowIs.cell (j := 8) RY rfl
    have y9 := RowIs.cell (j := 9) RY rfl
    have yf := fun j => RowIs.frozen RY j
    have yl := RY.lt
    refine bodyPost_ret (v := .agg #[.int .i64 0, .string ⟨#[]⟩, .bool false, .bool false, .int .i64 0, .string ⟨#[]⟩, .bool false, .bool false, .int .i64 0, .int .i64 0]) (by simp [results, Try.results19, go_sem, *]) rfl ?_
    exact ⟨rfl, HB⟩
  have hv : trnTu ⟨⟨r, b, e, k⟩, ⟨r2, b2, e2, k2⟩, wt, cm⟩ = ⟨⟨r, ⟨#[]⟩, e, true⟩, ⟨r2, ⟨#[]⟩, e2, true⟩, wt, cm⟩ := by unfold trnTu; rw [if_neg (by rw [hk]; decide)]
  rw [hv]
  dsimp only
  obtain ⟨W, hW⟩ : ∃ W, (w.alloc (.cells #[.int .i64 r, .string b, .bool e, .bool k, .int .i64 r2, .string b2, .bool e2, .bool k2, .int .i64 wt, .int .i64 cm] 27)).alloc (.cells #[.int .i64 0, .string ⟨#[]⟩, .bool false, .bool false, .int .i64 0, .string ⟨#[]⟩, .bool false, .bool false, .int .i64 0, .int .i64 0] 27) = W := ⟨_, rfl⟩
  have RX : RowIs W w.heap.size 27 [.int .i64 r, .string b, .bool e, .bool k, .int .i64 r2, .string b2, .bool e2, .bool k2, .int .i64 wt, .int .i64 cm] := by rw [← hW]; exact (rowIs_new w 27 [.int .i64 r, .string b, .bool e, .bool k, .int .i64 r2, .string b2, .bool e2, .bool k2, .int .i64 wt, .int .i64 cm]).alloc _
  have RY : RowIs W (w.heap.size + 1) 27 [.int .i64 0, .string ⟨#[]⟩, .bool false, .bool false, .int .i64 0, .string ⟨#[]⟩, .bool false, .bool false, .int .i64 0, .int .i64 0] := by have := rowIs_new (w.alloc (.cells #[.int .i64 r, .string b, .bool e, .bool k, .int .i64 r2, .string b2, .bool e2, .bool k2, .int .i64 wt, .int .i64 cm] 27)) 27 [.int .i64 0, .string ⟨#[]⟩, .bool false, .bool false, .int .i64 0, .string ⟨#[]⟩, .bool false, .bool false, .int .i64 0, .int .i64 0]; rw [hW] at this; simpa using this
  have HB : Below w.heap.size w W := by rw [← hW]; exact (((Below.refl _ _).alloc (Nat.le_refl _) _).alloc (by simp) _)
  go_enter Try.func19, Try.ntmps19
  go_wp2_with (refine wpList_load_row (by rfl) 27 _ (by rfl) w.heap.size (by rfl) [.int .i64 r, .string b, .bool e, .bool k, .int .i64 r2, .string b2, .bool e2, .bool k2, .int .i64 wt, .int .i64 cm] _ 27 RX Try.underlying27 rfl (by kernel_rfl) ?_)
  clear hW
  have hok := specTunnelOk ⟨⟨r, b, e, k⟩, ⟨r2, b2, e2, k2⟩, wt, cm⟩ W h1 h2
  rw [hk] at hok
  refine hok.mono ?_; clear hok; rintro x w1 ⟨rfl, hb⟩
  replace RX := RX.new hb
  replace RY := RY.new hb
  replace HB := bchain HB hb
  clear hb
  go_wp2_with fail
  refine (specL16Torn r b e k r2 b2 e2 k2 wt cm _ _ RX).mono ?_; rintro x w2 ⟨rfl, hr, ht⟩
  replace RY := RY.kept (ht.block _ RY.lt (by omega))
  replace HB := HB.trans (ht.below (Nat.le_refl _) HB.size)
  clear RX ht
  have RX := hr
  clear hr
  go_wp2_with (first | (refine wpList_load_row (by rfl) 27 _ (by rfl) w.heap.size (by rfl) [.int .i64 r, .string ⟨#[]⟩, .bool e, .bool true, .int .i64 r2, .string ⟨#[]⟩, .bool e2, .bool true, .int .i64 wt, .int .i64 cm] _ 27 RX Try.underlying27 rfl (by kernel_rfl) ?_) | (refine wpList_store_row (by rfl) 27 _ _ (by rfl) (w.heap.size + 1) [.int .i64 r, .string ⟨#[]⟩, .bool e, .bool true, .int .i64 r2, .string ⟨#[]⟩, .bool e2, .bool true, .int .i64 wt, .int .i64 cm] (by rfl) (by rfl) 27 [.int .i64 0, .string ⟨#[]⟩, .bool false, .bool false, .int .i64 0, .string ⟨#[]⟩, .bool false, .bool false, .int .i64 0, .int .i64 0] RY (by kernel_rfl) rfl (by intro u hu; simp at hu; rcases hu with rfl | rfl | rfl | rfl | rfl | rfl | rfl | rfl | rfl | rfl <;> rfl) ?_))
  have NRX := RX.kept (setRow_other w2 (w.heap.size + 1) #[.int .i64 r, .string ⟨#[]⟩, .bool e, .bool true, .int .i64 r2, .string ⟨#[]⟩, .bool e2, .bool true, .int .i64 wt, .int .i64 cm] w.heap.size (by omega))
  have NRY : RowIs (w2.setRow (w.heap.size + 1) #[.int .i64 r, .string ⟨#[]⟩, .bool e, .bool true, .int .i64 r2, .string ⟨#[]⟩, .bool e2, .bool true, .int .i64 wt, .int .i64 cm]) (w.heap.size + 1) 27 [.int .i64 r, .string ⟨#[]⟩, .bool e, .bool true, .int .i64 r2, .string ⟨#[]⟩, .bool e2, .bool true, .int .i64 wt, .int .i64 cm] := rowIs_setRow (cs' := [.int .i64 r, .string ⟨#[]⟩, .bool e, .bool true, .int .i64 r2, .string ⟨#[]⟩, .bool e2, .bool true, .int .i64 wt, .int .i64 cm]) RY
  have NHB := below_setRow HB (show w.heap.size ≤ (w.heap.size + 1) by omega) #[.int .i64 r, .string ⟨#[]⟩, .bool e, .bool true, .int .i64 r2, .string ⟨#[]⟩, .bool e2, .bool true, .int .i64 wt, .int .i64 cm]
  generalize hV : w2.setRow (w.heap.size + 1) #[.int .i64 r, .string ⟨#[]⟩, .bool e, .bool true, .int .i64 r2, .string ⟨#[]⟩, .bool e2, .bool true, .int .i64 wt, .int .i64 cm] = V3 at *
  clear hV
  clear RX
  have RX := NRX
  clear NRX
  clear RY
  have RY := NRY
  clear NRY
  clear HB
  have HB := NHB
  clear NHB
  have y0 := RowIs.cell (j := 0) RY rfl
  have y1 := RowIs.cell (j := 1) RY rfl
  have y2 := RowIs.cell (j := 2) RY rfl
  have y3 := RowIs.cell (j := 3) RY rfl
  have y4 := RowIs.cell (j := 4) RY rfl
  have y5 := RowIs.cell (j := 5) RY rfl
  have y6 := RowIs.cell (j := 6) RY rfl
  have y7 := RowIs.cell (j := 7) RY rfl
  have y8 := RowIs.cell (j := 8) RY rfl
  have y9 := RowIs.cell (j := 9) RY rfl
  have yf := fun j => RowIs.frozen RY j
  have yl := RY.lt
  refine bodyPost_ret (v := .agg #[.int .i64 r, .string ⟨#[]⟩, .bool e, .bool true, .int .i64 r2, .string ⟨#[]⟩, .bool e2, .bool true, .int .i64 wt, .int .i64 cm]) (by simp [results, Try.results19, go_sem, *]) rfl ?_
  exact ⟨rfl, HB⟩
set_option maxHeartbeats 2000000 in
theorem specNewTunnel (r : Int) (w : World) : Calls Try.prog 24 #[.int .i64 r] w fun x w' => x = .returned (.tuple #[tuv (newTu r).1, .bool (newTu r).2]) ∧ Below w.heap.size w w' := by
  cases hk : newB r
  · have hv : newTu r = (zTu, false) := by unfold newTu; rw [if_neg (by rw [hk]; decide)]
    rw [hv]
    dsimp only [tuv, zTu, zPp]
    have hcl := specNew r (w.alloc (.cells #[.int .i64 0, .string ⟨#[]⟩, .bool false, .bool false, .int .i64 0, .string ⟨#[]⟩, .bool false, .bool false, .int .i64 0, .int .i64 0] 27))
    rw [hk] at hcl
    have RY := rowIs_new w 27 [.int .i64 0, .string ⟨#[]⟩, .bool false, .bool false, .int .i64 0, .string ⟨#[]⟩, .bool false, .bool false, .int .i64 0, .int .i64 0]
    have HB : Below w.heap.size w (w.alloc (.cells #[.int .i64 0, .string ⟨#[]⟩, .bool false, .bool false, .int .i64 0, .string ⟨#[]⟩, .bool false, .bool false, .int .i64 0, .int .i64 0] 27)) := (Below.refl _ _).alloc (Nat.le_refl _) _
    go_enter Try.func24, Try.ntmps24
    go_wp2_with fail
    refine hcl.mono ?_; clear hcl; rintro x w1 ⟨rfl, hb⟩
    replace RY := RY.new hb
    replace HB := bchain HB hb
    clear hb
    go_upto_region 2 with fail
    have hly := RY.lt
    obtain ⟨gRP, hgRP⟩ : ∃ g, g = w1.heap.size := ⟨_, rfl⟩
    have hltRYRP : w.heap.size < gRP := by have := RY.lt; omega
    have hleRP : w.heap.size ≤ gRP := by have := HB.size; omega
    have hbV : Below w1.heap.size w1 (w1.alloc (.cells #[.int .i64 0, .string ⟨#[]⟩, .bool false, .bool false] 25)) := (Below.refl _ _).alloc (Nat.le_refl _) _
    have RP : RowIs (w1.alloc (.cells #[.int .i64 0, .string ⟨#[]⟩, .bool false, .bool false] 25)) w1.heap.size 25 [.int .i64 0, .string ⟨#[]⟩, .bool false, .bool false] := rowIs_new w1 _ _
    replace RY := RY.new hbV
    replace HB := bchain HB hbV
    clear hbV
    rw [← hgRP] at RP
    try rw [← hgRP]
    generalize hV : w1.alloc (.cells #[.int .i64 0, .string ⟨#[]⟩, .bool false, .bool false] 25) = V2 at *
    clear hV hgRP
    go_wp2_with (refine wpList_store_row (by rfl) 27 _ _ (by rfl) w.heap.size [.int .i64 0, .string ⟨#[]⟩, .bool false, .bool false, .int .i64 0, .string ⟨#[]⟩, .bool false, .bool false, .int .i64 0, .int .i64 0] (by rfl) (by rfl) 27 [.int .i64 0, .string ⟨#[]⟩, .bool false, .bool false, .int .i64 0, .string ⟨#[]⟩, .bool false, .bool false, .int .i64 0, .int .i64 0] RY (by kernel_rfl) rfl (by intro u hu; simp at hu; rcases hu with rfl | rfl | rfl | rfl | rfl | rfl | rfl | rfl | rfl | rfl <;> rfl) ?_)
    have NRY : RowIs (V2.setRow w.heap.size #[.int .i64 0, .string ⟨#[]⟩, .bool false, .bool false, .int .i64 0, .string ⟨#[]⟩, .bool false, .bool false, .int .i64 0, .int .i64 0]) w.heap.size 27 [.int .i64 0, .string ⟨#[]⟩, .bool false, .bool false, .int .i64 0, .string ⟨#[]⟩, .bool false, .bool false, .int .i64 0, .int .i64 0] := rowIs_setRow (cs' := [.int .i64 0, .string ⟨#[]⟩, .bool false, .bool false, .int .i64 0, .string ⟨#[]⟩, .bool false, .bool false, .int .i64 0, .int .i64 0]) RY
    have NRP := RP.kept (setRow_other V2 w.heap.size #[.int .i64 0, .string ⟨#[]⟩, .bool false, .bool false, .int .i64 0, .string ⟨#[]⟩, .bool false, .bool false, .int .i64 0, .int .i64 0] gRP (by omega))
    have NHB := below_setRow HB (show w.heap.size ≤ w.heap.size by omega) #[.int .i64 0, .string ⟨#[]⟩, .bool false, .bool false, .int .i64 0, .string ⟨#[]⟩, .bool false, .bool false, .int .i64 0, .int .i64 0]
    generalize hV : V2.setRow w.heap.size #[.int .i64 0, .string ⟨#[]⟩, .bool false, .bool false, .int .i64 0, .string ⟨#[]⟩, .bool false, .bool false, .int .i64 0, .int .i64 0] = V3 at *
    clear hV
    clear RY
    have RY := NRY
    clear NRY
    clear RP
    have RP := NRP
    clear NRP
    clear HB
    have HB := NHB
    clear NHB
    have y0 := RowIs.cell (j := 0) RY rfl
    have y1 := RowIs.cell (j := 1) RY rfl
    have y2 := RowIs.cell (j := 2) RY rfl
    have y3 := RowIs.cell (j := 3) RY rfl
    have y4 := RowIs.cell (j := 4) RY rfl
    have y5 := RowIs.cell (j := 5) RY rfl
    have y6 := RowIs.cell (j := 6) RY rfl
    have y7 := RowIs.cell (j := 7) RY rfl
    have y8 := RowIs.cell (j := 8) RY rfl
    have y9 := RowIs.cell (j := 9) RY rfl
    have yf := fun j => RowIs.frozen RY j
    have yl := RY.lt
    refine bodyPost_ret (v := .tuple #[.agg #[.int .i64 0, .string ⟨#[]⟩, .bool false, .bool false, .int .i64 0, .string ⟨#[]⟩, .bool false, .bool false, .int .i64 0, .int .i64 0], .bool false]) (by simp [results, Try.results24, go_sem, *]) rfl ?_
    exact ⟨rfl, HB⟩
  have hv : newTu r = (⟨⟨r, ⟨#[]⟩, false, false⟩, ⟨r, ⟨#[]⟩, false, false⟩, 0, 0⟩, true) := by unfold newTu; rw [if_pos hk]
  rw [hv]
  dsimp only [tuv]
  have hcl := specNew r (w.alloc (.cells #[.int .i64 0, .string ⟨#[]⟩, .bool false, .bool false, .int .i64 0, .string ⟨#[]⟩, .bool false, .bool false, .int .i64 0, .int .i64 0] 27))
  rw [hk] at hcl
  have RY := rowIs_new w 27 [.int .i64 0, .string ⟨#[]⟩, .bool false, .bool false, .int .i64 0, .string ⟨#[]⟩, .bool false, .bool false, .int .i64 0, .int .i64 0]
  have HB : Below w.heap.size w (w.alloc (.cells #[.int .i64 0, .string ⟨#[]⟩, .bool false, .bool false, .int .i64 0, .string ⟨#[]⟩, .bool false, .bool false, .int .i64 0, .int .i64 0] 27)) := (Below.refl _ _).alloc (Nat.le_refl _) _
  go_enter Try.func24, Try.ntmps24
  go_wp2_with fail
  refine hcl.mono ?_; clear hcl; rintro x w1 ⟨rfl, hb⟩
  replace RY := RY.new hb
  replace HB := bchain HB hb
  clear hb
  go_upto_region 2 with fail
  have hly := RY.lt
  obtain ⟨gRP, hgRP⟩ : ∃ g, g = w1.heap.size := ⟨_, rfl⟩
  have hltRYRP : w.heap.size < gRP := by have := RY.lt; omega
  have hleRP : w.heap.size ≤ gRP := by have := HB.size; omega
  have hbV : Below w1.heap.size w1 (w1.alloc (.cells #[.int .i64 r, .string ⟨#[]⟩, .bool false, .bool false] 25)) := (Below.refl _ _).alloc (Nat.le_refl _) _
  have RP : RowIs (w1.alloc (.cells #[.int .i64 r, .string ⟨#[]⟩, .bool false, .bool false] 25)) w1.heap.size 25 [.int .i64 r, .string ⟨#[]⟩, .bool false, .bool false] := rowIs_new w1 _ _
  replace RY := RY.new hbV
  replace HB := bchain HB hbV
  clear hbV
  rw [← hgRP] at RP
  try rw [← hgRP]
  generalize hV : w1.alloc (.cells #[.int .i64 r, .string ⟨#[]⟩, .bool false, .bool false] 25) = V2 at *
  clear hV hgRP
  have p0 := RowIs.cell (j := 0) RP rfl
  have p1 := RowIs.cell (j := 1) RP rfl
  have p2 := RowIs.cell (j := 2) RP rfl
  have p3 := RowIs.cell (j := 3) RP rfl
  have pf := fun j => RowIs.frozen RP j
  have pl := RP.lt
  go_wp2_with (refine wpList_store_row (by rfl) 27 _ _ (by rfl) w.heap.size [.int .i64 r, .string ⟨#[]⟩, .bool false, .bool false, .int .i64 r, .string ⟨#[]⟩, .bool false, .bool false, .int .i64 0, .int .i64 0] (by rfl) (by rfl) 27 [.int .i64 0, .string ⟨#[]⟩, .bool false, .bool false, .int .i64 0, .string ⟨#[]⟩, .bool false, .bool false, .int .i64 0, .int .i64 0] RY (by kernel_rfl) rfl (by intro u hu; simp at hu; rcases hu with rfl | rfl | rfl | rfl | rfl | rfl | rfl | rfl | rfl | rfl <;> rfl) ?_)
  clear p0 p1 p2 p3 pf pl
  have NRY : RowIs (V2.setRow w.heap.size #[.int .i64 r, .string ⟨#[]⟩, .bool false, .bool false, .int .i64 r, .string ⟨#[]⟩, .bool false, .bool false, .int .i64 0, .int .i64 0]) w.heap.size 27 [.int .i64 r, .string ⟨#[]⟩, .bool false, .bool false, .int .i64 r, .string ⟨#[]⟩, .bool false, .bool false, .int .i64 0, .int .i64 0] := rowIs_setRow (cs' := [.int .i64 r, .string ⟨#[]⟩, .bool false, .bool false, .int .i64 r, .string ⟨#[]⟩, .bool false, .bool false, .int .i64 0, .int .i64 0]) RY
  have NRP := RP.kept (setRow_other V2 w.heap.size #[.int .i64 r, .string ⟨#[]⟩, .bool false, .bool false, .int .i64 r, .string ⟨#[]⟩, .bool false, .bool false, .int .i64 0, .int .i64 0] gRP (by omega))
  have NHB := below_setRow HB (show w.heap.size ≤ w.heap.size by omega) #[.int .i64 r, .string ⟨#[]⟩, .bool false, .bool false, .int .i64 r, .string ⟨#[]⟩, .bool false, .bool false, .int .i64 0, .int .i64 0]
  generalize hV : V2.setRow w.heap.size #[.int .i64 r, .string ⟨#[]⟩, .bool false, .bool false, .int .i64 r, .string ⟨#[]⟩, .bool false, .bool false, .int .i64 0, .int .i64 0] = V3 at *
  clear hV
  clear RY
  have RY := NRY
  clear NRY
  clear RP
  have RP := NRP
  clear NRP
  clear HB
  have HB := NHB
  clear NHB
  have y0 := RowIs.cell (j := 0) RY rfl
  have y1 := RowIs.cell (j := 1) RY rfl
  have y2 := RowIs.cell (j := 2) RY rfl
  have y3 := RowIs.cell (j := 3) RY rfl
  have y4 := RowIs.cell (j := 4) RY rfl
  have y5 := RowIs.cell (j := 5) RY rfl
  have y6 := RowIs.cell (j := 6) RY rfl
  have y7 := RowIs.cell (j := 7) RY rfl
  have y8 := RowIs.cell (j := 8) RY rfl
  have y9 := RowIs.cell (j := 9) RY rfl
  have yf := fun j => RowIs.frozen RY j
  have yl := RY.lt
  refine bodyPost_ret (v := .tuple #[.agg #[.int .i64 r, .string ⟨#[]⟩, .bool false, .bool false, .int .i64 r, .string ⟨#[]⟩, .bool false, .bool false, .int .i64 0, .int .i64 0], .bool true]) (by simp [results, Try.results24, go_sem, *]) rfl ?_
  exact ⟨rfl, HB⟩
theorem specDryP (p : PpD) (w : World) (hb : p.b.size ≤ maxLen) : Calls Try.prog 46 #[pv p] w fun x w' => x = .returned (.bool (dryPp p)) ∧ Below w.heap.size w w' := specDry p.r p.b p.e p.k w hb
set_option maxHeartbeats 2000000 in
theorem specOver (t : TuD) (w : World) (h1 : t.up.b.size ≤ maxLen) (h2 : t.dn.b.size ≤ maxLen) : Calls Try.prog 21 #[tuv t] w fun x w' => x = .returned (.bool (ovrTu t)) ∧ Below w.heap.size w w' := by
  obtain ⟨⟨r, b, e, k⟩, ⟨r2, b2, e2, k2⟩, wt, cm⟩ := t
  unfold ovrTu
  dsimp only [tuv] at *
  cases hk : okTu ⟨⟨r, b, e, k⟩, ⟨r2, b2, e2, k2⟩, wt, cm⟩
  · have RX := rowIs_new w 27 [.int .i64 r, .string b, .bool e, .bool k, .int .i64 r2, .string b2, .bool e2, .bool k2, .int .i64 wt, .int .i64 cm]
    have HB : Below w.heap.size w (w.alloc (.cells #[.int .i64 r, .string b, .bool e, .bool k, .int .i64 r2, .string b2, .bool e2, .bool k2, .int .i64 wt, .int .i64 cm] 27)) := (Below.refl _ _).alloc (Nat.le_refl _) _
    have hok := fun u => specTunnelOk ⟨⟨r, b, e, k⟩, ⟨r2, b2, e2, k2⟩, wt, cm⟩ u h1 h2
    rw [hk] at hok
    go_enter Try.func21, Try.ntmps21
    go_wp2_with (refine wpList_load_row (by rfl) 27 _ (by rfl) w.heap.size (by rfl) [.int .i64 r, .string b, .bool e, .bool k, .int .i64 r2, .string b2, .bool e2, .bool k2, .int .i64 wt, .int .i64 cm] _ 27 RX Try.underlying27 rfl (by kernel_rfl) ?_)
    refine (hok _).mono ?_; clear hok; rintro x w1 ⟨rfl, hb⟩
    replace RX := RX.new hb
    replace HB := bchain HB hb
    clear hb
    have x0 := RowIs.cell (j := 0) RX rfl
    have x1 := RowIs.cell (j := 1) RX rfl
    have x2 := RowIs.cell (j := 2) RX rfl
    have x3 := RowIs.cell (j := 3) RX rfl
    have x4 := RowIs.cell (j := 4) RX rfl
    have x5 := RowIs.cell (j := 5) RX rfl
    have x6 := RowIs.cell (j := 6) RX rfl
    have x7 := RowIs.cell (j := 7) RX rfl
    have x8 := RowIs.cell (j := 8) RX rfl
    have x9 := RowIs.cell (j := 9) RX rfl
    have xf := fun j => RowIs.frozen RX j
    have xl := RX.lt
    go_wp2_with fail
    go_ret
    exact ⟨rfl, HB⟩
  cases hu : dryPp ⟨r, b, e, k⟩
  · have RX := rowIs_new w 27 [.int .i64 r, .string b, .bool e, .bool k, .int .i64 r2, .string b2, .bool e2, .bool k2, .int .i64 wt, .int .i64 cm]
    have HB : Below w.heap.size w (w.alloc (.cells #[.int .i64 r, .string b, .bool e, .bool k, .int .i64 r2, .string b2, .bool e2, .bool k2, .int .i64 wt, .int .i64 cm] 27)) := (Below.refl _ _).alloc (Nat.le_refl _) _
    have hok := fun u => specTunnelOk ⟨⟨r, b, e, k⟩, ⟨r2, b2, e2, k2⟩, wt, cm⟩ u h1 h2
    rw [hk] at hok
    go_enter Try.func21, Try.ntmps21
    go_wp2_with (refine wpList_load_row (by rfl) 27 _ (by rfl) w.heap.size (by rfl) [.int .i64 r, .string b, .bool e, .bool k, .int .i64 r2, .string b2, .bool e2, .bool k2, .int .i64 wt, .int .i64 cm] _ 27 RX Try.underlying27 rfl (by kernel_rfl) ?_)
    refine (hok _).mono ?_; clear hok; rintro x w1 ⟨rfl, hb⟩
    replace RX := RX.new hb
    replace HB := bchain HB hb
    clear hb
    have x0 := RowIs.cell (j := 0) RX rfl
    have x1 := RowIs.cell (j := 1) RX rfl
    have x2 := RowIs.cell (j := 2) RX rfl
    have x3 := RowIs.cell (j := 3) RX rfl
    have x4 := RowIs.cell (j := 4) RX rfl
    have x5 := RowIs.cell (j := 5) RX rfl
    have x6 := RowIs.cell (j := 6) RX rfl
    have x7 := RowIs.cell (j := 7) RX rfl
    have x8 := RowIs.cell (j := 8) RX rfl
    have x9 := RowIs.cell (j := 9) RX rfl
    have xf := fun j => RowIs.frozen RX j
    have xl := RX.lt
    go_wp2_with fail
    clear x0 x1 x2 x3 x4 x5 x6 x7 x8 x9 xf xl
    refine (specDryP ⟨r, b, e, k⟩ _ h1).mono ?_; rw [hu]; rintro x w2 ⟨rfl, hb⟩
    replace RX := RX.new hb
    replace HB := bchain HB hb
    clear hb
    have x0 := RowIs.cell (j := 0) RX rfl
    have x1 := RowIs.cell (j := 1) RX rfl
    have x2 := RowIs.cell (j := 2) RX rfl
    have x3 := RowIs.cell (j := 3) RX rfl
    have x4 := RowIs.cell (j := 4) RX rfl
    have x5 := RowIs.cell (j := 5) RX rfl
    have x6 := RowIs.cell (j := 6) RX rfl
    have x7 := RowIs.cell (j := 7) RX rfl
    have x8 := RowIs.cell (j := 8) RX rfl
    have x9 := RowIs.cell (j := 9) RX rfl
    have xf := fun j => RowIs.frozen RX j
    have xl := RX.lt
    go_wp2_with fail
    go_ret
    exact ⟨rfl, HB⟩
  have RX := rowIs_new w 27 [.int .i64 r, .string b, .bool e, .bool k, .int .i64 r2, .string b2, .bool e2, .bool k2, .int .i64 wt, .int .i64 cm]
  have HB : Below w.heap.size w (w.alloc (.cells #[.int .i64 r, .string b, .bool e, .bool k, .int .i64 r2, .string b2, .bool e2, .bool k2, .int .i64 wt, .int .i64 cm] 27)) := (Below.refl _ _).alloc (Nat.le_refl _) _
  have hok := fun u => specTunnelOk ⟨⟨r, b, e, k⟩, ⟨r2, b2, e2, k2⟩, wt, cm⟩ u h1 h2
  rw [hk] at hok
  go_enter Try.func21, Try.ntmps21
  go_wp2_with (refine wpList_load_row (by rfl) 27 _ (by rfl) w.heap.size (by rfl) [.int .i64 r, .string b, .bool e, .bool k, .int .i64 r2, .string b2, .bool e2, .bool k2, .int .i64 wt, .int .i64 cm] _ 27 RX Try.underlying27 rfl (by kernel_rfl) ?_)
  refine (hok _).mono ?_; clear hok; rintro x w1 ⟨rfl, hb⟩
  replace RX := RX.new hb
  replace HB := bchain HB hb
  clear hb
  have x0 := RowIs.cell (j := 0) RX rfl
  have x1 := RowIs.cell (j := 1) RX rfl
  have x2 := RowIs.cell (j := 2) RX rfl
  have x3 := RowIs.cell (j := 3) RX rfl
  have x4 := RowIs.cell (j := 4) RX rfl
  have x5 := RowIs.cell (j := 5) RX rfl
  have x6 := RowIs.cell (j := 6) RX rfl
  have x7 := RowIs.cell (j := 7) RX rfl
  have x8 := RowIs.cell (j := 8) RX rfl
  have x9 := RowIs.cell (j := 9) RX rfl
  have xf := fun j => RowIs.frozen RX j
  have xl := RX.lt
  go_wp2_with fail
  clear x0 x1 x2 x3 x4 x5 x6 x7 x8 x9 xf xl
  refine (specDryP ⟨r, b, e, k⟩ _ h1).mono ?_; rw [hu]; rintro x w2 ⟨rfl, hb⟩
  replace RX := RX.new hb
  replace HB := bchain HB hb
  clear hb
  have x0 := RowIs.cell (j := 0) RX rfl
  have x1 := RowIs.cell (j := 1) RX rfl
  have x2 := RowIs.cell (j := 2) RX rfl
  have x3 := RowIs.cell (j := 3) RX rfl
  have x4 := RowIs.cell (j := 4) RX rfl
  have x5 := RowIs.cell (j := 5) RX rfl
  have x6 := RowIs.cell (j := 6) RX rfl
  have x7 := RowIs.cell (j := 7) RX rfl
  have x8 := RowIs.cell (j := 8) RX rfl
  have x9 := RowIs.cell (j := 9) RX rfl
  have xf := fun j => RowIs.frozen RX j
  have xl := RX.lt
  go_wp2_with fail
  clear x0 x1 x2 x3 x4 x5 x6 x7 x8 x9 xf xl
  refine (specDryP ⟨r2, b2, e2, k2⟩ _ h2).mono ?_; rintro x w3 ⟨rfl, hb⟩
  replace RX := RX.new hb
  replace HB := bchain HB hb
  clear hb
  have x0 := RowIs.cell (j := 0) RX rfl
  have x1 := RowIs.cell (j := 1) RX rfl
  have x2 := RowIs.cell (j := 2) RX rfl
  have x3 := RowIs.cell (j := 3) RX rfl
  have x4 := RowIs.cell (j := 4) RX rfl
  have x5 := RowIs.cell (j := 5) RX rfl
  have x6 := RowIs.cell (j := 6) RX rfl
  have x7 := RowIs.cell (j := 7) RX rfl
  have x8 := RowIs.cell (j := 8) RX rfl
  have x9 := RowIs.cell (j := 9) RX rfl
  have xf := fun j => RowIs.frozen RX j
  have xl := RX.lt
  go_wp2_with fail
  go_ret
  exact ⟨rfl, HB⟩
end Go.Proofs.Ythkjjnnmnacgcaa
