/- The drawing of Memories and picks: small pieces. -/
import Derived.Test.YtdplpkobpoiioaaSpecPicked
import Derived.Test.YtdplpkobpoiioaaCur


namespace Go.Proofs.Ytdplpkobpoiioaa
open Go.RowKit
set_option linter.unusedSimpArgs false
set_option linter.unusedVariables false

theorem Moves.turn {g : Nat} {w w' : World} (h : Moves g w w') : Turn g (g + 1) w w' := ⟨h.os, h.tape, h.output, h.size, fun k hk hg => h.block k hk (by omega)⟩
theorem OwnM.moves {w w' : World} {lo hi g : Nat} {m : Mm} (h : OwnM w lo hi m) (hm : Moves g w w') (hg : g < lo) : OwnM w' lo hi m := h.far hm.turn (.inr (by omega))
theorem owns_moves {w w' : World} {g base n size : Nat} {e : TypeId} {v : Value} {xs : List Value} (h : w.ownsRow base e size v n xs) (hm : Moves g w w') (hg : g < base) : w'.ownsRow base e size v n xs :=
  owns_turn h hm.turn fun k hk => by have := (h.lt k hk).1; omega
theorem Moves.grown {g : Nat} {w a b : World} {row : Option Nat} (h : Moves g w a) (hg : a.grownBy b row) (hr : ∀ k, row = some k → w.heap.size ≤ k) : Moves g w b :=
  ⟨hg.os.trans h.os, hg.tape.trans h.tape, hg.output.trans h.output, Nat.le_trans h.size hg.size, fun k hk hne => (hg.block k (Nat.lt_of_lt_of_le hk h.size) (fun e => by have := hr k e.symm; omega)).trans (h.block k hk hne)⟩
theorem Cur.grown {w w' : World} {g B : Nat} {row : Option Nat} (h : Cur w g B) (hg : w.grownBy w' row) (hr : ∀ k, row = some k → g < k) : Cur w' g B :=
  h.kept ⟨hg.os, hg.tape, hg.output, hg.size, fun k hk => hg.block k (by have := h.lt; omega) (fun e => by have := hr k e.symm; omega)⟩
theorem Cur.turn {w w' : World} {g B lo hi : Nat} (h : Cur w g B) (ht : Turn lo hi w w') (hl : g < lo) : Cur w' g B :=
  h.kept ⟨ht.os, ht.tape, ht.output, ht.size, fun k hk => ht.block k (by have := h.lt; omega) (by omega)⟩
theorem Moves.turned {w a b : World} {g lo hi : Nat} (h : Moves g w a) (ht : Turn lo hi a b) (hl : w.heap.size ≤ lo) : Moves g w b :=
  ⟨ht.os.trans h.os, ht.tape.trans h.tape, ht.output.trans h.output, Nat.le_trans h.size ht.size, fun k hk hg => (ht.block k (by have := h.size; omega) (by omega)).trans (h.block k hk hg)⟩

theorem from1 (g B : Nat) (lo hi : Int) (w : World) (hc : Cur w g B) (h0 : -1000 ≤ lo) (h1 : lo ≤ hi) (h2 : hi ≤ 1000) :
    Calls Try.prog 40 #[.pointer (some ⟨g, 0, none⟩), .int .i64 lo, .int .i64 hi] w fun e w' => ∃ x : Int, lo ≤ x ∧ x ≤ hi ∧ e = .returned (.int .i64 x) ∧ Cur w' g B ∧ Moves g w w' := by
  go_enter Try.func40, Try.ntmps40
  go_wp2_with fail
  refine (below1 g B (hi - lo + 1) _ hc (by omega)).mono ?_; rintro e w1 ⟨x, x0, x1, x2, rfl, hc1, hm1⟩
  have x3 := x1 (by omega)
  go_wp2_with fail
  go_ret
  exact ⟨lo + x, by omega, by omega, rfl, hc1, hm1⟩

theorem made_zeros (n : Nat) : (madeCells (Value.int .i64 0).cells n).toList = iv (List.replicate n 0) := by
  apply List.ext_getElem?
  intro j
  by_cases h : j < n
  · simp [madeCells, iv, Value.cells, h, Nat.mod_one]
  · simp [madeCells, iv, Value.cells, h]
/-- make([]int64, R): R zeros. -/
theorem make_zeros (R : Nat) (h : R ≤ 1048576) : ∃ M : Array Value, M.size = R ∧ M.toList = iv (List.replicate R 0) ∧ ∀ X : World, (Instr.makeSlice 24 (.int .i64 (R : Int)) (.int .i64 (R : Int))).run Try.prog X = .ok (.slice (some ⟨X.heap.size, 0, none⟩) R R) (X.alloc (.cells M 2)) := by
  obtain ⟨i0, hi, hz0, hz1, hz2⟩ := info_parts (P := Try.prog) (e := 2) (z := .int .i64 0) (size := 1) (bytes := 8) (by kernel_rfl)
  refine ⟨madeCells (Value.int .i64 0).cells (R * 1), by rw [size_madeCells, Nat.mul_one], by rw [Nat.mul_one]; exact made_zeros R, fun X => ?_⟩
  have h := run_make (P := Try.prog) X 24 2 i0 (.int .i64 0) Try.underlying24 hi hz0 .i64 .i64 (R : Int) (R : Int) (by omega) (by omega) (by rw [hz2]; omega) (by omega)
  rw [hz1] at h
  simpa using h

theorem reads_one (w : World) (x : Value) (t : TypeId) : Reads (w.alloc (.cells #[x] t)) (.slice (some ⟨w.heap.size, 0, none⟩) 1 1) 1 1 [x] :=
  ⟨rfl, _, _, rfl, Nat.le_refl _, by unfold maxLen; omega, fun _ => ⟨w.heap.size, 0, rfl, by simp, fun j u hu => by rw [Nat.zero_add, World.cell?_alloc_new]; simpa using hu⟩⟩

set_option maxHeartbeats 2000000 in
theorem picks1 (g B : Nat) (w : World) (hc : Cur w g B) :
    Calls Try.prog 36 #[.pointer (some ⟨g, 0, none⟩)] w fun e w' => ∃ (v : Value) (L : List Int), e = .returned v ∧ w'.ownsRow w.heap.size 2 1 v L.length (iv L) ∧ L.length ≤ 201 ∧ Cur w' g B ∧ Moves g w w' := by
  have hgw := hc.lt
  have ho0 := World.ownsRow_made (base := w.heap.size) (e := 2) (size := 1) w #[] 0 (Nat.le_refl _) (Nat.zero_le _) rfl
  have HO0 := hide ho0
  clear ho0
  go_enter Try.func36, Try.ntmps36
  go_wp2_with fail
  refine (below1 g B 40 _ (hc.alloc _) (by omega)).mono ?_; rintro e w1 ⟨x, x0, x1, x2, rfl, hc1, hm1⟩
  have x3 := x1 (by omega)
  have hs1 := hm1.size
  simp at hs1
  have hm1' : Moves g w w1 := ((Moves.refl g w).alloc _).trans hm1
  have HO1 := hide (owns_moves HO0.out hm1 hgw)
  obtain ⟨x, rfl⟩ := Int.eq_ofNat_of_zero_le x0
  clear hm1
  go_wp2_with fail
  go_loopw [3, 4] (fun v n wr => ∃ (m : Nat) (L : List Int), n = .int .i64 m ∧ m + L.length ≤ 40 ∧ wr.ownsRow w.heap.size 2 1 v L.length (iv L) ∧ Cur wr g B ∧ Moves g w wr) (fun _ n _ => (intOf n).toNat)
  case atStart => exact ⟨x, [], rfl, by simp; omega, HO1.out, hc1, hm1'⟩
  case round =>
    obtain ⟨m, L, rfl, hmx, hown, hcr, hmr⟩ := hrel
    have hsr := hmr.size
    have HOWN := hide hown
    obtain ⟨ad, cap, rfl, _⟩ := owns_form hown
    clear hown
    by_cases hm : 0 < m
    · obtain ⟨m', rfl⟩ : ∃ m', m = m' + 1 := ⟨m - 1, by omega⟩
      go_wp2_with fail
      refine (below1 g B 5 _ hcr (by omega)).mono ?_; rintro e w2 ⟨y, y0, y1, y2, rfl, hc2, hm2⟩
      have hs2 := hm2.size
      have HOWN2 := hide ((owns_moves HOWN.out hm2 hgw).alloc (.cells #[.int .i64 y] 2))
      go_wp2_with (at_builtin; refine Hid.out ?_)
      show wpList _ _ _ _ _ _
      refine (wpList_app _ rfl _ _ 24 rfl 2 (.int .i64 0) 1 8 Try.underlying24 (by kernel_rfl) rfl (by decide) w.heap.size (.slice ad L.length cap) L.length (iv L) rfl HOWN2.out (.slice (some ⟨w2.heap.size, 0, none⟩) 1 1) 1 [.int .i64 y] rfl (reads_one _ _ _) ?e1 (by omega) (by decide) ?e2 ?_)
      case e1 => intro u hu; simp at hu; subst hu; rfl
      case e2 => simp; omega
      intro ad3 cap3 w3 hown3 hgrow3 hat3
      clear hat3
      have hrow : ∀ k, (Value.slice ad L.length cap).ownBlock = some k → w.heap.size ≤ k := fun k hk => (HOWN.out.lt k hk).1
      have hc3 : Cur w3 g B := (hc2.alloc _).grown hgrow3 (fun k hk => by have := hrow k hk; omega)
      have hm3 : Moves g w w3 := ((hmr.trans hm2).alloc _).grown hgrow3 hrow
      have HO3 : Hid (w3.ownsRow w.heap.size 2 1 (.slice ad3 (L.length + 1) cap3) (L ++ [y]).length (iv (L ++ [y]))) := by
        show World.ownsRow _ _ _ _ _ _ _
        rw [List.length_append, show iv (L ++ [y]) = iv L ++ [.int .i64 y] by simp [iv]]
        exact hown3
      clear hown3 hgrow3 hrow
      go_wp2_with fail
      go_roundw
      case rel => exact ⟨m', L ++ [y], by go_num, by simp; omega, HO3.out, hc3, hm3⟩
      case measure => simp [intOf]
    · obtain rfl : m = 0 := by omega
      go_wp2_with fail
      refine (once1 g B 30 _ hcr (by omega)).mono ?_; rintro e w2 ⟨v, rfl, hc2, hm2⟩
      have HOWN2 := hide (owns_moves HOWN.out hm2 hgw)
      have hmw : Moves g w w2 := hmr.trans hm2
      have hs2 := hm2.size
      cases v
      · go_wp2_with fail
        go_ret
        exact ⟨_, L, rfl, HOWN2.out, by omega, hc2, hmw⟩
      · go_wp2_with fail
        refine (below1 g B 2 _ hc2 (by omega)).mono ?_; rintro e w3 ⟨y, y0, y1, y2, rfl, hc3, hm3⟩
        have y3 := y1 (by omega)
        obtain ⟨y, rfl⟩ := Int.eq_ofNat_of_zero_le y0
        obtain ⟨M, hM, hMl, hmk⟩ := make_zeros (200 + y) (by omega)
        have hmk' : ∀ X : World, (Instr.makeSlice 24 (.int .i64 (200 + (y : Int))) (.int .i64 (200 + (y : Int)))).run Try.prog X = .ok (.slice (some ⟨X.heap.size, 0, none⟩) (200 + y) (200 + y)) (X.alloc (.cells M 2)) := fun X => by
          have := hmk X
          simpa using this
        have ho := owns_made w3 M 2 1 (200 + y) (by omega) (by omega)
        rw [hMl] at ho
        have HO := hide ho
        have hs3 := hm3.size
        clear ho hmk hMl
        go_wp2_with fail
        go_ret
        refine ⟨_, List.replicate (200 + y) 0, rfl, ?_, by simp; omega, hc3.alloc _, (hmw.trans hm3).alloc _⟩
        rw [List.length_replicate]
        exact owns_base HO.out fun k hk => by have := (HO.out.lt k hk).1; omega
end Go.Proofs.Ytdplpkobpoiioaa
