/- The pipes that chapter 1's law draws: whatever comes, each is a pipe whose bytes are few; of what was there the cursor alone has moved. -/
import Derived.Test.YthkjjnnmnacgcaaPipe4
import Derived.Test.YthkjjnnmnacgcaaText
import Derived.Handy

namespace Go.Proofs.Ythkjjnnmnacgcaa
open Go.RowKit
set_option maxRecDepth 100000
set_option linter.unusedSimpArgs false
set_option linter.unusedVariables false

/-- A pipe in block p. -/
def PipeAt (w : World) (p : Nat) (r : Int) (b : ByteArray) (e k : Bool) : Prop := w.heap[p]? = some (.cells #[.int .i64 r, .string b, .bool e, .bool k] 25 (0, 0))

theorem PipeAt.cells {w : World} {p : Nat} {r : Int} {b : ByteArray} {e k : Bool} (h : PipeAt w p r b e k) :
    w.cell? ⟨p, 0, none⟩ = some (.int .i64 r) ∧ w.cell? ⟨p, 1, none⟩ = some (.string b) ∧ w.cell? ⟨p, 2, none⟩ = some (.bool e) ∧ w.cell? ⟨p, 3, none⟩ = some (.bool k) ∧ ∀ o, w.frozen? ⟨p, o, none⟩ = false :=
  ⟨Joins.cell_of_block h 0, Joins.cell_of_block h 1, Joins.cell_of_block h 2, Joins.cell_of_block h 3, Joins.unfrozen_of_block h⟩
theorem PipeAt.lt {w : World} {p : Nat} {r : Int} {b : ByteArray} {e k : Bool} (h : PipeAt w p r b e k) : p < w.heap.size := (Array.getElem?_eq_some_iff.1 h).1
theorem PipeAt.moves {w w' : World} {g p : Nat} {r : Int} {b : ByteArray} {e k : Bool} (h : PipeAt w p r b e k) (hm : Moves g w w') (hp : p ≠ g) : PipeAt w' p r b e k := by
  unfold PipeAt
  rw [hm.block p h.lt hp]
  exact h
theorem PipeAt.setBytes {w : World} {p : Nat} {r : Int} {b : ByteArray} {e k : Bool} (h : PipeAt w p r b e k) (b' : ByteArray) : PipeAt (w.setCell ⟨p, 1, none⟩ (.string b')) p r b' e k := by
  have := Joins.block_setCell (i := 1) h (.string b')
  simpa [PipeAt] using this
theorem PipeAt.setEnded {w : World} {p : Nat} {r : Int} {b : ByteArray} {e k : Bool} (h : PipeAt w p r b e k) (e' : Bool) : PipeAt (w.setCell ⟨p, 2, none⟩ (.bool e')) p r b e' k := by
  have := Joins.block_setCell (i := 2) h (.bool e')
  simpa [PipeAt] using this
theorem PipeAt.drewN {w : World} {p : Nat} {r : Int} {b : ByteArray} {e k : Bool} (h : PipeAt w p r b e k) (q : Nat) : PipeAt (w.drewN q) p r b e k := h

theorem extract_le (b : ByteArray) (i j : Nat) : (b.extract i j).size ≤ b.size := by rw [ByteArray.size_extract]; omega

set_option maxHeartbeats 1000000 in
theorem draw1 (g B : Nat) (w : World) (hc : Cur w g B) :
    Calls Try.prog 66 #[.pointer (some ⟨g, 0, none⟩)] w fun x w' => ∃ (r : Int) (b : ByteArray) (e k : Bool), 1 ≤ r ∧ r ≤ 12 ∧ (b.size : Int) ≤ r ∧ x = .returned (.agg #[.int .i64 r, .string b, .bool e, .bool k]) ∧ Cur w' g B ∧ Moves g w w' := by
  have hgw := hc.lt
  go_enter Try.func66, Try.ntmps66
  go_wp2_with fail
  refine (below1 g B 12 _ (hc.alloc _) (by omega)).mono ?_; rintro x w1 ⟨r0, r1, r2, _, rfl, hc1, hm1⟩
  have r3 : r0 < 12 := r2 (by omega)
  have hs1 := hm1.size
  simp at hs1
  go_wp2_with fail
  refine (below1 g B 6 _ (hc1.alloc _) (by omega)).mono ?_; rintro x w2 ⟨n0, n1, n2, _, rfl, hc2, hm2⟩
  have n3 : n0 < 6 := n2 (by omega)
  have hs2 := hm2.size
  simp at hs2
  have hp2 : PipeAt w2 w1.heap.size (1 + r0) ⟨#[]⟩ false false := PipeAt.moves (heap_alloc_new w1 _) hm2 (by omega)
  have hM2 := (hm1.alloc (.cells #[.int .i64 (1 + r0), .string ⟨#[]⟩, .bool false, .bool false] 25)).trans hm2
  go_wp2_with fail
  go_loopw [4] (fun n wr => ∃ (m : Nat) (b : ByteArray), n = .int .i64 m ∧ m ≤ 6 ∧ (b.size : Int) ≤ 1 + r0 ∧ PipeAt wr w1.heap.size (1 + r0) b false false ∧ Cur wr g B ∧ Moves g (w.alloc (.cells #[.int .i64 0, .string ⟨#[]⟩, .bool false, .bool false] 25)) wr) (fun n _ => (intOf n).toNat)
  case atStart =>
    obtain ⟨m, rfl⟩ : ∃ m : Nat, n0 = m := ⟨n0.toNat, by omega⟩
    exact ⟨m, ⟨#[]⟩, rfl, by omega, by show ((0 : Nat) : Int) ≤ 1 + r0; omega, hp2, hc2, hM2⟩
  case round =>
    obtain ⟨m, b, rfl, hm6, hbr, hp, hcr, hmr⟩ := hrel
    by_cases hm : 0 < m
    · obtain ⟨m', rfl⟩ : ∃ m', m = m' + 1 := ⟨m - 1, by omega⟩
      go_wp2_with fail
      refine (once1 g B 3 _ hcr (by omega)).mono ?_; rintro x w3 ⟨v, rfl, hc3, hm3⟩
      have hp3 := hp.moves hm3 (by omega)
      cases v
      · go_wp2_with fail
        refine (text1 g B 6 _ hc3 (by omega) (by omega)).mono ?_; rintro x w4 ⟨s, hs, rfl, hc4, hm4⟩
        have hp4 := hp3.moves hm4 (by omega)
        obtain ⟨d0, d1, d2, d3, df⟩ := hp4.cells
        obtain ⟨n, hn⟩ : ∃ n : Nat, min (s.size : Int) (1 + r0 - b.size) = n := ⟨(min (s.size : Int) (1 + r0 - b.size)).toNat, by omega⟩
        go_wp2_with fail
        refine (push1_open (1 + r0) b s w1.heap.size _ (by omega) (by omega) hbr n hn d0 d1 d2 d3 (df 1)).mono ?_; rintro x w5 ⟨rfl, q, rfl⟩
        have hp5 := (hp4.drewN q).setBytes (b ++ s.extract 0 n)
        have hc5 := (hc4.drewN q).set ⟨w1.heap.size, 1, none⟩ (.string (b ++ s.extract 0 n)) (by simp; omega)
        have hm5 := ((hmr.trans (hm3.trans hm4)).drewN q).setNew ⟨w1.heap.size, 1, none⟩ (by simp; omega) (.string (b ++ s.extract 0 n))
        have hsz : (b ++ s.extract 0 n).size = b.size + n := by rw [ByteArray.size_append, extract_size s n (by omega)]
        go_wp2_with fail
        go_roundw
        case rel => exact ⟨m', b ++ s.extract 0 n, by go_num, by omega, by omega, hp5, hc5, hm5⟩
        case measure => simp [intOf]
      · go_wp2_with fail
        refine (below1 g B 5 _ hc3 (by omega)).mono ?_; rintro x w4 ⟨k0, k1, k2, _, rfl, hc4, hm4⟩
        have hp4 := hp3.moves hm4 (by omega)
        obtain ⟨d0, d1, d2, d3, df⟩ := hp4.cells
        go_wp2_with fail
        refine (pull1 (1 + r0) b false false k0 w1.heap.size _ (by unfold maxLen; omega) d1 (df 1)).mono ?_; rintro x w5 ⟨rfl, rfl⟩
        have hp5 := hp4.setBytes (b.extract (max 0 (min k0 (b.size : Int))).toNat b.size)
        have hc5 := hc4.set ⟨w1.heap.size, 1, none⟩ (.string (b.extract (max 0 (min k0 (b.size : Int))).toNat b.size)) (by simp; omega)
        have hm5 := (hmr.trans (hm3.trans hm4)).setNew ⟨w1.heap.size, 1, none⟩ (by simp; omega) (.string (b.extract (max 0 (min k0 (b.size : Int))).toNat b.size))
        have hsz := extract_le b (max 0 (min k0 (b.size : Int))).toNat b.size
        go_wp2_with fail
        go_roundw
        case rel => exact ⟨m', _, by go_num, by omega, by omega, hp5, hc5, hm5⟩
        case measure => simp [intOf]
    · obtain rfl : m = 0 := by omega
      go_wp2_with fail
      refine (once1 g B 8 _ hcr (by omega)).mono ?_; rintro x w3 ⟨v, rfl, hc3, hm3⟩
      have hp3 := hp.moves hm3 (by omega)
      have hM3 := hmr.trans hm3
      have hs3 := hM3.size
      simp at hs3
      obtain ⟨d0, d1, d2, d3, df⟩ := hp3.cells
      have hempty : (((⟨#[]⟩ : ByteArray).size : Nat) : Int) ≤ 1 + r0 := by show ((0 : Nat) : Int) ≤ 1 + r0; omega
      cases v
      · go_wp2_with fail
        refine (once1 g B 10 _ hc3 (by omega)).mono ?_; rintro x w5 ⟨v, rfl, hc5, hm5⟩
        have hp5 := PipeAt.moves hp3 hm5 (by omega)
        have hM5 := Moves.trans hM3 hm5
        have hs5 := hM5.size
        simp at hs5
        obtain ⟨f0, f1, f2, f3, ff⟩ := hp5.cells
        have rc := fun o => hM5.cell w.heap.size o (by simp) (by omega)
        have rf := fun o => hM5.frozen w.heap.size o (by simp) (by omega)
        have hlt5 := hp5.lt
        have hMw : Moves g w w5 := Moves.trans ((Moves.refl g w).alloc (.cells #[.int .i64 0, .string ⟨#[]⟩, .bool false, .bool false] 25)) hM5
        have hne : w.heap.size ≠ w1.heap.size := by omega
        cases v
        · go_wp2_with fail
          refine bodyPost_ret (v := .agg #[.int .i64 (1 + r0), .string b, .bool false, .bool false]) (by simp [results, Try.results66, go_sem, *]) rfl ?_
          refine ⟨1 + r0, b, false, false, by omega, by omega, hbr, rfl, ?_, ?_⟩
          · repeat' (first | (with_reducible exact hc5) | (with_reducible refine Cur.set ?_ _ _ ?_) | (with_reducible refine Cur.alloc ?_ _) | (with_reducible refine Cur.drewN ?_ _) | (with_reducible refine Cur.drew ?_) | omega | (simp; done) | (simp; omega))
          · repeat' (first | (with_reducible exact hMw) | (with_reducible refine Moves.setNew ?_ _ ?_ _) | (with_reducible refine Moves.alloc ?_ _) | (with_reducible refine Moves.drewN _ ?_) | (with_reducible refine Moves.drew ?_) | omega | (simp; done) | (simp; omega))
        · go_wp2_with fail
          refine bodyPost_ret (v := .agg #[.int .i64 (1 + r0), .string ⟨#[]⟩, .bool false, .bool true]) (by simp [results, Try.results66, go_sem, *]) rfl ?_
          refine ⟨1 + r0, ⟨#[]⟩, false, true, by omega, by omega, hempty, rfl, ?_, ?_⟩
          · repeat' (first | (with_reducible exact hc5) | (with_reducible refine Cur.set ?_ _ _ ?_) | (with_reducible refine Cur.alloc ?_ _) | (with_reducible refine Cur.drewN ?_ _) | (with_reducible refine Cur.drew ?_) | omega | (simp; done) | (simp; omega))
          · repeat' (first | (with_reducible exact hMw) | (with_reducible refine Moves.setNew ?_ _ ?_ _) | (with_reducible refine Moves.alloc ?_ _) | (with_reducible refine Moves.drewN _ ?_) | (with_reducible refine Moves.drew ?_) | omega | (simp; done) | (simp; omega))
      · have hp4 := hp3.setEnded true
        have hc4 := hc3.set ⟨w1.heap.size, 2, none⟩ (.bool true) (by simp; omega)
        have hM4 := hM3.setNew ⟨w1.heap.size, 2, none⟩ (by simp; omega) (.bool true)
        go_wp2_with fail
        refine (once1 g B 10 _ hc4 (by omega)).mono ?_; rintro x w5 ⟨v, rfl, hc5, hm5⟩
        have hp5 := PipeAt.moves hp4 hm5 (by omega)
        have hM5 := Moves.trans hM4 hm5
        have hs5 := hM5.size
        simp at hs5
        obtain ⟨f0, f1, f2, f3, ff⟩ := hp5.cells
        have rc := fun o => hM5.cell w.heap.size o (by simp) (by omega)
        have rf := fun o => hM5.frozen w.heap.size o (by simp) (by omega)
        have hlt5 := hp5.lt
        have hMw : Moves g w w5 := Moves.trans ((Moves.refl g w).alloc (.cells #[.int .i64 0, .string ⟨#[]⟩, .bool false, .bool false] 25)) hM5
        have hne : w.heap.size ≠ w1.heap.size := by omega
        cases v
        · go_wp2_with fail
          refine bodyPost_ret (v := .agg #[.int .i64 (1 + r0), .string b, .bool true, .bool false]) (by simp [results, Try.results66, go_sem, *]) rfl ?_
          refine ⟨1 + r0, b, true, false, by omega, by omega, hbr, rfl, ?_, ?_⟩
          · repeat' (first | (with_reducible exact hc5) | (with_reducible refine Cur.set ?_ _ _ ?_) | (with_reducible refine Cur.alloc ?_ _) | (with_reducible refine Cur.drewN ?_ _) | (with_reducible refine Cur.drew ?_) | omega | (simp; done) | (simp; omega))
          · repeat' (first | (with_reducible exact hMw) | (with_reducible refine Moves.setNew ?_ _ ?_ _) | (with_reducible refine Moves.alloc ?_ _) | (with_reducible refine Moves.drewN _ ?_) | (with_reducible refine Moves.drew ?_) | omega | (simp; done) | (simp; omega))
        · go_wp2_with fail
          refine bodyPost_ret (v := .agg #[.int .i64 (1 + r0), .string ⟨#[]⟩, .bool true, .bool true]) (by simp [results, Try.results66, go_sem, *]) rfl ?_
          refine ⟨1 + r0, ⟨#[]⟩, true, true, by omega, by omega, hempty, rfl, ?_, ?_⟩
          · repeat' (first | (with_reducible exact hc5) | (with_reducible refine Cur.set ?_ _ _ ?_) | (with_reducible refine Cur.alloc ?_ _) | (with_reducible refine Cur.drewN ?_ _) | (with_reducible refine Cur.drew ?_) | omega | (simp; done) | (simp; omega))
          · repeat' (first | (with_reducible exact hMw) | (with_reducible refine Moves.setNew ?_ _ ?_ _) | (with_reducible refine Moves.alloc ?_ _) | (with_reducible refine Moves.drewN _ ?_) | (with_reducible refine Moves.drew ?_) | omega | (simp; done) | (simp; omega))
end Go.Proofs.Ythkjjnnmnacgcaa
