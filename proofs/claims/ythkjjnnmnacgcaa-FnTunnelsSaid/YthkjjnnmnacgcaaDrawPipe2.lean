/- What chapter 1's law draws, the whole inputs. -/
import Derived.Test.YthkjjnnmnacgcaaDrawPipe
import Derived.Handy
import Derived.Deep.RegionHeld3

namespace Go.Proofs.Ythkjjnnmnacgcaa
open Go.RowKit
set_option maxRecDepth 100000
set_option linter.unusedSimpArgs false
set_option linter.unusedVariables false

set_option maxHeartbeats 1000000 in
theorem drawAnyPp (g B : Nat) (w : World) (hc : Cur w g B) :
    Calls Try.prog 52 #[.pointer (some ⟨g, 0, none⟩)] w fun x w' => ∃ (r : Int) (b : ByteArray) (e k : Bool), b.size ≤ 100 ∧ x = .returned (.agg #[.int .i64 r, .string b, .bool e, .bool k]) ∧ Cur w' g B ∧ Moves g w w' := by
  have hgw := hc.lt
  go_enter Try.func52, Try.ntmps52
  go_wp2_with fail
  refine (draw1 g B _ (hc.alloc _)).mono ?_; rintro x w1 ⟨r, b, e, k, r1, r2, hbr, rfl, hc1, hm1⟩
  have hs1 := hm1.size
  simp at hs1
  go_wp2_with fail
  refine (once1 g B 12 _ (hc1.alloc _) (by omega)).mono ?_; rintro x w2 ⟨v, rfl, hc2, hm2⟩
  have hp2 : PipeAt w2 w1.heap.size r b e k := PipeAt.moves (heap_alloc_new w1 _) hm2 (by omega)
  have hM2 := (hm1.alloc (.cells #[.int .i64 r, .string b, .bool e, .bool k] 25)).trans hm2
  have hs2 := hM2.size
  simp at hs2
  have hne : w.heap.size ≠ w1.heap.size := by omega
  cases v
  · obtain ⟨f0, f1, f2, f3, ff⟩ := hp2.cells
    have hMw : Moves g w w2 := Moves.trans ((Moves.refl g w).alloc (.cells #[.int .i64 0, .string ⟨#[]⟩, .bool false, .bool false] 25)) hM2
    have rc := fun o => hM2.cell w.heap.size o (by simp) (by omega)
    have rf := fun o => hM2.frozen w.heap.size o (by simp) (by omega)
    go_wp2_with fail
    refine bodyPost_ret (v := .agg #[.int .i64 r, .string b, .bool e, .bool k]) (by simp [results, Try.results52, go_sem, *]) rfl ?_
    refine ⟨r, b, e, k, by omega, rfl, ?_, ?_⟩
    · repeat' (first | (with_reducible exact hc2) | (with_reducible refine Cur.set ?_ _ _ ?_) | (with_reducible refine Cur.alloc ?_ _) | (with_reducible refine Cur.drewN ?_ _) | (with_reducible refine Cur.drew ?_) | omega | (simp; done) | (simp; omega))
    · repeat' (first | (with_reducible exact hMw) | (with_reducible refine Moves.setNew ?_ _ ?_ _) | (with_reducible refine Moves.alloc ?_ _) | (with_reducible refine Moves.drewN _ ?_) | (with_reducible refine Moves.drew ?_) | omega | (simp; done) | (simp; omega))
  · go_wp2_with fail
    refine (below1 g B 3 _ hc2 (by omega)).mono ?_; rintro x w3 ⟨n, n0, n1, _, rfl, hc3, hm3⟩
    have n3 : n < 3 := n1 (by omega)
    have hp3 := hp2.moves hm3 (by omega)
    have hM3 := hM2.trans hm3
    have hs3 := hM3.size
    simp at hs3
    have hcase : n = 0 ∨ n = 1 ∨ n = 2 := by omega
    clear n1
    rcases hcase with rfl | rfl | rfl
    · go_wp2_with fail
      refine (below1 g B 4 _ (hc3.alloc _) (by omega)).mono ?_; rintro x w4 ⟨t, t0, t1, _, rfl, hc4, hm4⟩
      have t3 : t < 4 := t1 (by omega)
      have hp4 : PipeAt w4 w1.heap.size r b e k := PipeAt.moves (PipeAt.moves hp3 (Moves.alloc (Moves.refl g _) _) (by omega)) hm4 (by omega)
      have hM4 := (hM3.alloc (.cells #[.int .i64 0, .int .i64 (-1), .int .i64 2000, .int .i64 2001] 2)).trans hm4
      have hs4 := hm4.size
      simp at hs4
      obtain ⟨f0, f1, f2, f3, ff⟩ := hp4.cells
      have hMw : Moves g w w4 := Moves.trans ((Moves.refl g w).alloc (.cells #[.int .i64 0, .string ⟨#[]⟩, .bool false, .bool false] 25)) hM4
      have rc := fun o => hM4.cell w.heap.size o (by simp) (by omega)
      have rf := fun o => hM4.frozen w.heap.size o (by simp) (by omega)
      have lc := fun o => hm4.cell w3.heap.size o (by simp) (by omega)
      have hcase : t = 0 ∨ t = 1 ∨ t = 2 ∨ t = 3 := by omega
      clear t1
      rcases hcase with rfl | rfl | rfl | rfl
      · go_wp2_with fail
        refine bodyPost_ret (v := .agg #[.int .i64 0, .string b, .bool e, .bool k]) (by simp [results, Try.results52, go_sem, *]) rfl ?_
        refine ⟨0, b, e, k, by omega, rfl, ?_, ?_⟩
        · repeat' (first | (with_reducible exact hc4) | (with_reducible refine Cur.set ?_ _ _ ?_) | (with_reducible refine Cur.alloc ?_ _) | (with_reducible refine Cur.drewN ?_ _) | (with_reducible refine Cur.drew ?_) | omega | (simp; done) | (simp; omega))
        · repeat' (first | (with_reducible exact hMw) | (with_reducible refine Moves.setNew ?_ _ ?_ _) | (with_reducible refine Moves.alloc ?_ _) | (with_reducible refine Moves.drewN _ ?_) | (with_reducible refine Moves.drew ?_) | omega | (simp; done) | (simp; omega))
      · go_wp2_with fail
        refine bodyPost_ret (v := .agg #[.int .i64 (-1), .string b, .bool e, .bool k]) (by simp [results, Try.results52, go_sem, *]) rfl ?_
        refine ⟨(-1), b, e, k, by omega, rfl, ?_, ?_⟩
        · repeat' (first | (with_reducible exact hc4) | (with_reducible refine Cur.set ?_ _ _ ?_) | (with_reducible refine Cur.alloc ?_ _) | (with_reducible refine Cur.drewN ?_ _) | (with_reducible refine Cur.drew ?_) | omega | (simp; done) | (simp; omega))
        · repeat' (first | (with_reducible exact hMw) | (with_reducible refine Moves.setNew ?_ _ ?_ _) | (with_reducible refine Moves.alloc ?_ _) | (with_reducible refine Moves.drewN _ ?_) | (with_reducible refine Moves.drew ?_) | omega | (simp; done) | (simp; omega))
      · go_wp2_with fail
        refine bodyPost_ret (v := .agg #[.int .i64 2000, .string b, .bool e, .bool k]) (by simp [results, Try.results52, go_sem, *]) rfl ?_
        refine ⟨2000, b, e, k, by omega, rfl, ?_, ?_⟩
        · repeat' (first | (with_reducible exact hc4) | (with_reducible refine Cur.set ?_ _ _ ?_) | (with_reducible refine Cur.alloc ?_ _) | (with_reducible refine Cur.drewN ?_ _) | (with_reducible refine Cur.drew ?_) | omega | (simp; done) | (simp; omega))
        · repeat' (first | (with_reducible exact hMw) | (with_reducible refine Moves.setNew ?_ _ ?_ _) | (with_reducible refine Moves.alloc ?_ _) | (with_reducible refine Moves.drewN _ ?_) | (with_reducible refine Moves.drew ?_) | omega | (simp; done) | (simp; omega))
      · go_wp2_with fail
        refine bodyPost_ret (v := .agg #[.int .i64 2001, .string b, .bool e, .bool k]) (by simp [results, Try.results52, go_sem, *]) rfl ?_
        refine ⟨2001, b, e, k, by omega, rfl, ?_, ?_⟩
        · repeat' (first | (with_reducible exact hc4) | (with_reducible refine Cur.set ?_ _ _ ?_) | (with_reducible refine Cur.alloc ?_ _) | (with_reducible refine Cur.drewN ?_ _) | (with_reducible refine Cur.drew ?_) | omega | (simp; done) | (simp; omega))
        · repeat' (first | (with_reducible exact hMw) | (with_reducible refine Moves.setNew ?_ _ ?_ _) | (with_reducible refine Moves.alloc ?_ _) | (with_reducible refine Moves.drewN _ ?_) | (with_reducible refine Moves.drew ?_) | omega | (simp; done) | (simp; omega))
    · obtain ⟨f0, f1, f2, f3, ff⟩ := hp3.cells
      have hMw : Moves g w w3 := Moves.trans ((Moves.refl g w).alloc (.cells #[.int .i64 0, .string ⟨#[]⟩, .bool false, .bool false] 25)) hM3
      have rc := fun o => hM3.cell w.heap.size o (by simp) (by omega)
      have rf := fun o => hM3.frozen w.heap.size o (by simp) (by omega)
      have hsz : (b ++ (⟨#[109, 111, 114, 101, 32, 116, 104, 97, 110, 32, 116, 104, 101, 114, 101, 32, 105, 115, 32, 114, 111, 111, 109]⟩ : ByteArray)).size ≤ 100 := by
        have h23 : (⟨#[109, 111, 114, 101, 32, 116, 104, 97, 110, 32, 116, 104, 101, 114, 101, 32, 105, 115, 32, 114, 111, 111, 109]⟩ : ByteArray).size = 23 := rfl
        rw [ByteArray.size_append, h23]; omega
      go_wp2_with fail
      refine bodyPost_ret (v := .agg #[.int .i64 r, .string (b ++ ⟨#[109, 111, 114, 101, 32, 116, 104, 97, 110, 32, 116, 104, 101, 114, 101, 32, 105, 115, 32, 114, 111, 111, 109]⟩), .bool e, .bool k]) (by simp [results, Try.results52, go_sem, *]) rfl ?_
      refine ⟨r, b ++ ⟨#[109, 111, 114, 101, 32, 116, 104, 97, 110, 32, 116, 104, 101, 114, 101, 32, 105, 115, 32, 114, 111, 111, 109]⟩, e, k, hsz, rfl, ?_, ?_⟩
      · repeat' (first | (with_reducible exact hc3) | (with_reducible refine Cur.set ?_ _ _ ?_) | (with_reducible refine Cur.alloc ?_ _) | (with_reducible refine Cur.drewN ?_ _) | (with_reducible refine Cur.drew ?_) | omega | (simp; done) | (simp; omega))
      · repeat' (first | (with_reducible exact hMw) | (with_reducible refine Moves.setNew ?_ _ ?_ _) | (with_reducible refine Moves.alloc ?_ _) | (with_reducible refine Moves.drewN _ ?_) | (with_reducible refine Moves.drew ?_) | omega | (simp; done) | (simp; omega))
    · obtain ⟨f0, f1, f2, f3, ff⟩ := hp3.cells
      have hMw : Moves g w w3 := Moves.trans ((Moves.refl g w).alloc (.cells #[.int .i64 0, .string ⟨#[]⟩, .bool false, .bool false] 25)) hM3
      have rc := fun o => hM3.cell w.heap.size o (by simp) (by omega)
      have rf := fun o => hM3.frozen w.heap.size o (by simp) (by omega)
      go_wp2_with fail
      refine bodyPost_ret (v := .agg #[.int .i64 r, .string b, .bool e, .bool true]) (by simp [results, Try.results52, go_sem, *]) rfl ?_
      refine ⟨r, b, e, true, by omega, rfl, ?_, ?_⟩
      · repeat' (first | (with_reducible exact hc3) | (with_reducible refine Cur.set ?_ _ _ ?_) | (with_reducible refine Cur.alloc ?_ _) | (with_reducible refine Cur.drewN ?_ _) | (with_reducible refine Cur.drew ?_) | omega | (simp; done) | (simp; omega))
      · repeat' (first | (with_reducible exact hMw) | (with_reducible refine Moves.setNew ?_ _ ?_ _) | (with_reducible refine Moves.alloc ?_ _) | (with_reducible refine Moves.drewN _ ?_) | (with_reducible refine Moves.drew ?_) | omega | (simp; done) | (simp; omega))

theorem CodeAt.mono {w : World} {a : Option Addr} {len B B' : Nat} (h : CodeAt w a len B) (hB : B ≤ B') : CodeAt w a len B' := fun j hj => by
  obtain ⟨b, o, z, h1, h2, h3⟩ := h j hj
  exact ⟨b, o, z, h1, by omega, h3⟩
/-- The code stays, behind whatever leaves what was there. -/
theorem CodeAt.next {w w' : World} {a : Option Addr} {len : Nat} (h : CodeAt w a len w.heap.size) (hb : Below w.heap.size w w') : CodeAt w' a len w'.heap.size := (h.kept hb).mono hb.size

set_option maxHeartbeats 400000 in
theorem drawNew (a : Option Addr) (len cap : Nat) (w : World) (hl : len ≤ 4096) (hcode : CodeAt w a len w.heap.size) :
    Calls Try.prog 38 #[.slice a len cap] w fun x w' => ∃ r : Int, x = .returned (.int .i64 r) ∧ Below w.heap.size w w' := by
  go_enter Try.func38, Try.ntmps38
  go_wp2_with fail
  refine (new1 a len cap _ hl hcode).mono ?_; rintro x w1 ⟨g, rfl, hg, hk1, hb1⟩; have hz1 := hb1.size; (try simp at hz1)
  go_wp2_with fail
  refine (below1 g _ 6 _ (hk1.alloc _) (by omega)).mono ?_; rintro x w2 ⟨t, t0, t1, _, rfl, hk2, hm2⟩
  have t6 : t < 6 := t1 (by omega)
  have hg1 := hk1.lt
  have hs2 := hm2.size
  simp at hs2
  have lc := fun o => hm2.cell w1.heap.size o (by simp) (by omega)
  have hb2 : Below w.heap.size w w2 := (hb1.trans (Below.alloc (Below.refl _ _) (by omega) _)).trans (hm2.below (by omega) (by simp; omega))
  have hcase : t = 0 ∨ t = 1 ∨ t = 2 ∨ t = 3 ∨ t = 4 ∨ t = 5 := by omega
  clear t1
  rcases hcase with rfl | rfl | rfl | rfl | rfl | rfl <;> (
    go_wp2_with fail
    go_ret
    exact ⟨_, rfl, hb2⟩)
end Go.Proofs.Ythkjjnnmnacgcaa
