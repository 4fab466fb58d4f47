/- What the Go functions of chapter 1 that push answer at every argument. -/
import Derived.Test.YthkjjnnmnacgcaaPipe3
import Derived.Handy

namespace Go.Proofs.Ythkjjnnmnacgcaa
open Go.RowKit
set_option maxRecDepth 100000
set_option linter.unusedSimpArgs false
set_option linter.unusedVariables false

theorem push1_shut (r : Int) (b : ByteArray) (e k : Bool) (s : ByteArray) (g : Nat) (w : World) (hek : (e || k) = true)
    (hg2 : w.cell? ⟨g, 2, none⟩ = some (.bool e)) (hg3 : w.cell? ⟨g, 3, none⟩ = some (.bool k)) :
    Calls Try.prog 62 #[.pointer (some ⟨g, 0, none⟩), .string s] w fun x w' => x = .returned (.int .i64 0) ∧ w' = w := by
  cases e
  · cases k
    · cases hek
    · go_enter Try.func62, Try.ntmps62
      go_wp2_with fail
      go_ret
      exact ⟨rfl, rfl⟩
  · go_enter Try.func62, Try.ntmps62
    go_wp2_with fail
    go_ret
    exact ⟨rfl, rfl⟩

theorem push1_open (r : Int) (b : ByteArray) (s : ByteArray) (g : Nat) (w : World) (hs : s.size ≤ 1048576) (hr : r ≤ 2000) (hb : (b.size : Int) ≤ r)
    (n : Nat) (hn : min (s.size : Int) (r - b.size) = n)
    (hg0 : w.cell? ⟨g, 0, none⟩ = some (.int .i64 r)) (hg1 : w.cell? ⟨g, 1, none⟩ = some (.string b)) (hg2 : w.cell? ⟨g, 2, none⟩ = some (.bool false)) (hg3 : w.cell? ⟨g, 3, none⟩ = some (.bool false))
    (hf : w.frozen? ⟨g, 1, none⟩ = false) :
    Calls Try.prog 62 #[.pointer (some ⟨g, 0, none⟩), .string s] w fun x w' => x = .returned (.int .i64 n) ∧ ∃ q, w' = (w.drewN q).setCell ⟨g, 1, none⟩ (.string (b ++ s.extract 0 n)) := by
  have hns : n ≤ s.size := by omega
  go_enter Try.func62, Try.ntmps62
  go_wp2_with fail
  go_quiet ((go_at_call 65; exact Calls.quiet_of_same (min1 _ _ _)))
  go_wp2_with fail
  go_region
  go_wp2_with fail
  go_ret
  exact ⟨congrArg (fun z => Ending.returned (.int .i64 z)) hn, _, rfl⟩

theorem push_shut (r : Int) (b : ByteArray) (e k : Bool) (s : ByteArray) (w : World) (hb : b.size ≤ 2000) (hek : (e || k) = true) :
    Calls Try.prog 58 #[.agg #[.int .i64 r, .string b, .bool e, .bool k], .string s] w fun x w' => x = .returned (.tuple #[.agg #[.int .i64 r, .string b, .bool e, .bool k], .int .i64 0]) ∧ Below w.heap.size w w' := by
  go_enter Try.func58, Try.ntmps58
  go_wp2_with fail
  refine (shut r b e k _).mono ?_; rw [hek]; rintro x w1 ⟨rfl, hb1⟩; have hz1 := hb1.size; (try simp at hz1); have hc1 := fun o => hb1.cell (p := ⟨w.heap.size, o, none⟩) (by first | (simp; done) | (simp; omega) | omega); have hf1 := fun o => hb1.frozen (p := ⟨w.heap.size, o, none⟩) (by first | (simp; done) | (simp; omega) | omega); have hcn1 := fun o => hb1.cell (p := ⟨w.heap.size + 1, o, none⟩) (by first | (simp; done) | (simp; omega) | omega); have hfn1 := fun o => hb1.frozen (p := ⟨w.heap.size + 1, o, none⟩) (by first | (simp; done) | (simp; omega) | omega)
  go_wp2_with fail
  refine (apart r b e k _ (by omega)).mono ?_; rintro x w2 ⟨rfl, hb2⟩; have hz2 := hb2.size; (try simp at hz2); have hc2 := fun o => hb2.cell (p := ⟨w.heap.size, o, none⟩) (by first | (simp; done) | (simp; omega) | omega); have hf2 := fun o => hb2.frozen (p := ⟨w.heap.size, o, none⟩) (by first | (simp; done) | (simp; omega) | omega); have hcn2 := fun o => hb2.cell (p := ⟨w.heap.size + 1, o, none⟩) (by first | (simp; done) | (simp; omega) | omega); have hfn2 := fun o => hb2.frozen (p := ⟨w.heap.size + 1, o, none⟩) (by first | (simp; done) | (simp; omega) | omega)
  go_wp2_with fail
  refine bodyPost_ret (v := .tuple #[.agg #[.int .i64 r, .string b, .bool e, .bool k], .int .i64 0]) (by simp [results, Try.results58, go_sem, *]) rfl ?_
  exact ⟨rfl, (by repeat' (first | (with_reducible exact Below.refl _ _) | (with_reducible refine Below.drew ?_) | (with_reducible refine bo_drewN _ ?_) | (with_reducible refine bo_alloc ?_ _) | (refine bchain ?_ (by with_reducible assumption)) | (with_reducible refine Below.setCell ?_ ?_ _) | go_size))⟩

theorem push_open (R : Nat) (b : ByteArray) (s : ByteArray) (w : World) (hR : R ≤ 2000) (hb : b.size < R) (hs : s.size ≤ 1048576) (n : Nat) (hn : Nat.min s.size (R - b.size) = n) :
    Calls Try.prog 58 #[.agg #[.int .i64 (R : Int), .string b, .bool false, .bool false], .string s] w fun x w' => x = .returned (.tuple #[.agg #[.int .i64 (R : Int), .string (b ++ s.extract 0 n), .bool false, .bool false], .int .i64 n]) ∧ Below w.heap.size w w' := by
  have hns : n ≤ s.size := by rw [← hn]; exact Nat.min_le_left _ _
  have hnd : n ≤ R - b.size := by rw [← hn]; exact Nat.min_le_right _ _
  have hsz : (b ++ s.extract 0 n).size = b.size + n := by rw [ByteArray.size_append, extract_size s n hns]
  go_enter Try.func58, Try.ntmps58
  go_wp2_with fail
  refine (shut R b false false _).mono ?_; rintro x w1 ⟨rfl, hb1⟩; have hz1 := hb1.size; (try simp at hz1); have hc1 := fun o => hb1.cell (p := ⟨w.heap.size, o, none⟩) (by first | (simp; done) | (simp; omega) | omega); have hf1 := fun o => hb1.frozen (p := ⟨w.heap.size, o, none⟩) (by first | (simp; done) | (simp; omega) | omega); have hcn1 := fun o => hb1.cell (p := ⟨w.heap.size + 1, o, none⟩) (by first | (simp; done) | (simp; omega) | omega); have hfn1 := fun o => hb1.frozen (p := ⟨w.heap.size + 1, o, none⟩) (by first | (simp; done) | (simp; omega) | omega)
  obtain ⟨W1, W2, W3, e1, e2, e3, b1, b2, b3, z3, hy⟩ := push_rows w1 R b s hb hR n hn
  have c1 := fun o => b1.cell (p := ⟨w.heap.size, o, none⟩) (by simp; omega)
  have c2 := fun o => b2.cell (p := ⟨w.heap.size, o, none⟩) (by simp; omega)
  have c3 := fun o => b3.cell (p := ⟨w.heap.size, o, none⟩) (by simp; omega)
  have d3 := fun o => b3.cell (p := ⟨w.heap.size + 1, o, none⟩) (by simp; omega)
  have f3 := fun o => b3.frozen (p := ⟨w.heap.size, o, none⟩) (by simp; omega)
  have g3 := fun o => b3.frozen (p := ⟨w.heap.size + 1, o, none⟩) (by simp; omega)
  have hcv := Lib.run_convert_whole (P := Try.prog) W3 22 5 9 Try.underlying22 Try.underlying5 Try.underlying9 w1.heap.size 0 _ hy (b.size + n)
  rw [hsz] at hcv
  go_wp2_with fail
  refine bodyPost_ret (v := .tuple #[.agg #[.int .i64 (R : Int), .string (b ++ s.extract 0 n), .bool false, .bool false], .int .i64 n]) (by simp [results, Try.results58, go_sem, *]) rfl ?_
  exact ⟨rfl, (by repeat' (first | (with_reducible exact Below.refl _ _) | (with_reducible refine Below.drew ?_) | (with_reducible refine bo_drewN _ ?_) | (with_reducible refine bo_alloc ?_ _) | (refine bchain ?_ (by with_reducible assumption)) | (with_reducible refine Below.setCell ?_ ?_ _) | go_size))⟩

theorem push_fullP (R : Nat) (b : ByteArray) (s : ByteArray) (w : World) (hR : R ≤ 2000) (hb : b.size = R) (hs : s.size ≤ 1048576) :
    Calls Try.prog 58 #[.agg #[.int .i64 (R : Int), .string b, .bool false, .bool false], .string s] w fun x w' => x = .returned (.tuple #[.agg #[.int .i64 (R : Int), .string b, .bool false, .bool false], .int .i64 0]) ∧ Below w.heap.size w w' := by
  subst hb
  go_enter Try.func58, Try.ntmps58
  go_wp2_with fail
  refine (shut b.size b false false _).mono ?_; rintro x w1 ⟨rfl, hb1⟩; have hz1 := hb1.size; (try simp at hz1); have hc1 := fun o => hb1.cell (p := ⟨w.heap.size, o, none⟩) (by first | (simp; done) | (simp; omega) | omega); have hf1 := fun o => hb1.frozen (p := ⟨w.heap.size, o, none⟩) (by first | (simp; done) | (simp; omega) | omega); have hcn1 := fun o => hb1.cell (p := ⟨w.heap.size + 1, o, none⟩) (by first | (simp; done) | (simp; omega) | omega); have hfn1 := fun o => hb1.frozen (p := ⟨w.heap.size + 1, o, none⟩) (by first | (simp; done) | (simp; omega) | omega)
  obtain ⟨W1, W2, e1, e2, e3, b1, b2, z2, hy⟩ := push_full w1 b.size b s rfl hR
  have c1 := fun o => b1.cell (p := ⟨w.heap.size, o, none⟩) (by simp; omega)
  have c2 := fun o => b2.cell (p := ⟨w.heap.size, o, none⟩) (by simp; omega)
  have d2 := fun o => b2.cell (p := ⟨w.heap.size + 1, o, none⟩) (by simp; omega)
  have f2 := fun o => b2.frozen (p := ⟨w.heap.size, o, none⟩) (by simp; omega)
  have g2 := fun o => b2.frozen (p := ⟨w.heap.size + 1, o, none⟩) (by simp; omega)
  have hcv := Lib.run_convert_whole (P := Try.prog) W2 22 5 9 Try.underlying22 Try.underlying5 Try.underlying9 w1.heap.size 0 _ hy b.size
  go_wp2_with fail
  refine bodyPost_ret (v := .tuple #[.agg #[.int .i64 (b.size : Int), .string b, .bool false, .bool false], .int .i64 0]) (by simp [results, Try.results58, go_sem, *]) rfl ?_
  exact ⟨rfl, (by repeat' (first | (with_reducible exact Below.refl _ _) | (with_reducible refine Below.drew ?_) | (with_reducible refine bo_drewN _ ?_) | (with_reducible refine bo_alloc ?_ _) | (refine bchain ?_ (by with_reducible assumption)) | (with_reducible refine Below.setCell ?_ ?_ _) | go_size))⟩

/-- What a push into a right pipe answers. -/
def pushedV (r : Int) (b s : ByteArray) (e k : Bool) : Value := if e || k then .tuple #[.agg #[.int .i64 r, .string b, .bool e, .bool k], .int .i64 0] else .tuple #[.agg #[.int .i64 r, .string (b ++ s.extract 0 (comes r b s)), .bool e, .bool k], .int .i64 (comes r b s)]

theorem okB_parts {r : Int} {b : ByteArray} {k : Bool} (h : okB r b k = true) : 1 ≤ r ∧ r ≤ 2000 ∧ (b.size : Int) ≤ r := by
  by_cases h1 : 1 ≤ r ∧ r ≤ 2000 ∧ (b.size : Int) ≤ r
  · exact h1
  · rw [okB_low h1] at h; cases h

theorem push (r : Int) (b s : ByteArray) (e k : Bool) (w : World) (hv : okB r b k = true) (hs : s.size ≤ 1048576) :
    Calls Try.prog 58 #[.agg #[.int .i64 r, .string b, .bool e, .bool k], .string s] w fun x w' => x = .returned (pushedV r b s e k) ∧ Below w.heap.size w w' := by
  obtain ⟨h1, h2, h3⟩ := okB_parts hv
  cases hek : (e || k)
  · obtain ⟨rfl, rfl⟩ : e = false ∧ k = false := by revert hek; cases e <;> cases k <;> simp
    obtain ⟨R, rfl⟩ : ∃ R : Nat, r = R := ⟨r.toNat, by omega⟩
    have hcn : comes (R : Int) b s = Nat.min s.size (R - b.size) := by
      have h5 : Nat.min s.size (R - b.size) = min s.size (R - b.size) := rfl
      rw [h5]; unfold comes; omega
    by_cases hfull : b.size = R
    · have h0 : comes (R : Int) b s = 0 := by unfold comes; omega
      refine (push_fullP R b s w (by omega) hfull hs).mono ?_
      rintro x w1 ⟨rfl, hb1⟩
      refine ⟨?_, hb1⟩
      simp only [pushedV, h0, Bool.or_self, if_false]
      simp
    · refine (push_open R b s w (by omega) (by omega) hs _ rfl).mono ?_
      rintro x w1 ⟨rfl, hb1⟩
      refine ⟨?_, hb1⟩
      rw [← hcn]
      rfl
  · refine (push_shut r b e k s w (by omega) hek).mono ?_
    rintro x w1 ⟨rfl, hb1⟩
    refine ⟨?_, hb1⟩
    rw [pushedV, hek]
    rfl

theorem pushedV_shut (r : Int) (b s : ByteArray) (e k : Bool) (h : (e || k) = true) : pushedV r b s e k = .tuple #[.agg #[.int .i64 r, .string b, .bool e, .bool k], .int .i64 0] := by rw [pushedV, h]; rfl
theorem pushedV_open (r : Int) (b s : ByteArray) (e k : Bool) (h : (e || k) = false) : pushedV r b s e k = .tuple #[.agg #[.int .i64 r, .string (b ++ s.extract 0 (comes r b s)), .bool e, .bool k], .int .i64 (comes r b s)] := by rw [pushedV, h]; rfl


end Go.Proofs.Ythkjjnnmnacgcaa
