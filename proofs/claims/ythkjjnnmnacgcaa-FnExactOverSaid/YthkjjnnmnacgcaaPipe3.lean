/- What the Go functions of chapter 1 that push and pull answer at every argument. -/
import Derived.Test.YthkjjnnmnacgcaaPipe2
import Derived.Test.YthkjjnnmnacgcaaBytes
import Derived.Handy

namespace Go.Proofs.Ythkjjnnmnacgcaa
open Go.RowKit
set_option maxRecDepth 100000
set_option linter.unusedSimpArgs false
set_option linter.unusedVariables false

theorem min1 (a b : Int) (w : World) : Calls Try.prog 65 #[.int .i64 a, .int .i64 b] w fun x w' => x = .returned (.int .i64 (min a b)) ∧ w' = w := by
  by_cases h : a < b
  · rw [show min a b = a by omega]
    go_enter Try.func65, Try.ntmps65
    go_wp2
    go_ret
    exact ⟨rfl, rfl⟩
  · rw [show min a b = b by omega]
    go_enter Try.func65, Try.ntmps65
    go_wp2
    go_ret
    exact ⟨rfl, rfl⟩

theorem max1 (a b : Int) (w : World) : Calls Try.prog 68 #[.int .i64 a, .int .i64 b] w fun x w' => x = .returned (.int .i64 (max a b)) ∧ w' = w := by
  by_cases h : b < a
  · rw [show max a b = a by omega]
    go_enter Try.func68, Try.ntmps68
    go_wp2
    go_ret
    exact ⟨rfl, rfl⟩
  · rw [show max a b = b by omega]
    go_enter Try.func68, Try.ntmps68
    go_wp2
    go_ret
    exact ⟨rfl, rfl⟩

theorem pull1 (r : Int) (b : ByteArray) (e k : Bool) (n : Int) (g : Nat) (w : World) (hb : b.size ≤ maxLen)
    (hg : w.cell? ⟨g, 1, none⟩ = some (.string b)) (hf : w.frozen? ⟨g, 1, none⟩ = false) :
    Calls Try.prog 64 #[.pointer (some ⟨g, 0, none⟩), .int .i64 n] w fun x w' => x = .returned (.string (b.extract 0 (max 0 (min n b.size)).toNat)) ∧ w' = w.setCell ⟨g, 1, none⟩ (.string (b.extract (max 0 (min n b.size)).toNat b.size)) := by
  unfold maxLen at hb
  have h1 : 0 ≤ max 0 (min n (b.size : Int)) := by omega
  have h2 : max 0 (min n (b.size : Int)) ≤ b.size := by omega
  go_enter Try.func64, Try.ntmps64
  go_wp2_with fail
  refine (min1 _ _ _).mono ?_; rintro x w1 ⟨rfl, rfl⟩
  go_wp2_with fail
  refine (max1 _ _ _).mono ?_; rintro x w1 ⟨rfl, rfl⟩
  go_wp2_with fail
  go_ret
  exact ⟨rfl, rfl⟩

theorem pull (r : Int) (b : ByteArray) (e k : Bool) (n : Int) (w : World) (hb : b.size ≤ 2000) :
    Calls Try.prog 61 #[.agg #[.int .i64 r, .string b, .bool e, .bool k], .int .i64 n] w fun x w' => x = .returned (.tuple #[.agg #[.int .i64 r, .string (b.extract (max 0 (min n b.size)).toNat b.size), .bool e, .bool k], .string (b.extract 0 (max 0 (min n b.size)).toNat)]) ∧ Below w.heap.size w w' := by
  obtain ⟨m, hm⟩ : ∃ m : Nat, max 0 (min n (b.size : Int)) = m := ⟨(max 0 (min n (b.size : Int))).toNat, by omega⟩
  rw [hm]
  have hm1 : m ≤ b.size := by omega
  have hm2 : min (max n 0) (b.size : Int) = m := by omega
  have hcv := Lib.run_convert_string_bytes (P := Try.prog) ((w.alloc (.cells #[.int .i64 r, .string b, .bool e, .bool k] 25)).alloc (.cells #[.int .i64 0, .string ⟨#[]⟩, .bool false, .bool false] 25)) 9 22 5 b Try.underlying9 Try.underlying22 Try.underlying5
  obtain ⟨hb0, hs0, hy0⟩ := bytes_new1 ((w.alloc (.cells #[.int .i64 r, .string b, .bool e, .bool k] 25)).alloc (.cells #[.int .i64 0, .string ⟨#[]⟩, .bool false, .bool false] 25)) 5 b
  have hcap := grownCap_ge ((w.alloc (.cells #[.int .i64 r, .string b, .bool e, .bool k] 25)).alloc (.cells #[.int .i64 0, .string ⟨#[]⟩, .bool false, .bool false] 25)) b.size 0 5
  generalize Lib.bytesWorld _ 5 b = W1 at hcv hb0 hs0 hy0
  generalize grownCap _ _ _ _ = cap at hcv hcap
  have hz0 := hb0.size; (try simp at hz0); have hc0 := fun o => hb0.cell (p := ⟨w.heap.size, o, none⟩) (by first | (simp; done) | (simp; omega) | omega); have hf0 := fun o => hb0.frozen (p := ⟨w.heap.size, o, none⟩) (by first | (simp; done) | (simp; omega) | omega); have hcn0 := fun o => hb0.cell (p := ⟨w.heap.size + 1, o, none⟩) (by first | (simp; done) | (simp; omega) | omega); have hfn0 := fun o => hb0.frozen (p := ⟨w.heap.size + 1, o, none⟩) (by first | (simp; done) | (simp; omega) | omega)
  simp only [World.size_alloc] at hy0
  have HX : Hid (∀ X : World, Lib.Bytes X (w.heap.size + 1 + 1) 0 b → ∀ i j c : Nat, i + j ≤ b.size → (convert 22 9 (.slice (some ⟨w.heap.size + 1 + 1, i, none⟩) j c)).run Try.prog X = .ok (.string (b.extract i (i + j))) X) := fun X hX i j c hij => by
    have := Lib.run_convert_window (P := Try.prog) X 22 5 9 Try.underlying22 Try.underlying5 Try.underlying9 (w.heap.size + 1 + 1) 0 b hX i j c hij
    rwa [Nat.zero_add] at this
  by_cases hme : m = b.size
  · have hx1 : ∀ q, (convert 22 9 (.slice (some ⟨w.heap.size + 1 + 1, 0, none⟩) 0 0)).run Try.prog (W1.drewN q) = .ok (.string (b.extract 0 0)) (W1.drewN q) := fun q => HX.out _ (hy0.drewN q) 0 0 _ (by omega)
    go_enter Try.func61, Try.ntmps61
    go_wp2_with fail
    go_quiet (fail)
    go_wp2_with fail
    have hx2 := HX.out _ (bytes_drew (bytes_set (hy0.drewN nq) ⟨w.heap.size, 1, none⟩ (.string ByteArray.empty) (by simp; omega))) 0 b.size b.size (by omega)
    have hx3 := HX.out _ (bytes_drew (bytes_set (bytes_set (bytes_set (bytes_set (bytes_set (hy0.drewN nq) ⟨w.heap.size, 1, none⟩ (.string ByteArray.empty) (by simp; omega)) ⟨w.heap.size + 1, 0, none⟩ (.int .i64 r) (by simp)) ⟨w.heap.size + 1, 1, none⟩ (.string ByteArray.empty) (by simp)) ⟨w.heap.size + 1, 2, none⟩ (.bool e) (by simp)) ⟨w.heap.size + 1, 3, none⟩ (.bool k) (by simp))) 0 b.size b.size (by omega)
    go_region
    go_wp2_with fail
    refine bodyPost_ret (v := .tuple #[.agg #[.int .i64 r, .string ByteArray.empty, .bool e, .bool k], .string b]) (by simp [results, Try.results61, go_sem, *]) rfl ?_
    exact ⟨by rw [Int.toNat_natCast, hme]; simp, (by repeat' (first | (with_reducible exact Below.refl _ _) | (with_reducible refine Below.drew ?_) | (with_reducible refine bo_drewN _ ?_) | (with_reducible refine bo_alloc ?_ _) | (refine bchain ?_ (by with_reducible assumption)) | (with_reducible refine Below.setCell ?_ ?_ _) | go_size))⟩
  · have hx1 : ∀ q, (convert 22 9 (.slice (some ⟨w.heap.size + 1 + 1, m, none⟩) (b.size - m) (b.size - m))).run Try.prog (W1.drewN q) = .ok (.string (b.extract m b.size)) (W1.drewN q) := fun q => by
      have := HX.out _ (hy0.drewN q) m (b.size - m) (b.size - m) (by omega)
      rwa [show m + (b.size - m) = b.size by omega] at this
    have hlt : m < b.size := by omega
    go_enter Try.func61, Try.ntmps61
    go_wp2_with fail
    go_quiet (fail)
    go_wp2_with fail
    have hx2 := HX.out _ (bytes_drew (bytes_set (hy0.drewN nq) ⟨w.heap.size, 1, none⟩ (.string (b.extract m b.size)) (by simp; omega))) 0 m m (by omega)
    have hx3 := HX.out _ (bytes_drew (bytes_set (bytes_set (bytes_set (bytes_set (bytes_set (hy0.drewN nq) ⟨w.heap.size, 1, none⟩ (.string (b.extract m b.size)) (by simp; omega)) ⟨w.heap.size + 1, 0, none⟩ (.int .i64 r) (by simp)) ⟨w.heap.size + 1, 1, none⟩ (.string (b.extract m b.size)) (by simp)) ⟨w.heap.size + 1, 2, none⟩ (.bool e) (by simp)) ⟨w.heap.size + 1, 3, none⟩ (.bool k) (by simp))) 0 m m (by omega)
    go_region
    go_wp2_with fail
    refine bodyPost_ret (v := .tuple #[.agg #[.int .i64 r, .string (b.extract m b.size), .bool e, .bool k], .string (b.extract 0 m)]) (by simp [results, Try.results61, go_sem, *]) rfl ?_
    exact ⟨by rw [Int.toNat_natCast], (by repeat' (first | (with_reducible exact Below.refl _ _) | (with_reducible refine Below.drew ?_) | (with_reducible refine bo_drewN _ ?_) | (with_reducible refine bo_alloc ?_ _) | (refine bchain ?_ (by with_reducible assumption)) | (with_reducible refine Below.setCell ?_ ?_ _) | go_size))⟩

end Go.Proofs.Ythkjjnnmnacgcaa
