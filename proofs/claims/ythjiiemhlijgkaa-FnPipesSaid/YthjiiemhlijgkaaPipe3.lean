/- What the Go functions of chapter 1 that push and pull answer at every argument. -/
import Derived.Test.YthjiiemhlijgkaaPipe2
import Derived.Test.YthjiiemhlijgkaaBytes
import Derived.Handy

namespace Go.Proofs.Ythjiiemhlijgkaa
open Go.RowKit
set_option linter.unusedSimpArgs false
set_option linter.unusedVariables false

theorem min1 (a b : Int) (w : World) : Calls Try.prog 51 #[.int .i64 a, .int .i64 b] w fun x w' => x = .returned (.int .i64 (min a b)) ∧ w' = w := by
  by_cases h : a < b
  · rw [show min a b = a by omega]
    go_enter Try.func51, Try.ntmps51
    go_wp2
    go_ret
    exact ⟨rfl, rfl⟩
  · rw [show min a b = b by omega]
    go_enter Try.func51, Try.ntmps51
    go_wp2
    go_ret
    exact ⟨rfl, rfl⟩

theorem max1 (a b : Int) (w : World) : Calls Try.prog 52 #[.int .i64 a, .int .i64 b] w fun x w' => x = .returned (.int .i64 (max a b)) ∧ w' = w := by
  by_cases h : b < a
  · rw [show max a b = a by omega]
    go_enter Try.func52, Try.ntmps52
    go_wp2
    go_ret
    exact ⟨rfl, rfl⟩
  · rw [show max a b = b by omega]
    go_enter Try.func52, Try.ntmps52
    go_wp2
    go_ret
    exact ⟨rfl, rfl⟩

theorem pull1 (r : Int) (b : ByteArray) (e k : Bool) (n : Int) (g : Nat) (w : World) (hb : b.size ≤ maxLen)
    (hg : w.cell? ⟨g, 1, none⟩ = some (.string b)) (hf : w.frozen? ⟨g, 1, none⟩ = false) :
    Calls Try.prog 47 #[.pointer (some ⟨g, 0, none⟩), .int .i64 n] w fun x w' => x = .returned (.string (b.extract 0 (max 0 (min n b.size)).toNat)) ∧ w' = w.setCell ⟨g, 1, none⟩ (.string (b.extract (max 0 (min n b.size)).toNat b.size)) := by
  unfold maxLen at hb
  have h1 : 0 ≤ max 0 (min n (b.size : Int)) := by omega
  have h2 : max 0 (min n (b.size : Int)) ≤ b.size := by omega
  go_enter Try.func47, Try.ntmps47
  go_wp2_with fail
  refine (min1 _ _ _).mono ?_; rintro x w1 ⟨rfl, rfl⟩
  go_wp2_with fail
  refine (max1 _ _ _).mono ?_; rintro x w1 ⟨rfl, rfl⟩
  go_wp2_with fail
  go_ret
  exact ⟨rfl, rfl⟩

theorem pull (r : Int) (b : ByteArray) (e k : Bool) (n : Int) (w : World) (hb : b.size ≤ 2000) :
    Calls Try.prog 39 #[.agg #[.int .i64 r, .string b, .bool e, .bool k], .int .i64 n] w fun x w' => x = .returned (.tuple #[.agg #[.int .i64 r, .string (b.extract (max 0 (min n b.size)).toNat b.size), .bool e, .bool k], .string (b.extract 0 (max 0 (min n b.size)).toNat)]) ∧ Below w.heap.size w w' := by
  obtain ⟨m, hm⟩ : ∃ m : Nat, max 0 (min n (b.size : Int)) = m := ⟨(max 0 (min n (b.size : Int))).toNat, by omega⟩
  rw [hm]
  have hm1 : m ≤ b.size := by omega
  have hm2 : min (max n 0) (b.size : Int) = m := by omega
  have hcv := Lib.run_convert_string_bytes (P := Try.prog) ((w.alloc (.cells #[.int .i64 r, .string b, .bool e, .bool k] 25)).alloc (.cells #[.int .i64 0, .string ⟨#[]⟩, .bool false, .bool false] 25)) 9 22 5 b Try.underlying9 Try.underlying22 Try.underlying5
  obtain ⟨hb0, hs0, hy0⟩ := bytes_new ((w.alloc (.cells #[.int .i64 r, .string b, .bool e, .bool k] 25)).alloc (.cells #[.int .i64 0, .string ⟨#[]⟩, .bool false, .bool false] 25)) 5 b
  have hcap := grownCap_ge ((w.alloc (.cells #[.int .i64 r, .string b, .bool e, .bool k] 25)).alloc (.cells #[.int .i64 0, .string ⟨#[]⟩, .bool false, .bool false] 25)) b.size 0 5
  generalize Lib.bytesWorld _ 5 b = W1 at hcv hb0 hs0 hy0
  generalize grownCap _ _ _ _ = cap at hcv hcap
  have hz0 := hb0.size; (try simp at hz0); have hc0 := fun o => hb0.cell (p := ⟨w.heap.size, o, none⟩) (by first | (simp; done) | (simp; omega) | omega); have hf0 := fun o => hb0.frozen (p := ⟨w.heap.size, o, none⟩) (by first | (simp; done) | (simp; omega) | omega); have hcn0 := fun o => hb0.cell (p := ⟨w.heap.size + 1, o, none⟩) (by first | (simp; done) | (simp; omega) | omega); have hfn0 := fun o => hb0.frozen (p := ⟨w.heap.size + 1, o, none⟩) (by first | (simp; done) | (simp; omega) | omega)
  simp only [World.size_alloc] at hy0
  have HX : Hid (∀ X : World, Lib.Bytes X (w.heap.size + 1 + 1) 0 b → ∀ i j c : Nat, i + j ≤ b.size → (convert 22 9 (.slice (some ⟨w.heap.size + 1 + 1, i, none⟩) j c)).run Try.prog X = .ok (.string (b.extract i (i + j))) X) := fun X hX i j c hij => by
    have := Lib.run_convert_window (P := Try.prog) X 22 5 9 Try.underlying22 Try.underlying5 Try.underlying9 (w.heap.size + 1 + 1) 0 b hX i j c hij
    rwa [Nat.zero_add] at this
  by_cases hme : m = b.size
  · have hx1 : ∀ q, (convert 22 9 (.slice (some ⟨w.heap.size + 1 + 1, 0, none⟩) 0 0)).run Try.prog (W1.drewN q) = .ok (.string (b.extract 0 0)) (W1.drewN q) := fun q => HX.out _ (hy0.drewN q) 0 0 _ (by omega)
    go_enter Try.func39, Try.ntmps39
    go_wp2_with fail
    go_quiet (fail)
    go_wp2_with fail
    have hx2 := HX.out _ (bytes_drew (bytes_set (hy0.drewN nq) ⟨w.heap.size, 1, none⟩ (.string ByteArray.empty) (by simp; omega))) 0 b.size b.size (by omega)
    have hx3 := HX.out _ (bytes_drew (bytes_set (bytes_set (bytes_set (bytes_set (bytes_set (hy0.drewN nq) ⟨w.heap.size, 1, none⟩ (.string ByteArray.empty) (by simp; omega)) ⟨w.heap.size + 1, 0, none⟩ (.int .i64 r) (by simp)) ⟨w.heap.size + 1, 1, none⟩ (.string ByteArray.empty) (by simp)) ⟨w.heap.size + 1, 2, none⟩ (.bool e) (by simp)) ⟨w.heap.size + 1, 3, none⟩ (.bool k) (by simp))) 0 b.size b.size (by omega)
    go_region
    go_wp2_with fail
    refine bodyPost_ret (v := .tuple #[.agg #[.int .i64 r, .string ByteArray.empty, .bool e, .bool k], .string b]) (by simp [results, Try.results39, go_sem, *]) rfl ?_
    exact ⟨by rw [Int.toNat_natCast, hme]; simp, (by repeat' (first | (with_reducible exact Below.refl _ _) | (with_reducible refine Below.drew ?_) | (with_reducible refine bo_drewN _ ?_) | (with_reducible refine bo_alloc ?_ _) | (refine bchain ?_ (by with_reducible assumption)) | (with_reducible refine Below.setCell ?_ ?_ _) | go_size))⟩
  · have hx1 : ∀ q, (convert 22 9 (.slice (some ⟨w.heap.size + 1 + 1, m, none⟩) (b.size - m) (b.size - m))).run Try.prog (W1.drewN q) = .ok (.string (b.extract m b.size)) (W1.drewN q) := fun q => by
      have := HX.out _ (hy0.drewN q) m (b.size - m) (b.size - m) (by omega)
      rwa [show m + (b.size - m) = b.size by omega] at this
    have hlt : m < b.size := by omega
    go_enter Try.func39, Try.ntmps39
    go_wp2_with fail
    go_quiet (fail)
    go_wp2_with fail
    have hx2 := HX.out _ (bytes_drew (bytes_set (hy0.drewN nq) ⟨w.heap.size, 1, none⟩ (.string (b.extract m b.size)) (by simp; omega))) 0 m m (by omega)
    have hx3 := HX.out _ (bytes_drew (bytes_set (bytes_set (bytes_set (bytes_set (bytes_set (hy0.drewN nq) ⟨w.heap.size, 1, none⟩ (.string (b.extract m b.size)) (by simp; omega)) ⟨w.heap.size + 1, 0, none⟩ (.int .i64 r) (by simp)) ⟨w.heap.size + 1, 1, none⟩ (.string (b.extract m b.size)) (by simp)) ⟨w.heap.size + 1, 2, none⟩ (.bool e) (by simp)) ⟨w.heap.size + 1, 3, none⟩ (.bool k) (by simp))) 0 m m (by omega)
    go_region
    go_wp2_with fail
    refine bodyPost_ret (v := .tuple #[.agg #[.int .i64 r, .string (b.extract m b.size), .bool e, .bool k], .string (b.extract 0 m)]) (by simp [results, Try.results39, go_sem, *]) rfl ?_
    exact ⟨by rw [Int.toNat_natCast], (by repeat' (first | (with_reducible exact Below.refl _ _) | (with_reducible refine Below.drew ?_) | (with_reducible refine bo_drewN _ ?_) | (with_reducible refine bo_alloc ?_ _) | (refine bchain ?_ (by with_reducible assumption)) | (with_reducible refine Below.setCell ?_ ?_ _) | go_size))⟩

/-- How many bytes go. -/
def goes (n : Int) (b : ByteArray) : Nat := (max 0 (min n b.size)).toNat

theorem okB_le {r : Int} {b : ByteArray} {k : Bool} (h : okB r b k = true) : b.size ≤ 2000 := by
  by_cases h1 : 1 ≤ r ∧ r ≤ 2000 ∧ (b.size : Int) ≤ r
  · omega
  · rw [okB_low h1] at h; cases h

theorem implPulled (r : Int) (b : ByteArray) (e k : Bool) (n : Int) (w : World) (hb : b.size ≤ maxLen) :
    Calls Try.prog 13 #[.agg #[.int .i64 r, .string b, .bool e, .bool k], .int .i64 n] w fun x w' => x = .returned (if okB r b k then .tuple #[.agg #[.int .i64 r, .string (b.extract (goes n b) b.size), .bool e, .bool k], .string (b.extract 0 (goes n b))] else .tuple #[.agg #[.int .i64 0, .string ⟨#[]⟩, .bool false, .bool false], .string ⟨#[]⟩]) ∧ Below w.heap.size w w' := by
  cases hv : okB r b k
  · go_enter Try.func13, Try.ntmps13
    go_wp2_with fail
    refine (right r b e k _ hb).mono ?_; rw [hv]; rintro x w1 ⟨rfl, hb1⟩; have hz1 := hb1.size; (try simp at hz1); have hc1 := fun o => hb1.cell (p := ⟨w.heap.size, o, none⟩) (by first | (simp; done) | (simp; omega) | omega); have hf1 := fun o => hb1.frozen (p := ⟨w.heap.size, o, none⟩) (by first | (simp; done) | (simp; omega) | omega); have hcn1 := fun o => hb1.cell (p := ⟨w.heap.size + 1, o, none⟩) (by first | (simp; done) | (simp; omega) | omega); have hfn1 := fun o => hb1.frozen (p := ⟨w.heap.size + 1, o, none⟩) (by first | (simp; done) | (simp; omega) | omega)
    go_wp2_with fail
    refine bodyPost_ret (v := .tuple #[.agg #[.int .i64 0, .string ⟨#[]⟩, .bool false, .bool false], .string ⟨#[]⟩]) (by simp [results, Try.results13, go_sem, *]) rfl ?_
    exact ⟨rfl, (by repeat' (first | (with_reducible exact Below.refl _ _) | (with_reducible refine Below.drew ?_) | (with_reducible refine bo_drewN _ ?_) | (with_reducible refine bo_alloc ?_ _) | (refine bchain ?_ (by with_reducible assumption)) | (with_reducible refine Below.setCell ?_ ?_ _) | go_size))⟩
  · go_enter Try.func13, Try.ntmps13
    go_wp2_with fail
    refine (right r b e k _ hb).mono ?_; rw [hv]; rintro x w1 ⟨rfl, hb1⟩; have hz1 := hb1.size; (try simp at hz1); have hc1 := fun o => hb1.cell (p := ⟨w.heap.size, o, none⟩) (by first | (simp; done) | (simp; omega) | omega); have hf1 := fun o => hb1.frozen (p := ⟨w.heap.size, o, none⟩) (by first | (simp; done) | (simp; omega) | omega); have hcn1 := fun o => hb1.cell (p := ⟨w.heap.size + 1, o, none⟩) (by first | (simp; done) | (simp; omega) | omega); have hfn1 := fun o => hb1.frozen (p := ⟨w.heap.size + 1, o, none⟩) (by first | (simp; done) | (simp; omega) | omega)
    go_wp2_with fail
    refine (pull r b e k n _ (okB_le hv)).mono ?_; rw [show (max 0 (min n (b.size : Int))).toNat = goes n b from rfl]; rintro x w2 ⟨rfl, hb2⟩; have hz2 := hb2.size; (try simp at hz2); have hc2 := fun o => hb2.cell (p := ⟨w.heap.size, o, none⟩) (by first | (simp; done) | (simp; omega) | omega); have hf2 := fun o => hb2.frozen (p := ⟨w.heap.size, o, none⟩) (by first | (simp; done) | (simp; omega) | omega); have hcn2 := fun o => hb2.cell (p := ⟨w.heap.size + 1, o, none⟩) (by first | (simp; done) | (simp; omega) | omega); have hfn2 := fun o => hb2.frozen (p := ⟨w.heap.size + 1, o, none⟩) (by first | (simp; done) | (simp; omega) | omega)
    go_wp2_with fail
    refine bodyPost_ret (v := .tuple #[.agg #[.int .i64 r, .string (b.extract (goes n b) b.size), .bool e, .bool k], .string (b.extract 0 (goes n b))]) (by simp [results, Try.results13, go_sem, *]) rfl ?_
    exact ⟨rfl, (by repeat' (first | (with_reducible exact Below.refl _ _) | (with_reducible refine Below.drew ?_) | (with_reducible refine bo_drewN _ ?_) | (with_reducible refine bo_alloc ?_ _) | (refine bchain ?_ (by with_reducible assumption)) | (with_reducible refine Below.setCell ?_ ?_ _) | go_size))⟩

theorem specPulled (r : Int) (b : ByteArray) (e k : Bool) (n : Int) (w : World) (hb : b.size ≤ maxLen) :
    Calls Try.prog 27 #[.agg #[.int .i64 r, .string b, .bool e, .bool k], .int .i64 n] w fun x w' => x = .returned (if okB r b k then .tuple #[.agg #[.int .i64 r, .string (b.extract (goes n b) b.size), .bool e, .bool k], .string (b.extract 0 (goes n b))] else .tuple #[.agg #[.int .i64 0, .string ⟨#[]⟩, .bool false, .bool false], .string ⟨#[]⟩]) ∧ Below w.heap.size w w' := by
  cases hv : okB r b k
  · go_enter Try.func27, Try.ntmps27
    go_wp2_with fail
    refine (specOk r b e k _ hb).mono ?_; rw [hv]; rintro x w1 ⟨rfl, hb1⟩; have hz1 := hb1.size; (try simp at hz1); have hc1 := fun o => hb1.cell (p := ⟨w.heap.size, o, none⟩) (by first | (simp; done) | (simp; omega) | omega); have hf1 := fun o => hb1.frozen (p := ⟨w.heap.size, o, none⟩) (by first | (simp; done) | (simp; omega) | omega); have hcn1 := fun o => hb1.cell (p := ⟨w.heap.size + 1, o, none⟩) (by first | (simp; done) | (simp; omega) | omega); have hfn1 := fun o => hb1.frozen (p := ⟨w.heap.size + 1, o, none⟩) (by first | (simp; done) | (simp; omega) | omega)
    go_wp2_with fail
    refine bodyPost_ret (v := .tuple #[.agg #[.int .i64 0, .string ⟨#[]⟩, .bool false, .bool false], .string ⟨#[]⟩]) (by simp [results, Try.results27, go_sem, *]) rfl ?_
    exact ⟨rfl, (by repeat' (first | (with_reducible exact Below.refl _ _) | (with_reducible refine Below.drew ?_) | (with_reducible refine bo_drewN _ ?_) | (with_reducible refine bo_alloc ?_ _) | (refine bchain ?_ (by with_reducible assumption)) | (with_reducible refine Below.setCell ?_ ?_ _) | go_size))⟩
  · go_enter Try.func27, Try.ntmps27
    go_wp2_with fail
    refine (specOk r b e k _ hb).mono ?_; rw [hv]; rintro x w1 ⟨rfl, hb1⟩; have hz1 := hb1.size; (try simp at hz1); have hc1 := fun o => hb1.cell (p := ⟨w.heap.size, o, none⟩) (by first | (simp; done) | (simp; omega) | omega); have hf1 := fun o => hb1.frozen (p := ⟨w.heap.size, o, none⟩) (by first | (simp; done) | (simp; omega) | omega); have hcn1 := fun o => hb1.cell (p := ⟨w.heap.size + 1, o, none⟩) (by first | (simp; done) | (simp; omega) | omega); have hfn1 := fun o => hb1.frozen (p := ⟨w.heap.size + 1, o, none⟩) (by first | (simp; done) | (simp; omega) | omega)
    go_wp2_with fail
    refine (pull1 r b e k n _ _ hb (by simp [hc1]) (by simp [hf1])).mono ?_; rw [show (max 0 (min n (b.size : Int))).toNat = goes n b from rfl]; rintro x w2 ⟨rfl, rfl⟩
    go_wp2_with fail
    refine bodyPost_ret (v := .tuple #[.agg #[.int .i64 r, .string (b.extract (goes n b) b.size), .bool e, .bool k], .string (b.extract 0 (goes n b))]) (by simp [results, Try.results27, go_sem, *]) rfl ?_
    exact ⟨rfl, (by repeat' (first | (with_reducible exact Below.refl _ _) | (with_reducible refine Below.drew ?_) | (with_reducible refine bo_drewN _ ?_) | (with_reducible refine bo_alloc ?_ _) | (refine bchain ?_ (by with_reducible assumption)) | (with_reducible refine Below.setCell ?_ ?_ _) | go_size))⟩
end Go.Proofs.Ythjiiemhlijgkaa
